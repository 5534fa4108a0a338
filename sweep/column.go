package sweep

import (
	"slices"

	"croft/api"
)

// column tells how windows lie above one another, part within part, each the half of the one at half its place.
type column struct {
	heights []uint64
	parts   []part
}

// part of a column: how many windows have it wholly, and what is so within it.
type part struct {
	whole   int
	deepest int
	covered uint64
}

func newColumn(heights []uint64) *column {
	slices.Sort(heights)
	heights = slices.Compact(heights)
	return &column{heights, make([]part, 4*len(heights)+2)}
}

// add lets a window come, or go.
func (c *column) add(r api.Rect, by int) {
	from, _ := slices.BinarySearch(c.heights, uint64(r.Y0))
	to, _ := slices.BinarySearch(c.heights, uint64(r.Y1)+1)
	c.change(1, 0, len(c.heights)-1, from, to, by)
}

// change changes the part at, which goes from the height low to high, as far as it is from from to to.
func (c *column) change(at, low, high, from, to, by int) {
	if to <= low || high <= from {
		return
	}
	p := &c.parts[at]
	if from <= low && high <= to {
		p.whole += by
	} else {
		middle := (low + high) / 2
		c.change(2*at, low, middle, from, to, by)
		c.change(2*at+1, middle, high, from, to, by)
	}
	var lower, upper part
	if high-low > 1 {
		lower, upper = c.parts[2*at], c.parts[2*at+1]
	}
	p.deepest = p.whole + max(lower.deepest, upper.deepest)
	p.covered = lower.covered + upper.covered
	if p.whole > 0 {
		p.covered = c.heights[high] - c.heights[low]
	}
}
