package layout_test

import (
	"math"
	"testing"

	"croft/api"
	"croft/layout"
)

func bad() []api.Geometry {
	return []api.Geometry{{}, {Segments: 5, Size: 4}, {Segments: 33, Size: 4}, {Segments: 6, Size: 3}, {Segments: 6, Size: 33}, {Segments: -6, Size: 8},
		{Segments: math.MaxInt, Size: math.MaxInt}, {Segments: math.MinInt, Size: 8}, {Segments: 8, Size: math.MinInt}}
}

func TestP11_1Check(t *testing.T) {
	for segs := 6; segs <= 32; segs++ {
		for size := 4; size <= 32; size++ {
			if e := layout.Check(api.Geometry{Segments: segs, Size: size}); e != api.OK {
				t.Errorf("Check of %d, %d: %d", segs, size, e)
			}
		}
	}
	for _, g := range bad() {
		if e := layout.Check(g); e != api.ErrRange {
			t.Errorf("Check(%v): %d", g, e)
		}
		if n := layout.Sectors(g); n != 0 {
			t.Errorf("Sectors(%v): %d", g, n)
		}
		if n := layout.Segment(g, 0); n != 0 {
			t.Errorf("Segment(%v, 0): %d", g, n)
		}
		if a, b, ok := layout.Where(g, 9); a != 0 || b != 0 || ok {
			t.Errorf("Where(%v, 9): %d, %d, %v", g, a, b, ok)
		}
		if a, ok := layout.Address(g, 0, 0); a != 0 || ok {
			t.Errorf("Address(%v, 0, 0): %d, %v", g, a, ok)
		}
	}
}

func TestP11_1Sectors(t *testing.T) {
	for _, x := range []struct{ segs, size, want int }{{6, 4, 33}, {32, 32, 1033}, {7, 5, 44}} {
		if n := layout.Sectors(api.Geometry{Segments: x.segs, Size: x.size}); n != x.want {
			t.Errorf("Sectors of %d, %d: %d", x.segs, x.size, n)
		}
	}
}

func TestP11_1Region(t *testing.T) {
	for epoch, want := range map[int]int{0: 1, 1: 5, 2: 1, 3: 5, 1<<32 - 1: 5, 1 << 32: 1, -1: 5, -2: 1, math.MinInt: 1, math.MaxInt: 5} {
		if n := layout.Region(epoch); n != want {
			t.Errorf("Region(%d): %d", epoch, n)
		}
	}
}

func TestP11_1Segment(t *testing.T) {
	g := api.Geometry{Segments: 7, Size: 5}
	for n, want := range map[int]int{0: 9, 1: 14, 6: 39, 7: 0, -1: 0, math.MaxInt: 0, math.MinInt: 0} {
		if got := layout.Segment(g, n); got != want {
			t.Errorf("Segment(%d): %d", n, got)
		}
	}
}

func TestP11_1Where(t *testing.T) {
	g := api.Geometry{Segments: 7, Size: 5}
	for seg := range 7 {
		for off := range 5 {
			want := 9 + seg*5 + off
			if at, ok := layout.Address(g, seg, off); at != want || !ok {
				t.Errorf("Address(%d, %d): %d, %v", seg, off, at, ok)
			}
			if a, b, ok := layout.Where(g, want); a != seg || b != off || !ok {
				t.Errorf("Where(%d): %d, %d, %v", want, a, b, ok)
			}
		}
	}
	for _, at := range []int{0, 1, 8, 44, 45, -1, math.MinInt, math.MaxInt} {
		if a, b, ok := layout.Where(g, at); a != 0 || b != 0 || ok {
			t.Errorf("Where(%d): %d, %d, %v", at, a, b, ok)
		}
	}
	for _, x := range [][2]int{{-1, 0}, {7, 0}, {0, -1}, {0, 5}, {6, 5}, {math.MaxInt, math.MaxInt}, {0, math.MaxInt}, {0, math.MinInt}} {
		if at, ok := layout.Address(g, x[0], x[1]); at != 0 || ok {
			t.Errorf("Address(%v): %d, %v", x, at, ok)
		}
	}
}

func TestP11_2NothingKept(t *testing.T) {
	g := api.Geometry{Segments: 7, Size: 5}
	a, _ := layout.Address(g, 3, 2)
	layout.Address(api.Geometry{Segments: 32, Size: 32}, 3, 2)
	if b, _ := layout.Address(g, 3, 2); a != b {
		t.Errorf("the same question, another answer: %d, %d", a, b)
	}
}
