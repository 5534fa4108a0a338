package tiles_test

import (
	"math"
	"math/rand/v2"
	"slices"
	"testing"

	"croft/api"
	"croft/cell"
	"croft/rect"
	"croft/tiles"
	"croft/zorder"
)

const top = math.MaxUint32

func window(x0, y0, x1, y1 uint32) api.Rect {
	return api.Rect{X0: x0, Y0: y0, X1: x1, Y1: y1}
}

func at(x, y uint32, level int) cell.Cell {
	return cell.Cell{X: x, Y: y, Level: level}
}

func TestP41_1Cover(t *testing.T) {
	plane := window(0, 0, top, top)
	for _, x := range []struct {
		r    api.Rect
		most int
		want []cell.Cell
	}{
		{plane, 1, []cell.Cell{cell.Root()}}, {plane, 256, []cell.Cell{cell.Root()}},
		{window(1, 0, 0, 0), 9, nil}, {window(0, 9, 0, 8), 0, nil},
		{window(0, 0, 1<<31-1, 1<<31-1), 1, []cell.Cell{at(0, 0, 1)}}, {window(0, 0, 1<<31, 0), 1, []cell.Cell{cell.Root()}}, {window(0, 0, 1<<31, 0), math.MinInt, []cell.Cell{cell.Root()}},
		{window(0, 0, top, 1<<31-1), 2, []cell.Cell{at(0, 0, 1), at(1<<31, 0, 1)}}, {window(0, 0, top, 1<<31), 3, []cell.Cell{cell.Root()}},
		{window(7, 9, 7, 9), 1, []cell.Cell{at(7, 9, 32)}}, {window(4, 4, 7, 7), 200, []cell.Cell{at(4, 4, 30)}}, {window(4, 4, 7, 6), 1, []cell.Cell{at(4, 4, 30)}},
		{window(4, 4, 7, 6), 4, []cell.Cell{at(4, 4, 31), at(6, 4, 31), at(4, 6, 31), at(6, 6, 31)}},
		{window(4, 4, 7, 6), 5, []cell.Cell{at(4, 4, 31), at(6, 4, 31), at(4, 6, 32), at(5, 6, 32), at(6, 6, 31)}},
		{window(4, 4, 7, 6), math.MaxInt, []cell.Cell{at(4, 4, 31), at(6, 4, 31), at(4, 6, 32), at(5, 6, 32), at(6, 6, 32), at(7, 6, 32)}},
		{window(0, 0, top, 1<<31), 4, []cell.Cell{at(0, 0, 1), at(1<<31, 0, 1), at(0, 1<<31, 1), at(1<<31, 1<<31, 1)}},
	} {
		if got := tiles.Cover(x.r, x.most); !slices.Equal(got, x.want) {
			t.Errorf("Cover(%v, %d): %v, want %v", x.r, x.most, got, x.want)
		}
	}
}

func TestP41_1LeastLevelFirst(t *testing.T) {
	// Two quarters of one level: both become finer before either becomes finer again.
	r := window(1<<31-2, 0, 1<<31+1, 0)
	got := tiles.Cover(r, 2)
	want := []cell.Cell{at(1<<31-2, 0, 31), at(1<<31, 0, 31)}
	if !slices.Equal(got, want) {
		t.Errorf("Cover: %v", got)
	}
	got = tiles.Cover(r, 3)
	want = []cell.Cell{at(1<<31-2, 0, 32), at(1<<31-1, 0, 32), at(1<<31, 0, 31)}
	if !slices.Equal(got, want) {
		t.Errorf("Cover with one more: %v", got)
	}
}

func TestP41_1GoesOn(t *testing.T) {
	// A cell for whose quarters there is no room does not end it while there is room for those of another.
	for _, x := range []struct {
		r    api.Rect
		most int
		want []cell.Cell
	}{
		{window(0, 0, 0, 2), 2, []cell.Cell{at(0, 0, 31), at(0, 2, 32)}}, {window(0, 0, 2, 0), 2, []cell.Cell{at(0, 0, 31), at(2, 0, 32)}},
		{window(0, 0, 0, 2), 1, []cell.Cell{at(0, 0, 30)}}, {window(0, 0, 0, 2), 3, []cell.Cell{at(0, 0, 32), at(0, 1, 32), at(0, 2, 32)}},
		{window(0, 0, 8, 0), 2, []cell.Cell{at(0, 0, 29), at(8, 0, 32)}}, {window(7, 0, 15, 0), 2, []cell.Cell{at(7, 0, 32), at(8, 0, 29)}},
		{window(0, 0, 8, 0), 3, []cell.Cell{at(0, 0, 30), at(4, 0, 30), at(8, 0, 32)}}, {window(0, 0, 8, 0), 4, []cell.Cell{at(0, 0, 31), at(2, 0, 31), at(4, 0, 30), at(8, 0, 32)}},
		{window(0, 0, 4, 4), 4, []cell.Cell{at(0, 0, 30), at(4, 0, 30), at(0, 4, 30), at(4, 4, 32)}}, {window(3, 3, 7, 7), 5, []cell.Cell{at(3, 3, 32), at(4, 2, 31), at(6, 2, 31), at(0, 4, 30), at(4, 4, 30)}},
		{window(top-2, top, top, top), 2, []cell.Cell{at(top-2, top, 32), at(top-1, top-1, 31)}},
	} {
		if got := tiles.Cover(x.r, x.most); !slices.Equal(got, x.want) {
			t.Errorf("Cover(%v, %d): %v, want %v", x.r, x.most, got, x.want)
		}
	}
}

// plainly makes a cover as the document tells it: the levels from the least on, the cells of each in their order.
func plainly(w api.Rect, most int) []cell.Cell {
	l := []cell.Cell{cell.Root()}
	for step := true; step; {
		step = false
		for level := 0; level < api.Levels && !step; level++ {
			for i := 0; i < len(l) && !step; i++ {
				kids := finer(l[i], w)
				if l[i].Level != level || rect.Within(cell.Rect(l[i]), w) || len(l)-1+len(kids) > most {
					continue
				}
				l = append(append(slices.Clone(l[:i]), kids...), l[i+1:]...)
				step = true
			}
		}
	}
	return l
}

func finer(c cell.Cell, w api.Rect) []cell.Cell {
	var l []cell.Cell
	for q := range 4 {
		if k := cell.Kid(c, q); !rect.Empty(rect.Cut(cell.Rect(k), w)) {
			l = append(l, k)
		}
	}
	return l
}

func TestP41_1AsTold(t *testing.T) {
	r := rand.New(rand.NewPCG(41, 3))
	for range 400 {
		w := some(r)
		most := 1 + r.IntN(20)
		if got, want := tiles.Cover(w, most), plainly(w, most); !slices.Equal(got, want) {
			t.Fatalf("Cover(%v, %d): %v, want %v", w, most, got, want)
		}
	}
}

func some(r *rand.Rand) api.Rect {
	n := func() uint32 {
		return []uint32{r.Uint32(), uint32(r.IntN(50)), top - uint32(r.IntN(3)), 1 << 31}[r.IntN(4)]
	}
	a, b, c, d := n(), n(), n(), n()
	return window(min(a, b), min(c, d), max(a, b), max(c, d))
}

func TestP41_1HasAll(t *testing.T) {
	r := rand.New(rand.NewPCG(41, 1))
	for range 500 {
		w := some(r)
		most := 1 + r.IntN(40)
		l := tiles.Cover(w, most)
		if len(l) > most || len(l) == 0 {
			t.Fatalf("Cover(%v, %d): %d cells", w, most, len(l))
		}
		all, fits := uint64(0), true
		for i, c := range l {
			if cell.Check(c) != api.OK || !rect.Meets(cell.Rect(c), w) {
				t.Fatalf("Cover(%v, %d): %v", w, most, c)
			}
			for _, o := range l[i+1:] {
				if rect.Meets(cell.Rect(c), cell.Rect(o)) {
					t.Fatalf("Cover(%v, %d): %v and %v", w, most, c, o)
				}
			}
			n, ok := rect.Area(rect.Cut(cell.Rect(c), w))
			all, fits = all+n, fits && ok
		}
		if n, ok := rect.Area(w); n != all || ok != fits {
			t.Fatalf("Cover(%v, %d) has %d of %d places", w, most, all, n)
		}
	}
}

func TestP41_1Order(t *testing.T) {
	l := []cell.Cell{at(1<<31, 0, 1), at(5, 5, 40), at(0, 1<<31, 1), at(9, 9, -3), at(0, 0, 7), at(0, 0, 2), at(7, 3, 31), at(0, 0, 7)}
	want := []cell.Cell{at(0, 0, 0), at(0, 0, 2), at(0, 0, 7), at(0, 0, 7), at(6, 2, 31), at(5, 5, 32), at(1<<31, 0, 1), at(0, 1<<31, 1)}
	if got := tiles.Order(l); !slices.Equal(got, want) {
		t.Errorf("Order: %v, want %v", got, want)
	}
	if len(tiles.Order(nil)) != 0 {
		t.Error("Order of nothing")
	}
}

func TestP41_1Spans(t *testing.T) {
	for i, x := range []struct {
		l    []cell.Cell
		want [][2]uint64
	}{
		{nil, nil}, {[]cell.Cell{cell.Root()}, [][2]uint64{{0, math.MaxUint64}}}, {[]cell.Cell{at(3, 9, -5), at(7, 7, 32)}, [][2]uint64{{0, math.MaxUint64}}}, {[]cell.Cell{at(1, 1, 32)}, [][2]uint64{{3, 3}}},
		{[]cell.Cell{at(1, 1, 32), at(0, 1, 32), at(0, 0, 32)}, [][2]uint64{{0, 0}, {2, 3}}}, {[]cell.Cell{at(1<<31, 1<<31, 1), at(0, 0, 1)}, [][2]uint64{{0, 1<<62 - 1}, {3 << 62, math.MaxUint64}}},
		{[]cell.Cell{at(0, 0, 1), at(1<<31, 0, 1)}, [][2]uint64{{0, 1<<63 - 1}}}, {[]cell.Cell{at(0, 0, 1), at(5, 5, 32), at(0, 0, 1), at(0, 0, 20)}, [][2]uint64{{0, 1<<62 - 1}}}, {[]cell.Cell{at(top, top, 32), at(1<<31, 1<<31, 1)}, [][2]uint64{{3 << 62, math.MaxUint64}}},
		{[]cell.Cell{at(0, 1, 32), at(0, 0, 32)}, [][2]uint64{{0, 0}, {2, 2}}},
	} {
		if got := tiles.Spans(x.l); !slices.Equal(got, x.want) {
			t.Errorf("%d: %v, want %v", i, got, x.want)
		}
	}
	r := rand.New(rand.NewPCG(41, 2))
	for range 300 {
		var l []cell.Cell
		for range r.IntN(9) {
			l = append(l, at(uint32(r.IntN(8)), uint32(r.IntN(8)), 28+r.IntN(6)))
		}
		spans := tiles.Spans(l)
		for i, s := range spans {
			if s[0] > s[1] || i > 0 && spans[i-1][1]+1 >= s[0] {
				t.Fatalf("Spans(%v): %v", l, spans)
			}
		}
		for x := range uint32(16) {
			for y := range uint32(16) {
				z := zorder.Join(x, y)
				in := slices.ContainsFunc(spans, func(s [2]uint64) bool { return s[0] <= z && z <= s[1] })
				if in != slices.ContainsFunc(l, func(c cell.Cell) bool { return cell.Has(c, x, y) }) {
					t.Fatalf("Spans(%v): %v, and %d, %d", l, spans, x, y)
				}
			}
		}
	}
}

func TestP41_2Memory(t *testing.T) {
	l := []cell.Cell{at(5, 5, 40), at(0, 0, 7)}
	tiles.Order(l)[0].X = 9
	tiles.Spans(l)[0][0] = 9
	if !slices.Equal(l, []cell.Cell{at(5, 5, 40), at(0, 0, 7)}) {
		t.Error("what was handed in is changed")
	}
	w := window(4, 4, 7, 6)
	tiles.Cover(w, 9)[0].X = 9
	if tiles.Cover(w, 9)[0].X != 4 {
		t.Error("answers share")
	}
}
