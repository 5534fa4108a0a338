package sweep_test

import (
	"math"
	"math/rand/v2"
	"slices"
	"testing"

	"croft/api"
	"croft/sweep"
)

const top = math.MaxUint32

func window(x0, y0, x1, y1 uint32) api.Rect {
	return api.Rect{X0: x0, Y0: y0, X1: x1, Y1: y1}
}

func some(r *rand.Rand, n int) []api.Rect {
	var l []api.Rect
	for range n {
		w := window(uint32(r.IntN(9)), uint32(r.IntN(9)), uint32(r.IntN(9)), uint32(r.IntN(9)))
		if r.IntN(4) > 0 {
			w = window(min(w.X0, w.X1), min(w.Y0, w.Y1), max(w.X0, w.X1), max(w.Y0, w.Y1))
		}
		l = append(l, w)
	}
	return l
}

func has(w api.Rect, x, y uint32) bool {
	return w.X0 <= x && x <= w.X1 && w.Y0 <= y && y <= w.Y1
}

func TestP39_1PlaceByPlace(t *testing.T) {
	r := rand.New(rand.NewPCG(39, 1))
	for range 2000 {
		l := some(r, r.IntN(9))
		met := map[[2]int]bool{}
		depth, union := 0, uint64(0)
		for x := range uint32(9) {
			for y := range uint32(9) {
				n := 0
				for i, a := range l {
					if !has(a, x, y) {
						continue
					}
					n++
					for k := i + 1; k < len(l); k++ {
						if has(l[k], x, y) {
							met[[2]int{i, k}] = true
						}
					}
				}
				depth = max(depth, n)
				if n > 0 {
					union++
				}
			}
		}
		var want [][2]int
		for i := range l {
			for k := range l {
				if met[[2]int{i, k}] {
					want = append(want, [2]int{i, k})
				}
			}
		}
		if got := sweep.Pairs(l); !slices.Equal(got, want) {
			t.Fatalf("Pairs(%v): %v, want %v", l, got, want)
		}
		if got := sweep.Depth(l); got != depth {
			t.Fatalf("Depth(%v): %d, want %d", l, got, depth)
		}
		if got, ok := sweep.Union(l); got != union || !ok {
			t.Fatalf("Union(%v): %d, want %d", l, got, union)
		}
	}
}

func TestP39_1Nothing(t *testing.T) {
	for _, l := range [][]api.Rect{nil, {}, {window(1, 0, 0, 0)}, {window(1, 0, 0, 0), window(0, top, top, 0)}} {
		n, ok := sweep.Union(l)
		if len(sweep.Pairs(l)) != 0 || sweep.Depth(l) != 0 || n != 0 || !ok {
			t.Errorf("of no places: %v", l)
		}
	}
}

func TestP39_1Great(t *testing.T) {
	plane := window(0, 0, top, top)
	for i, x := range []struct {
		l     []api.Rect
		depth int
		union uint64
		ok    bool
	}{
		{[]api.Rect{window(3, 4, 3, 4)}, 1, 1, true}, {[]api.Rect{plane}, 1, 0, false}, {[]api.Rect{plane, window(7, 7, 9, 9), plane}, 3, 0, false},
		{[]api.Rect{window(0, 0, top, top-1)}, 1, (1 << 32) * (1<<32 - 1), true}, {[]api.Rect{window(0, 0, top, 1<<31-1), window(0, 1<<31, top, top)}, 1, 0, false},
		{[]api.Rect{window(0, 0, 1<<31, top), window(1<<31, 0, top, top)}, 2, 0, false}, {[]api.Rect{window(1, 0, top, top), window(0, 1, 0, top)}, 1, math.MaxUint64, true},
		{[]api.Rect{window(top, top, top, top), window(top, top, top, top), window(0, 0, 0, 0)}, 2, 2, true}, {[]api.Rect{window(0, 0, 5, 5), window(6, 0, 9, 5), window(0, 6, 9, 9)}, 1, 100, true},
	} {
		if got := sweep.Depth(x.l); got != x.depth {
			t.Errorf("%d: Depth %d", i, got)
		}
		if got, ok := sweep.Union(x.l); got != x.union || ok != x.ok {
			t.Errorf("%d: Union %d, %v", i, got, ok)
		}
	}
}

func TestP39_1Many(t *testing.T) {
	var l []api.Rect
	for i := range uint32(20000) {
		l = append(l, window(i*10, i, i*10+14, i+1<<20))
	}
	if got := sweep.Depth(l); got != 2 {
		t.Errorf("Depth of many: %d", got)
	}
	if got := sweep.Pairs(l); len(got) != 19999 || got[7] != [2]int{7, 8} {
		t.Errorf("Pairs of many: %d", len(got))
	}
}

func TestP39_2Memory(t *testing.T) {
	l := []api.Rect{window(5, 0, 9, 9), window(1, 0, 6, 9), window(0, 0, 2, 2)}
	before := slices.Clone(l)
	sweep.Pairs(l)[0][0] = 9
	sweep.Depth(l)
	sweep.Union(l)
	if !slices.Equal(l, before) || sweep.Pairs(l)[0] != [2]int{0, 1} {
		t.Error("what was handed in is changed, or answers share")
	}
}
