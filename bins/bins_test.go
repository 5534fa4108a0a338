package bins_test

import (
	"math"
	"math/rand/v2"
	"slices"
	"testing"

	"croft/api"
	"croft/bins"
	"croft/cell"
	"croft/point"
)

const top = math.MaxUint32

func some(r *rand.Rand, n int) []api.Point {
	var l []api.Point
	for range n {
		p := api.Point{Id: r.IntN(60) - 5, X: r.Uint32(), Y: r.Uint32(), Data: "a long text that no store would take"}
		if r.IntN(3) == 0 {
			p.X, p.Y = 1<<24*uint32(r.IntN(3)), top-uint32(r.IntN(2))
		}
		l = append(l, p)
	}
	return l
}

func taken(l []api.Point) []api.Point {
	var all []api.Point
	for _, p := range l {
		if point.Find(all, p.Id) < 0 {
			all = append(all, p)
		}
	}
	return point.Sort(all)
}

func filter(l []api.Point, is func(p api.Point) bool) []api.Point {
	var all []api.Point
	for _, p := range l {
		if is(p) {
			all = append(all, p)
		}
	}
	return all
}

func TestP43_1Plain(t *testing.T) {
	r := rand.New(rand.NewPCG(43, 1))
	for _, level := range []int{-3, math.MinInt, 0, 1, 2, 5, 8, 9, math.MaxInt} {
		as := min(max(level, 0), 8)
		for range 40 {
			l := some(r, r.IntN(80))
			b := bins.New(l, level)
			l = taken(l)
			if b.Len() != len(l) {
				t.Fatalf("Len: %d, want %d", b.Len(), len(l))
			}
			for range 20 {
				n := func() uint32 { return []uint32{r.Uint32(), 1 << 24, 0, top}[r.IntN(4)] }
				w := api.Rect{X0: n(), Y0: n(), X1: n(), Y1: n()}
				want := filter(l, func(p api.Point) bool { return p.X >= w.X0 && p.X <= w.X1 && p.Y >= w.Y0 && p.Y <= w.Y1 })
				if got := b.Range(w); !slices.Equal(got, want) {
					t.Fatalf("level %d, Range(%v): %v, want %v", level, w, got, want)
				}
				if got := b.Count(w); got != len(want) {
					t.Fatalf("level %d, Count(%v): %d, want %d", level, w, got, len(want))
				}
				x, y := n(), n()
				if len(l) > 0 && r.IntN(2) == 0 {
					x, y = l[0].X, l[0].Y
				}
				c := cell.At(x, y, as)
				want = filter(l, func(p api.Point) bool { return cell.Has(c, p.X, p.Y) })
				if got := b.At(x, y); !slices.Equal(got, want) {
					t.Fatalf("level %d, At(%d, %d): %v, want %v", level, x, y, got, want)
				}
			}
		}
	}
}

func TestP43_1First(t *testing.T) {
	b := bins.New([]api.Point{{Id: 2, X: 5}, {Id: 1, X: 7}, {Id: 2, X: top}}, 3)
	if got := b.Range(api.Rect{X1: top, Y1: top}); !slices.Equal(got, []api.Point{{Id: 1, X: 7}, {Id: 2, X: 5}}) || b.Len() != 2 {
		t.Errorf("the first of each Id: %v", got)
	}
	if len(b.At(top, 0)) != 0 {
		t.Error("the second of an Id is there")
	}
}

func TestP43_1Nothing(t *testing.T) {
	for _, b := range []*bins.Bins{nil, {}, bins.New(nil, 4), bins.New([]api.Point{}, -1)} {
		if len(b.Range(api.Rect{X1: top, Y1: top})) != 0 || b.Count(api.Rect{X1: top, Y1: top}) != 0 || len(b.At(0, 0)) != 0 || b.Len() != 0 {
			t.Error("of nothing: something")
		}
	}
}

func TestP43_2Memory(t *testing.T) {
	l := []api.Point{{Id: 2, X: 5}, {Id: 1, X: 7}}
	b := bins.New(l, 2)
	l[0].Id = 9
	b.At(5, 0)[0].Id = 9
	b.Range(api.Rect{X1: 9, Y1: 9})[0].Id = 9
	if got := b.At(5, 0); !slices.Equal(got, []api.Point{{Id: 1, X: 7}, {Id: 2, X: 5}}) || l[1].Id != 1 {
		t.Errorf("answers share: %v", got)
	}
}
