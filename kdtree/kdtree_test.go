package kdtree_test

import (
	"cmp"
	"math"
	"math/rand/v2"
	"slices"
	"testing"

	"croft/api"
	"croft/kdtree"
	"croft/point"
	"croft/wide"
)

const top = math.MaxUint32

func some(r *rand.Rand, n int) []api.Point {
	var l []api.Point
	small := r.IntN(2) == 0
	for range n {
		p := api.Point{Id: r.IntN(150) - 5, X: r.Uint32(), Y: r.Uint32(), Data: "a long text that no store would take"}
		if small {
			p.X, p.Y = uint32(r.IntN(6)), uint32(r.IntN(6))
		} else if r.IntN(4) == 0 {
			p.X, p.Y = top*uint32(r.IntN(2)), top*uint32(r.IntN(2))
		}
		l = append(l, p)
	}
	return l
}

func taken(l []api.Point) []api.Point {
	var all []api.Point
	for _, p := range l {
		if point.Find(all, p.Id) < 0 {
			all = append(all, p)
		}
	}
	return point.Sort(all)
}

// order: the chapter's words.
func order(l []api.Point, depth int) ([]int, int) {
	if len(l) == 0 {
		return nil, 0
	}
	l = slices.Clone(l)
	slices.SortFunc(l, func(a, b api.Point) int {
		if depth%2 == 0 {
			return cmp.Or(cmp.Compare(a.X, b.X), cmp.Compare(a.Id, b.Id))
		}
		return cmp.Or(cmp.Compare(a.Y, b.Y), cmp.Compare(a.Id, b.Id))
	})
	m := len(l) / 2
	a, da := order(l[:m], depth+1)
	b, db := order(l[m+1:], depth+1)
	return slices.Concat([]int{l[m].Id}, a, b), 1 + max(da, db)
}

func TestP44_1Order(t *testing.T) {
	r := rand.New(rand.NewPCG(44, 1))
	for range 500 {
		l := some(r, r.IntN(60))
		k := kdtree.New(l)
		want, depth := order(taken(l), 0)
		if got := k.Order(); !slices.Equal(got, want) {
			t.Fatalf("Order: %v, want %v", got, want)
		}
		if got := k.Depth(); got != depth {
			t.Fatalf("Depth: %d, want %d", got, depth)
		}
	}
	k := kdtree.New([]api.Point{{Id: 1, X: 3}, {Id: 2, X: 2}, {Id: 3, X: 1}, {Id: 2, X: 77}})
	if got := k.Order(); !slices.Equal(got, []int{2, 3, 1}) || k.Depth() != 2 {
		t.Errorf("Order of three: %v, %d deep", got, k.Depth())
	}
	if k := kdtree.New([]api.Point{{Id: 5}}); k.Depth() != 1 || !slices.Equal(k.Order(), []int{5}) {
		t.Error("of one point")
	}
}

func TestP44_1Range(t *testing.T) {
	r := rand.New(rand.NewPCG(44, 2))
	for range 300 {
		l := some(r, r.IntN(80))
		k := kdtree.New(l)
		l = taken(l)
		for range 20 {
			n := func() uint32 { return []uint32{r.Uint32(), uint32(r.IntN(6)), 0, top}[r.IntN(4)] }
			w := api.Rect{X0: n(), Y0: n(), X1: n(), Y1: n()}
			var want []api.Point
			for _, p := range l {
				if p.X >= w.X0 && p.X <= w.X1 && p.Y >= w.Y0 && p.Y <= w.Y1 {
					want = append(want, p)
				}
			}
			if got := k.Range(w); !slices.Equal(got, want) {
				t.Fatalf("Range(%v): %v, want %v", w, got, want)
			}
		}
	}
}

func TestP44_1Near(t *testing.T) {
	r := rand.New(rand.NewPCG(44, 3))
	for range 300 {
		l := some(r, r.IntN(120))
		tree := kdtree.New(l)
		l = taken(l)
		for range 20 {
			x, y := []uint32{r.Uint32(), uint32(r.IntN(6)), top}[r.IntN(3)], []uint32{r.Uint32(), uint32(r.IntN(6)), 0}[r.IntN(3)]
			k := r.IntN(80) - 5
			want := slices.Clone(l)
			slices.SortFunc(want, func(a, b api.Point) int {
				return cmp.Or(wide.Cmp(wide.Between(x, y, a.X, a.Y), wide.Between(x, y, b.X, b.Y)), cmp.Compare(a.Id, b.Id))
			})
			want = want[:min(max(k, 0), 64, len(want))]
			if got := tree.Near(x, y, k); !slices.Equal(got, want) {
				t.Fatalf("Near(%d, %d, %d): %v, want %v", x, y, k, got, want)
			}
		}
		if n := len(tree.Near(1, 1, math.MaxInt)); n != min(64, len(l)) || len(tree.Near(1, 1, math.MinInt)) != 0 {
			t.Fatalf("Near of all: %d", n)
		}
	}
}

func TestP44_1Nothing(t *testing.T) {
	for _, k := range []*kdtree.Tree{nil, {}, kdtree.New(nil), kdtree.New([]api.Point{})} {
		if len(k.Range(api.Rect{X1: top, Y1: top})) != 0 || len(k.Near(1, 1, 9)) != 0 || len(k.Order()) != 0 || k.Depth() != 0 {
			t.Error("of nothing: something")
		}
	}
}

func TestP44_2Memory(t *testing.T) {
	l := []api.Point{{Id: 3, X: 5}, {Id: 1, X: 7}, {Id: 2, X: 1}}
	k := kdtree.New(l)
	if !slices.Equal(l, []api.Point{{Id: 3, X: 5}, {Id: 1, X: 7}, {Id: 2, X: 1}}) {
		t.Error("what was handed in is changed")
	}
	l[0].Id = 9
	k.Range(api.Rect{X1: 9, Y1: 9})[0].Id = 9
	k.Near(0, 0, 2)[0].Id = 9
	k.Order()[0] = 9
	if got := k.Near(0, 0, 3); !slices.Equal(got, []api.Point{{Id: 2, X: 1}, {Id: 3, X: 5}, {Id: 1, X: 7}}) || k.Order()[0] != 3 {
		t.Errorf("answers share: %v", got)
	}
}
