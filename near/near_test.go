package near_test

import (
	"cmp"
	"math"
	"math/rand/v2"
	"slices"
	"testing"

	"croft/api"
	"croft/grove"
	"croft/near"
	"croft/tree"
	"croft/wide"
)

const top = math.MaxUint32

func scattered(r *rand.Rand, n int) []api.Point {
	var l []api.Point
	for _, id := range r.Perm(n) {
		p := api.Point{Id: id + 1, X: r.Uint32(), Y: r.Uint32(), Data: "d"}
		if r.IntN(3) == 0 {
			p.X, p.Y = 1<<31+uint32(r.IntN(5)), 1<<31-uint32(r.IntN(5))
		}
		if r.IntN(5) == 0 {
			p.X, p.Y = top*uint32(r.IntN(2)), top*uint32(r.IntN(2))
		}
		l = append(l, p)
	}
	return l
}

func place(r *rand.Rand) (uint32, uint32) {
	switch r.IntN(4) {
	case 0:
		return top * uint32(r.IntN(2)), top * uint32(r.IntN(2))
	case 1:
		return 1<<31 + uint32(r.IntN(5)), 1<<31 - uint32(r.IntN(5))
	}
	return r.Uint32(), r.Uint32()
}

func sorted(l []api.Point, x, y uint32) []api.Point {
	l = slices.Clone(l)
	slices.SortFunc(l, func(a, b api.Point) int {
		return cmp.Or(wide.Cmp(wide.Between(x, y, a.X, a.Y), wide.Between(x, y, b.X, b.Y)), cmp.Compare(a.Id, b.Id))
	})
	return l
}

func build(t *testing.T, l []api.Point) *grove.Grove {
	t.Helper()
	g, e := tree.Build(l)
	if e != api.OK {
		t.Fatalf("Build: %d", e)
	}
	return g
}

func TestP25_1Near(t *testing.T) {
	r := rand.New(rand.NewPCG(25, 1))
	for range 60 {
		l := scattered(r, r.IntN(100))
		g := build(t, l)
		for range 30 {
			x, y := place(r)
			want := sorted(l, x, y)
			k := r.IntN(70)
			if got := near.Near(g, x, y, k); !slices.Equal(got, want[:min(k, 64, len(want))]) {
				t.Fatalf("Near(%d, %d, %d): %v, want %v", x, y, k, got, want)
			}
			p, ok := near.First(g, x, y)
			if ok != (len(l) > 0) || ok && p != want[0] || !ok && p != (api.Point{}) {
				t.Fatalf("First(%d, %d): %v, %v", x, y, p, ok)
			}
		}
	}
}

func TestP25_1Limits(t *testing.T) {
	var l []api.Point
	for i := range 80 {
		l = append(l, api.Point{Id: 80 - i, X: 5, Y: uint32(7 + i/9)})
	}
	g := build(t, l)
	want := sorted(l, 5, 5)
	for k, n := range map[int]int{0: 0, -1: 0, math.MinInt: 0, 1: 1, 63: 63, 64: 64, 65: 64, math.MaxInt: 64} {
		if got := near.Near(g, 5, 5, k); !slices.Equal(got, want[:n]) {
			t.Errorf("Near of %d: %v", k, got)
		}
	}
}

func TestP25_1Ties(t *testing.T) {
	l := []api.Point{{Id: 9, X: 1<<31 - 1, Y: 5}, {Id: 3, X: 1<<31 + 1, Y: 5}, {Id: 5, X: 1 << 31, Y: 6}, {Id: 1, X: 1 << 31, Y: 4}, {Id: 7, X: 1 << 31, Y: 6}, {Id: 2, X: 1 << 31, Y: 90}}
	got := near.Near(build(t, l), 1<<31, 5, 9)
	var ids []int
	for _, p := range got {
		ids = append(ids, p.Id)
	}
	if !slices.Equal(ids, []int{1, 3, 5, 7, 9, 2}) {
		t.Errorf("of one distance not by Id: %v", ids)
	}
}

func TestP25_1Within(t *testing.T) {
	r := rand.New(rand.NewPCG(25, 2))
	for range 60 {
		l := scattered(r, r.IntN(100))
		g := build(t, l)
		for range 20 {
			x, y := place(r)
			d := wide.Dist{Lo: r.Uint64()}
			if len(l) > 0 && r.IntN(2) == 0 {
				p := l[r.IntN(len(l))]
				d = wide.Between(x, y, p.X, p.Y)
			}
			var want []api.Point
			for _, p := range sorted(l, x, y) {
				if wide.Cmp(wide.Between(x, y, p.X, p.Y), d) <= 0 {
					want = append(want, p)
				}
			}
			if got := near.Within(g, x, y, d); !slices.Equal(got, want) {
				t.Fatalf("Within(%d, %d, %v): %v, want %v", x, y, d, got, want)
			}
		}
		if got := near.Within(g, 0, 0, wide.Dist{Hi: math.MaxUint64, Lo: math.MaxUint64}); len(got) != len(l) {
			t.Fatalf("Within the whole: %d of %d", len(got), len(l))
		}
	}
}

func TestP25_1Nothing(t *testing.T) {
	loop := grove.New()
	loop.Put(1, api.Node{Kids: [4]int{1, 2, 3, 9}, Counts: [4]int{1, 1, 1, 1}})
	loop.Put(2, api.Node{Leaf: true, Next: 3, Points: []api.Point{{Id: 1, X: 5}}})
	loop.Put(3, api.Node{Leaf: true, Next: 2, Points: []api.Point{{Id: 1}}})
	near.Near(loop, 1, 1, 64)
	near.First(loop, 1, 1)
	near.Within(loop, 1, 1, wide.Dist{Hi: 9})
	for _, g := range []*grove.Grove{nil, {}, grove.New(), tree.Empty()} {
		if p, ok := near.First(g, 1, 1); ok || p != (api.Point{}) || len(near.Near(g, 1, 1, 9)) != 0 || len(near.Within(g, 1, 1, wide.Dist{Hi: 9})) != 0 {
			t.Error("of nothing: something")
		}
	}
}

func TestP25_2Memory(t *testing.T) {
	g := build(t, []api.Point{{Id: 1}, {Id: 2}})
	near.Near(g, 0, 0, 2)[0].Id = 9
	near.Within(g, 0, 0, wide.Dist{})[1].Id = 9
	if got := near.Near(g, 0, 0, 2); got[0].Id != 1 || got[1].Id != 2 {
		t.Error("answers share")
	}
}
