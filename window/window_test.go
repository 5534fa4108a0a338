package window_test

import (
	"math"
	"math/rand/v2"
	"slices"
	"testing"

	"croft/api"
	"croft/cell"
	"croft/grove"
	"croft/point"
	"croft/rect"
	"croft/tree"
	"croft/window"
)

const top = math.MaxUint32

func plane() api.Rect {
	return api.Rect{X1: top, Y1: top}
}

func scattered(r *rand.Rand, n int) []api.Point {
	var l []api.Point
	for _, id := range r.Perm(n) {
		p := api.Point{Id: id + 1, X: r.Uint32(), Y: r.Uint32()}
		if r.IntN(3) == 0 {
			p.X, p.Y = uint32(r.IntN(5)), uint32(r.IntN(5))
		}
		if r.IntN(5) == 0 {
			p.X, p.Y = top-uint32(r.IntN(2)), 77
		}
		l = append(l, p)
	}
	return l
}

func build(t *testing.T, l []api.Point) *grove.Grove {
	t.Helper()
	g, e := tree.Build(l)
	if e != api.OK {
		t.Fatalf("Build: %d", e)
	}
	return g
}

func windows(r *rand.Rand) api.Rect {
	n := func() uint32 {
		switch r.IntN(4) {
		case 0:
			return uint32(r.IntN(6))
		case 1:
			return top - uint32(r.IntN(3))
		case 2:
			return 1 << 31
		}
		return r.Uint32()
	}
	w := api.Rect{X0: n(), Y0: n(), X1: n(), Y1: n()}
	if r.IntN(5) > 0 {
		w = api.Rect{X0: min(w.X0, w.X1), Y0: min(w.Y0, w.Y1), X1: max(w.X0, w.X1), Y1: max(w.Y0, w.Y1)}
	}
	return w
}

// visits: the chapter's words, node by node.
func visits(g *grove.Grove, id int, c cell.Cell, r api.Rect) int {
	n, _ := g.Get(id)
	all := 1
	if n.Leaf {
		if n.Next != 0 {
			all += visits(g, n.Next, c, r)
		}
		return all
	}
	box := cell.Rect(c)
	if rect.Within(box, r) || !rect.Meets(box, r) {
		return all
	}
	for q, kid := range n.Kids {
		if kid != 0 && rect.Meets(cell.Rect(cell.Kid(c, q)), r) {
			all += visits(g, kid, cell.Kid(c, q), r)
		}
	}
	return all
}

func TestP24_1Plain(t *testing.T) {
	r := rand.New(rand.NewPCG(24, 1))
	for range 60 {
		l := scattered(r, r.IntN(70))
		g := build(t, l)
		for range 60 {
			w := windows(r)
			var want []api.Point
			for _, p := range point.Sort(l) {
				if w.X0 <= p.X && p.X <= w.X1 && w.Y0 <= p.Y && p.Y <= w.Y1 {
					want = append(want, p)
				}
			}
			if got := window.Range(g, w); !slices.Equal(got, want) {
				t.Fatalf("Range(%v): %v, want %v", w, got, want)
			}
			if got := window.Count(g, w); got != len(want) {
				t.Fatalf("Count(%v): %d, want %d", w, got, len(want))
			}
			if got, want := window.Visits(g, w), visits(g, 1, cell.Root(), w); got != want {
				t.Fatalf("Visits(%v): %d, want %d", w, got, want)
			}
		}
	}
}

func TestP24_1Plane(t *testing.T) {
	l := scattered(rand.New(rand.NewPCG(24, 2)), 60)
	g := build(t, l)
	if got := window.Range(g, plane()); !slices.Equal(got, point.Sort(l)) {
		t.Errorf("Range: %v", got)
	}
	if n, v := window.Count(g, plane()), window.Visits(g, plane()); n != 60 || v != 1 {
		t.Errorf("Count: %d, Visits: %d", n, v)
	}
	for _, w := range []api.Rect{{X0: 1}, {X0: top, Y0: top, X1: 0, Y1: 0}} {
		if n, v := window.Count(g, w), window.Visits(g, w); n != 0 || v != 1 || len(window.Range(g, w)) != 0 {
			t.Errorf("of an empty window: Count %d, Visits %d", n, v)
		}
	}
	e := tree.Empty()
	if n, v := window.Count(e, plane()), window.Visits(e, plane()); n != 0 || v != 1 || len(window.Range(e, plane())) != 0 {
		t.Errorf("of the empty tree: Count %d, Visits %d", n, v)
	}
}

func TestP24_1Chain(t *testing.T) {
	var l []api.Point
	for i := range 10 {
		l = append(l, api.Point{Id: i + 1, X: 3, Y: 3})
	}
	g := build(t, append(l, api.Point{Id: 99, X: top, Y: top}))
	one := api.Rect{X0: 3, Y0: 3, X1: 3, Y1: 3}
	if n, v := window.Count(g, one), window.Visits(g, one); n != 10 || v != 35 {
		t.Errorf("of one place: Count %d, Visits %d", n, v)
	}
	if got := window.Range(g, one); !slices.Equal(got, l) {
		t.Errorf("of one place: %v", got)
	}
	half := api.Rect{X1: 1<<31 - 1, Y1: 1<<31 - 1}
	if n, v := window.Count(g, half), window.Visits(g, half); n != 10 || v != 2 {
		t.Errorf("of a quarter: Count %d, Visits %d", n, v)
	}
}

func TestP24_1NoTree(t *testing.T) {
	loop := grove.New()
	loop.Put(1, api.Node{Kids: [4]int{1, 2, 3, 9}, Counts: [4]int{1, 1, 1, 1}})
	loop.Put(2, api.Node{Leaf: true, Next: 3})
	loop.Put(3, api.Node{Leaf: true, Next: 2, Points: []api.Point{{Id: 1}}})
	for _, g := range []*grove.Grove{nil, {}, grove.New(), loop} {
		for _, w := range []api.Rect{plane(), {}, {X0: 1}, {X1: top}} {
			window.Range(g, w)
			window.Count(g, w)
			window.Visits(g, w)
		}
	}
}

func TestP24_2Memory(t *testing.T) {
	g := build(t, []api.Point{{Id: 1}, {Id: 2}})
	window.Range(g, plane())[0].Id = 9
	if got := window.Range(g, plane()); got[0].Id != 1 || len(g.Ids()) != 1 {
		t.Error("answers share")
	}
}
