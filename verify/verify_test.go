package verify_test

import (
	"math"
	"math/rand/v2"
	"slices"
	"testing"

	"croft/api"
	"croft/grove"
	"croft/tree"
	"croft/verify"
)

const top = math.MaxUint32

func at(id int, x, y uint32) api.Point {
	return api.Point{Id: id, X: x, Y: y}
}

func leaf(next int, l ...api.Point) api.Node {
	return api.Node{Leaf: true, Next: next, Points: l}
}

func corrupt(t *testing.T, why string, g *grove.Grove) {
	t.Helper()
	if e := verify.Check(g); e != api.ErrCorrupt {
		t.Errorf("%s: %d", why, e)
	}
}

func five(t *testing.T) *grove.Grove {
	t.Helper()
	g := grove.New()
	g.Put(1, api.Node{Kids: [4]int{3, 7, 0, 9}, Counts: [4]int{2, 1, 0, 2}})
	g.Put(3, leaf(0, at(4, 5, 5), at(6, 1, 1)))
	g.Put(7, leaf(0, at(5, top, 5)))
	g.Put(9, leaf(0, at(1, top, top), at(2, top, top)))
	if e := verify.Check(g); e != api.OK {
		t.Fatalf("a tree: %d", e)
	}
	return g
}

func TestP26_1Trees(t *testing.T) {
	r := rand.New(rand.NewPCG(26, 1))
	for range 200 {
		var l []api.Point
		for i := range r.IntN(60) {
			p := at(i+1, r.Uint32(), r.Uint32())
			if r.IntN(2) == 0 {
				p.X, p.Y = 7, uint32(r.IntN(2))
			}
			l = append(l, p)
		}
		g, e := tree.Build(l)
		if e != api.OK {
			t.Fatalf("Build: %d", e)
		}
		for range 5 {
			if e := verify.Check(g); e != api.OK {
				t.Fatalf("a tree: %d", e)
			}
			if got := verify.Reached(g); !slices.Equal(got, g.Ids()) {
				t.Fatalf("Reached: %v of %v", got, g.Ids())
			}
			if len(l) == 0 {
				break
			}
			if g, e = tree.Delete(g, l[0]); e != api.OK {
				t.Fatalf("Delete: %d", e)
			}
			l = l[1:]
		}
	}
	if e := verify.Check(tree.Empty()); e != api.OK {
		t.Errorf("the empty tree: %d", e)
	}
}

func TestP26_1Nothing(t *testing.T) {
	alone := grove.New()
	alone.Put(2, leaf(3))
	alone.Put(3, leaf(0))
	for _, g := range []*grove.Grove{nil, {}, grove.New(), alone} {
		corrupt(t, "without a root", g)
		if got := verify.Reached(g); len(got) != 0 {
			t.Errorf("Reached without a root: %v", got)
		}
	}
}

func TestP26_1Changed(t *testing.T) {
	for why, n := range map[string]struct {
		id int
		n  api.Node
	}{
		"another node":                {200, leaf(0)},
		"a count too low":             {1, api.Node{Kids: [4]int{3, 7, 0, 9}, Counts: [4]int{2, 1, 0, 1}}},
		"a count too high":            {1, api.Node{Kids: [4]int{3, 7, 0, 9}, Counts: [4]int{3, 1, 0, 2}}},
		"two quarters changed":        {1, api.Node{Kids: [4]int{9, 7, 0, 3}, Counts: [4]int{2, 1, 0, 2}}},
		"a kid in two quarters":       {1, api.Node{Kids: [4]int{3, 7, 7, 9}, Counts: [4]int{2, 1, 1, 2}}},
		"a kid that is not there":     {1, api.Node{Kids: [4]int{3, 7, 8, 9}, Counts: [4]int{2, 1, 1, 2}}},
		"a kid that is not told":      {1, api.Node{Kids: [4]int{3, 0, 0, 9}, Counts: [4]int{2, 0, 0, 2}}},
		"the root is its kid":         {1, api.Node{Kids: [4]int{3, 7, 1, 9}, Counts: [4]int{2, 1, 5, 2}}},
		"a Next of few":               {3, leaf(200, at(4, 5, 5), at(6, 1, 1))},
		"a point elsewhere":           {3, leaf(0, at(4, 5, 5), at(6, 1<<31, 1))},
		"an Id twice":                 {3, leaf(0, at(4, 5, 5), at(5, 1, 1))},
		"a leaf without points":       {7, leaf(0)},
		"a node of few":               {3, api.Node{Kids: [4]int{200}, Counts: [4]int{2}}},
		"a leaf with another's":       {9, leaf(0, at(1, top, top), at(2, 1, 1))},
		"Next of a leaf that's a kid": {7, leaf(3, at(5, top, 5))},
	} {
		g := five(t)
		g.Put(n.id, n.n)
		corrupt(t, why, g)
	}
	g := five(t)
	g.Drop(7)
	corrupt(t, "a kid is gone", g)
	g = five(t)
	g.Drop(1)
	corrupt(t, "the root is gone", g)
	few := grove.New()
	few.Put(1, api.Node{Kids: [4]int{2, 3}, Counts: [4]int{2, 2}})
	few.Put(2, leaf(0, at(1, 0, 0), at(2, 0, 0)))
	few.Put(3, leaf(0, at(3, top, 0), at(4, top, 0)))
	corrupt(t, "a node of four points", few)
}

func chain(t *testing.T, n int) *grove.Grove {
	t.Helper()
	var l []api.Point
	for i := range n {
		l = append(l, at(10*i+10, 3, 3))
	}
	g, e := tree.Build(l)
	if e != api.OK || verify.Check(g) != api.OK {
		t.Fatalf("a chain: %d", e)
	}
	return g
}

func TestP26_1Chain(t *testing.T) {
	find := func(g *grove.Grove, n int) int {
		for _, id := range g.Ids() {
			if x, _ := g.Get(id); x.Leaf && len(x.Points) > 0 && x.Points[0].Id == n {
				return id
			}
		}
		return 0
	}
	change := func(why string, first int, f func(g *grove.Grove, n *api.Node)) {
		t.Helper()
		g := chain(t, 10)
		id := find(g, first)
		n, _ := g.Get(id)
		f(g, &n)
		if e := g.Put(id, n); e != api.OK {
			t.Fatalf("%s: %d", why, e)
		}
		corrupt(t, why, g)
	}
	change("not in order", 90, func(g *grove.Grove, n *api.Node) { n.Points[0].Id = 75 })
	change("an Id twice", 90, func(g *grove.Grove, n *api.Node) { n.Points[0].Id = 80 })
	change("elsewhere", 90, func(g *grove.Grove, n *api.Node) { n.Points[0].X = 4 })
	change("one too few in the middle", 50, func(g *grove.Grove, n *api.Node) { n.Points = n.Points[1:] })
	change("none in the last", 90, func(g *grove.Grove, n *api.Node) { n.Points = nil })
	change("cut off", 50, func(g *grove.Grove, n *api.Node) { n.Next = 0 })
	change("a ring", 90, func(g *grove.Grove, n *api.Node) { n.Next = find(g, 10) })
	change("its own next", 90, func(g *grove.Grove, n *api.Node) { n.Next = find(g, 90) })
	change("next is no leaf", 90, func(g *grove.Grove, n *api.Node) { n.Next = 1 })
	change("another leaf behind", 90, func(g *grove.Grove, n *api.Node) {
		id, _ := g.Fresh()
		g.Put(id, leaf(0, at(999, 3, 3)))
		n.Next = id
	})
	eight := chain(t, 8)
	id, _ := eight.Fresh()
	eight.Put(id, leaf(0))
	last := find(eight, 50)
	n, _ := eight.Get(last)
	n.Next = id
	eight.Put(last, n)
	corrupt(t, "an empty leaf behind", eight)
}

func TestP26_1Deep(t *testing.T) {
	g := chain(t, 5)
	// The leaf of level 32 becomes a node of its own, one level too deep.
	for _, id := range g.Ids() {
		n, _ := g.Get(id)
		if n.Leaf && n.Next != 0 {
			fresh, _ := g.Fresh()
			g.Put(fresh, n)
			g.Put(id, api.Node{Kids: [4]int{fresh}, Counts: [4]int{5}})
			break
		}
	}
	corrupt(t, "deeper than the levels", g)
}

func TestP26_1Reached(t *testing.T) {
	g := five(t)
	g.Put(200, leaf(201))
	g.Put(201, leaf(0))
	if got := verify.Reached(g); !slices.Equal(got, []int{1, 3, 7, 9}) {
		t.Errorf("Reached: %v", got)
	}
	g.Put(7, leaf(200))
	if got := verify.Reached(g); !slices.Equal(got, []int{1, 3, 7, 9, 200, 201}) {
		t.Errorf("Reached: %v", got)
	}
	g.Put(201, leaf(200))
	g.Put(9, api.Node{Kids: [4]int{1, 9}, Counts: [4]int{1, 1}})
	if got := verify.Reached(g); !slices.Equal(got, []int{1, 3, 7, 9, 200, 201}) {
		t.Errorf("Reached in a ring: %v", got)
	}
}

func TestP26_1AnyNodes(t *testing.T) {
	r := rand.New(rand.NewPCG(26, 2))
	for range 3000 {
		g := grove.New()
		for id := 1; id <= 6; id++ {
			switch r.IntN(3) {
			case 0:
				var n api.Node
				for q := range 4 {
					if k := r.IntN(8); k > 0 {
						n.Kids[q], n.Counts[q] = k, 1+r.IntN(4)
					}
				}
				g.Put(id, n)
			case 1:
				g.Put(id, leaf(r.IntN(8), at(id, r.Uint32(), r.Uint32())))
			}
		}
		verify.Reached(g)
		e := verify.Check(g)
		b, _ := tree.Build(tree.Points(g))
		if e == api.OK && (!slices.Equal(tree.Shape(b), tree.Shape(g)) || len(b.Ids()) != len(g.Ids())) {
			t.Fatalf("no tree, and not corrupt: %v", tree.Shape(g))
		}
	}
}

func TestP26_2Memory(t *testing.T) {
	g := five(t)
	verify.Reached(g)[0] = 9
	verify.Check(g)
	if verify.Reached(g)[0] != 1 || verify.Check(g) != api.OK {
		t.Error("answers share")
	}
}
