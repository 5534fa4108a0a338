package grove_test

import (
	"math"
	"slices"
	"testing"

	"croft/api"
	"croft/grove"
	"croft/node"
)

func leaf(ids ...int) api.Node {
	n := api.Node{Leaf: true}
	for _, id := range ids {
		n.Points = append(n.Points, api.Point{Id: id})
	}
	return n
}

func put(t *testing.T, g *grove.Grove, id int, n api.Node) {
	t.Helper()
	if e := g.Put(id, n); e != api.OK {
		t.Fatalf("Put(%d): %d", id, e)
	}
}

func has(t *testing.T, g *grove.Grove, id int, want api.Node) {
	t.Helper()
	if n, ok := g.Get(id); !ok || !node.Same(n, want) {
		t.Errorf("Get(%d): %v, %v", id, n, ok)
	}
}

func hasNot(t *testing.T, g *grove.Grove, id int) {
	t.Helper()
	if n, ok := g.Get(id); ok || !node.Same(n, api.Node{}) {
		t.Errorf("Get(%d): %v, %v", id, n, ok)
	}
}

func TestP22_1Put(t *testing.T) {
	g := grove.New()
	hasNot(t, g, 1)
	put(t, g, 1, leaf(1, 2))
	put(t, g, 255, api.Node{Kids: [4]int{1}, Counts: [4]int{2}})
	has(t, g, 1, leaf(1, 2))
	has(t, g, 255, api.Node{Kids: [4]int{1}, Counts: [4]int{2}})
	put(t, g, 1, leaf())
	has(t, g, 1, leaf())
	for _, id := range []int{0, -1, 256, math.MinInt, math.MaxInt} {
		if e := g.Put(id, leaf()); e != api.ErrRange {
			t.Errorf("Put(%d): %d", id, e)
		}
		if e := g.Put(id, leaf(2, 1)); e != api.ErrState {
			t.Errorf("Put(%d) of one that may not be: %d", id, e)
		}
		hasNot(t, g, id)
	}
	if e := g.Put(1, api.Node{Next: 1}); e != api.ErrState {
		t.Errorf("Put of one that may not be: %d", e)
	}
	has(t, g, 1, leaf())
	if got := g.Ids(); !slices.Equal(got, []int{1, 255}) {
		t.Errorf("Ids: %v", got)
	}
}

func TestP22_1Drop(t *testing.T) {
	g := grove.New()
	put(t, g, 7, leaf(1))
	for _, id := range []int{6, 0, -1, 256, math.MaxInt} {
		if g.Drop(id) {
			t.Errorf("Drop(%d): true", id)
		}
	}
	if !g.Drop(7) || g.Drop(7) {
		t.Error("Drop")
	}
	hasNot(t, g, 7)
	if len(g.Ids()) != 0 {
		t.Errorf("Ids: %v", g.Ids())
	}
}

func TestP22_1Fresh(t *testing.T) {
	g := grove.New()
	for want := 1; want < 256; want++ {
		if id, e := g.Fresh(); id != want || e != api.OK {
			t.Fatalf("Fresh: %d, %d; want %d", id, e, want)
		}
		put(t, g, want, leaf(want))
	}
	if id, e := g.Fresh(); id != 0 || e != api.ErrFull {
		t.Errorf("Fresh of a full one: %d, %d", id, e)
	}
	g.Drop(200)
	g.Drop(9)
	if id, e := g.Fresh(); id != 9 || e != api.OK {
		t.Errorf("Fresh: %d, %d", id, e)
	}
	if got := g.Ids(); len(got) != 253 || !slices.IsSorted(got) {
		t.Errorf("Ids: %v", got)
	}
}

func TestP22_1Clone(t *testing.T) {
	g := grove.New()
	put(t, g, 3, leaf(1))
	put(t, g, 4, leaf(2))
	c := g.Clone()
	put(t, g, 3, leaf(9))
	g.Drop(4)
	put(t, g, 5, leaf(3))
	has(t, c, 3, leaf(1))
	has(t, c, 4, leaf(2))
	hasNot(t, c, 5)
	put(t, c, 6, leaf(4))
	hasNot(t, g, 6)
}

func TestP22_1Changed(t *testing.T) {
	old := grove.New()
	for id := 1; id <= 6; id++ {
		put(t, old, id, leaf(id))
	}
	g := old.Clone()
	if l := g.Changed(old); len(l) != 0 {
		t.Errorf("Changed of nothing: %v", l)
	}
	put(t, g, 255, leaf(9))
	put(t, g, 5, leaf(5, 6))
	put(t, g, 4, leaf(4))
	g.Drop(6)
	g.Drop(2)
	put(t, g, 1, api.Node{Leaf: true, Points: leaf(1).Points, Next: 2})
	want := []api.Entry{{Kind: 1, Id: 1}, {Kind: 2, Id: 2}, {Kind: 1, Id: 5}, {Kind: 2, Id: 6}, {Kind: 1, Id: 255}}
	if l := g.Changed(old); !slices.Equal(l, want) {
		t.Errorf("Changed: %v", l)
	}
	for _, none := range []*grove.Grove{nil, {}, grove.New()} {
		if l := old.Changed(none); len(l) != 6 || l[0] != (api.Entry{Kind: 1, Id: 1}) || l[5] != (api.Entry{Kind: 1, Id: 6}) {
			t.Errorf("Changed of all: %v", l)
		}
	}
	if l := grove.New().Changed(old); len(l) != 6 || l[0] != (api.Entry{Kind: 2, Id: 1}) || l[5] != (api.Entry{Kind: 2, Id: 6}) {
		t.Errorf("Changed to nothing: %v", l)
	}
}

func TestP22_1Nobody(t *testing.T) {
	some := grove.New()
	put(t, some, 1, leaf())
	for _, g := range []*grove.Grove{nil, {}} {
		if e := g.Put(1, leaf()); e != api.ErrState {
			t.Errorf("Put: %d", e)
		}
		if e := g.Put(0, leaf()); e != api.ErrState {
			t.Errorf("Put: %d", e)
		}
		if id, e := g.Fresh(); id != 0 || e != api.ErrState {
			t.Errorf("Fresh: %d, %d", id, e)
		}
		hasNot(t, g, 1)
		if g.Drop(1) || len(g.Ids()) != 0 || g.Clone() != nil || len(g.Changed(some)) != 0 || len(g.Changed(nil)) != 0 {
			t.Error("of nobody's: something")
		}
	}
}

func TestP22_2Memory(t *testing.T) {
	g := grove.New()
	in := leaf(1, 2)
	put(t, g, 1, in)
	in.Points[0].Id = 77
	a, _ := g.Get(1)
	a.Points[0].Id = 88
	c := g.Clone()
	b, _ := c.Get(1)
	b.Points[1].Id = 99
	has(t, g, 1, leaf(1, 2))
	has(t, c, 1, leaf(1, 2))
	g.Ids()[0] = 5
	g.Changed(nil)[0].Id = 5
	if g.Ids()[0] != 1 || g.Changed(nil)[0].Id != 1 {
		t.Error("answers share")
	}
}
