package tree_test

import (
	"fmt"
	"math"
	"math/rand/v2"
	"slices"
	"strings"
	"testing"

	"croft/api"
	"croft/cell"
	"croft/grove"
	"croft/node"
	"croft/point"
	"croft/tree"
)

const top = math.MaxUint32

// shape: what the chapter's words make of the points of a cell.
func shape(c cell.Cell, l []api.Point) []int {
	if len(l) <= 4 {
		return []int{len(l)}
	}
	if c.Level == 32 {
		return append([]int{4}, shape(c, l[4:])...)
	}
	var below []int
	mask := 0
	for q := range 4 {
		k := cell.Kid(c, q)
		var part []api.Point
		for _, p := range l {
			if cell.Has(k, p.X, p.Y) {
				part = append(part, p)
			}
		}
		if len(part) > 0 {
			mask |= 1 << q
			below = append(below, shape(k, part)...)
		}
	}
	return append([]int{-1 - mask}, below...)
}

// stand is a node as it stands in a tree: of which cell, and the how-many-th there.
type stand struct {
	c     cell.Cell
	after int
}

type seen struct {
	id     int
	n      api.Node
	points []api.Point
}

// walk answers all nodes by where they stand, and checks that they are a tree as told.
func walk(t *testing.T, g *grove.Grove) map[stand]seen {
	t.Helper()
	all := map[stand]seen{}
	var go1 func(id int, c cell.Cell) []api.Point
	go1 = func(id int, c cell.Cell) []api.Point {
		n, ok := g.Get(id)
		if !ok {
			t.Fatalf("node %d is not there", id)
		}
		if n.Leaf {
			var l []api.Point
			at := 0
			for {
				l = append(l, n.Points...)
				all[stand{c, at}] = seen{id: id, n: n}
				if n.Next == 0 {
					break
				}
				if c.Level < 32 || len(n.Points) != 4 {
					t.Fatalf("a Next at level %d behind %d points", c.Level, len(n.Points))
				}
				id = n.Next
				if n, ok = g.Get(id); !ok || !n.Leaf || len(n.Points) == 0 {
					t.Fatalf("Next %d is no leaf with points", id)
				}
				at++
			}
			if !slices.IsSortedFunc(l, func(a, b api.Point) int { return a.Id - b.Id }) {
				t.Fatalf("points of %v are not by Id", c)
			}
			for i := range at + 1 {
				s := all[stand{c, i}]
				s.points = l
				all[stand{c, i}] = s
			}
			return l
		}
		var l []api.Point
		for q, kid := range n.Kids {
			if kid == 0 {
				continue
			}
			part := go1(kid, cell.Kid(c, q))
			if len(part) != n.Counts[q] || len(part) == 0 {
				t.Fatalf("quarter %d of %v counts %d of %d", q, c, n.Counts[q], len(part))
			}
			l = append(l, part...)
		}
		if len(l) <= 4 {
			t.Fatalf("a node of %d points", len(l))
		}
		all[stand{c, 0}] = seen{id, n, point.Sort(l)}
		return l
	}
	for _, p := range go1(1, cell.Root()) {
		if point.Check(p) != api.OK {
			t.Fatalf("a point that may not be: %v", p)
		}
	}
	if len(all) != len(g.Ids()) {
		t.Fatalf("%d nodes, %d reached", len(g.Ids()), len(all))
	}
	return all
}

// isTree checks that g is the tree of l.
func isTree(t *testing.T, g *grove.Grove, l []api.Point) {
	t.Helper()
	l = point.Sort(l)
	walk(t, g)
	if got := tree.Points(g); !slices.Equal(got, l) {
		t.Fatalf("Points: %v, want %v", got, l)
	}
	if got, want := tree.Shape(g), shape(cell.Root(), l); !slices.Equal(got, want) {
		t.Fatalf("Shape: %v, want %v", got, want)
	}
}

// scattered answers points of which many are near each other, or at one place.
func scattered(r *rand.Rand, n int) []api.Point {
	var l []api.Point
	used := map[int]bool{}
	for len(l) < n {
		p := api.Point{Id: 1 + r.IntN(500), X: r.Uint32(), Y: r.Uint32(), Data: strings.Repeat("d", r.IntN(4))}
		if used[p.Id] {
			continue
		}
		used[p.Id] = true
		if len(l) > 0 && r.IntN(3) == 0 {
			p.X, p.Y = l[r.IntN(len(l))].X, l[r.IntN(len(l))].Y
		}
		if len(l) > 0 && r.IntN(4) == 0 {
			o := l[r.IntN(len(l))]
			p.X, p.Y = o.X^uint32(r.IntN(2)), o.Y
		}
		l = append(l, p)
	}
	return l
}

func same(a, b *grove.Grove) bool {
	return len(a.Changed(b)) == 0 && len(b.Changed(a)) == 0
}

func at(id int, x, y uint32) api.Point {
	return api.Point{Id: id, X: x, Y: y}
}

func TestP23_1Empty(t *testing.T) {
	g := tree.Empty()
	isTree(t, g, nil)
	if n, ok := g.Get(1); !ok || !node.Same(n, api.Node{Leaf: true}) || !slices.Equal(tree.Shape(g), []int{0}) {
		t.Errorf("the root of nothing: %v", n)
	}
	b, e := tree.Build(nil)
	if e != api.OK || !same(g, b) {
		t.Errorf("Build of nothing: %d", e)
	}
}

func TestP23_1Build(t *testing.T) {
	four := []api.Point{at(4, 1, 1), at(2, top, 1), at(9, 1, top), at(1, top, top)}
	g, e := tree.Build(four)
	if e != api.OK || !slices.Equal(tree.Shape(g), []int{4}) {
		t.Errorf("four: %v, %d", tree.Shape(g), e)
	}
	isTree(t, g, four)
	five := append(four, at(5, 1, 2))
	g, e = tree.Build(five)
	if e != api.OK || !slices.Equal(tree.Shape(g), []int{-16, 2, 1, 1, 1}) {
		t.Errorf("five: %v, %d", tree.Shape(g), e)
	}
	isTree(t, g, five)
	var one []api.Point
	for i := range 9 {
		one = append(one, at(i+1, 7, 9))
	}
	g, e = tree.Build(one)
	isTree(t, g, one)
	if got := tree.Shape(g); e != api.OK || len(got) != 35 || got[32] != 4 || got[33] != 4 || got[34] != 1 {
		t.Errorf("nine at one place: %v, %d", got, e)
	}
	r := rand.New(rand.NewPCG(23, 1))
	built := 0
	for range 200 {
		l := scattered(r, r.IntN(60))
		if g, e := tree.Build(l); e == api.OK {
			isTree(t, g, l)
			built++
		} else if len(shape(cell.Root(), point.Sort(l))) <= 255 || e != api.ErrFull {
			t.Fatalf("Build: %d", e)
		}
	}
	if built < 50 {
		t.Errorf("only %d were built", built)
	}
}

func TestP23_1BuildErrors(t *testing.T) {
	long := api.Point{Id: 3, Data: strings.Repeat("x", 17)}
	for i, x := range []struct {
		l    []api.Point
		want api.Errno
	}{
		{[]api.Point{at(1, 0, 0), {}}, api.ErrRange}, {[]api.Point{at(1, 0, 0), at(1, 0, 0), long, {Id: -1}}, api.ErrLong}, {[]api.Point{{Id: math.MaxInt}, long}, api.ErrRange},
		{[]api.Point{at(1, 0, 0), at(2, 0, 0), at(1, 5, 5)}, api.ErrTwice},
	} {
		if g, e := tree.Build(x.l); e != x.want || g != nil {
			t.Errorf("%d: %d, want %d", i, e, x.want)
		}
	}
	var much []api.Point
	for i := range 2000 {
		much = append(much, at(i+1, 0, 0))
	}
	if g, e := tree.Build(much); e != api.ErrFull || g != nil {
		t.Errorf("2000 at one place: %d", e)
	}
	if g, e := tree.Build(append(much, much[0])); e != api.ErrTwice || g != nil {
		t.Errorf("2000 and one twice: %d", e)
	}
	for i := range 70000 {
		much = append(much, at(i+3000, uint32(i)<<16, uint32(i)*77777))
	}
	if g, e := tree.Build(much); e != api.ErrFull || g != nil {
		t.Errorf("72000: %d", e)
	}
}

func TestP23_1Full(t *testing.T) {
	// 32 nodes above one place, and 223 leaves of four points there: 892 points.
	var l []api.Point
	for i := range 892 {
		l = append(l, at(i+1, 5, 5))
	}
	g, e := tree.Build(l)
	if e != api.OK || len(g.Ids()) != 255 {
		t.Fatalf("892 at one place: %d", e)
	}
	isTree(t, g, l)
	if b, e := tree.Build(append(l, at(893, 5, 5))); e != api.ErrFull || b != nil {
		t.Errorf("893: %d", e)
	}
	if b, e := tree.Insert(g, at(893, 5, 5)); e != api.ErrFull || b != nil {
		t.Errorf("Insert into a full one: %d", e)
	}
	if b, e := tree.Insert(g, at(893, 9, 9)); e != api.ErrFull || b != nil {
		t.Errorf("Insert elsewhere into a full one: %d", e)
	}
	isTree(t, g, l)
	less, e := tree.Delete(g, l[0])
	if e != api.OK {
		t.Fatalf("Delete: %d", e)
	}
	isTree(t, less, l[1:])
	again, e := tree.Insert(less, at(1000, 5, 5))
	if e != api.OK {
		t.Fatalf("Insert behind Delete: %d", e)
	}
	isTree(t, again, append(l[1:], at(1000, 5, 5)))
}

func TestP23_1InsertErrors(t *testing.T) {
	g, _ := tree.Build([]api.Point{at(1, 5, 5), at(2, 6, 6)})
	for i, x := range []struct {
		p    api.Point
		want api.Errno
	}{{api.Point{}, api.ErrRange}, {api.Point{Id: -4}, api.ErrRange}, {api.Point{Id: 1, Data: strings.Repeat("x", 17)}, api.ErrLong}, {at(1, 5, 5), api.ErrTwice}, {at(2, 99, 99), api.ErrTwice}} {
		if b, e := tree.Insert(g, x.p); e != x.want || b != nil {
			t.Errorf("%d: %d, want %d", i, e, x.want)
		}
	}
}

func TestP23_1DeleteErrors(t *testing.T) {
	g, _ := tree.Build([]api.Point{at(1, 5, 5), at(2, 6, 6)})
	for _, p := range []api.Point{{}, at(3, 5, 5), at(1, 6, 6), at(1, 5, 6), at(2, 5, 5), at(-1, 5, 5), at(math.MaxInt, 0, 0)} {
		if b, e := tree.Delete(g, p); e != api.ErrNone || b != nil {
			t.Errorf("Delete(%v): %d", p, e)
		}
	}
	b, e := tree.Delete(g, api.Point{Id: 1, X: 5, Y: 5, Data: "other data, and long"})
	if e != api.OK {
		t.Fatalf("Delete: %d", e)
	}
	isTree(t, b, []api.Point{at(2, 6, 6)})
}

// kept checks P23.2 for one update.
func kept(t *testing.T, before, now *grove.Grove, touched api.Point) {
	t.Helper()
	then := walk(t, before)
	for s, x := range walk(t, now) {
		old, was := then[s]
		if !was {
			continue
		}
		if slices.Equal(old.points, x.points) && (old.id != x.id || !node.Same(old.n, x.n)) {
			t.Fatalf("%v has the same points, and is another: %v, %v", s, old, x)
		}
		if cell.Has(s.c, touched.X, touched.Y) && old.id != x.id {
			t.Fatalf("%v had Id %d, and has %d", s, old.id, x.id)
		}
	}
}

func TestP23_2Updates(t *testing.T) {
	r := rand.New(rand.NewPCG(23, 2))
	for range 60 {
		l := scattered(r, 40)
		g := tree.Empty()
		var have []api.Point
		for range 120 {
			before := g.Clone()
			var touched api.Point
			var now *grove.Grove
			var e api.Errno
			if len(have) == 0 || len(have) < len(l) && r.IntN(5) < 3 {
				touched = l[r.IntN(len(l))]
				now, e = tree.Insert(g, touched)
				twice := point.Find(have, touched.Id) >= 0
				if twice != (e == api.ErrTwice) {
					t.Fatalf("Insert: %d", e)
				}
				if e == api.OK {
					have = append(have, touched)
				}
			} else {
				i := r.IntN(len(have))
				touched = have[i]
				if now, e = tree.Delete(g, touched); e != api.OK {
					t.Fatalf("Delete: %d", e)
				}
				have = slices.Delete(slices.Clone(have), i, i+1)
			}
			if !same(g, before) {
				t.Fatal("what was handed in is changed")
			}
			if e != api.OK {
				if e == api.ErrFull && len(shape(cell.Root(), append(slices.Clone(have), touched))) <= 255 {
					t.Fatal("ErrFull, and there is room")
				}
				continue
			}
			isTree(t, now, have)
			kept(t, g, now, touched)
			g = now
		}
	}
}

func TestP23_2Chain(t *testing.T) {
	g := tree.Empty()
	var have []api.Point
	r := rand.New(rand.NewPCG(23, 3))
	for _, id := range r.Perm(20) {
		p := at(id+1, 3, 3)
		now, e := tree.Insert(g, p)
		if e != api.OK {
			t.Fatalf("Insert: %d", e)
		}
		have = append(have, p)
		isTree(t, now, have)
		kept(t, g, now, p)
		g = now
	}
	for len(have) > 0 {
		i := r.IntN(len(have))
		p := have[i]
		have = slices.Delete(have, i, i+1)
		now, e := tree.Delete(g, p)
		if e != api.OK {
			t.Fatalf("Delete: %d", e)
		}
		isTree(t, now, have)
		kept(t, g, now, p)
		g = now
	}
}

func TestP23_3OneShape(t *testing.T) {
	r := rand.New(rand.NewPCG(23, 4))
	for range 40 {
		l := scattered(r, 25)
		want, e := tree.Build(l)
		if e != api.OK {
			continue
		}
		g := tree.Empty()
		for _, i := range r.Perm(len(l)) {
			if g, e = tree.Insert(g, l[i]); e != api.OK {
				t.Fatalf("Insert: %d", e)
			}
		}
		if !slices.Equal(tree.Shape(g), tree.Shape(want)) || !slices.Equal(tree.Points(g), tree.Points(want)) {
			t.Fatal("two trees of the same points")
		}
	}
}

func TestP23_1NoTree(t *testing.T) {
	for i, g := range []*grove.Grove{nil, {}, grove.New()} {
		if len(tree.Points(g)) != 0 || len(tree.Shape(g)) != 0 {
			t.Errorf("%d: something", i)
		}
		tree.Insert(g, at(1, 2, 3))
		tree.Delete(g, at(1, 2, 3))
	}
	leaf := func(next int, l ...api.Point) api.Node { return api.Node{Leaf: true, Next: next, Points: l} }
	inner := func(k ...int) api.Node {
		n := api.Node{}
		for q, kid := range k {
			if kid != 0 {
				n.Kids[q], n.Counts[q] = kid, 65535
			}
		}
		return n
	}
	r := rand.New(rand.NewPCG(23, 5))
	for range 3000 {
		g := grove.New()
		for id := 1; id <= 6; id++ {
			switch r.IntN(4) {
			case 0:
				g.Put(id, inner(r.IntN(8), r.IntN(8), r.IntN(8), r.IntN(8)))
			case 1:
				g.Put(id, leaf(r.IntN(8), at(id, r.Uint32(), 1), at(id+1, 1, 1), at(id+2, 1, r.Uint32())))
			case 2:
				g.Put(id, leaf(r.IntN(8), at(3, 1, 1), at(4, 1, 1), at(5, 1, 1), at(6, 1, 1)))
			}
		}
		before := g.Clone()
		tree.Points(g)
		tree.Shape(g)
		for id := range 9 {
			tree.Insert(g, at(id, 1, 1))
			tree.Insert(g, at(100+id, r.Uint32(), r.Uint32()))
			tree.Delete(g, at(id, 1, 1))
		}
		if !same(g, before) {
			t.Fatal("what was handed in is changed")
		}
	}
}

func TestP23_4Memory(t *testing.T) {
	l := []api.Point{at(2, 1, 1), at(1, 2, 2)}
	g, _ := tree.Build(l)
	if l[0].Id != 2 {
		t.Error("Build changes what was handed in")
	}
	l[0].Id = 77
	tree.Points(g)[0].Id = 88
	now, _ := tree.Insert(g, at(3, 3, 3))
	now.Drop(1)
	tree.Shape(g)[0] = 5
	if got := fmt.Sprint(tree.Points(g), tree.Shape(g)); got != "[{1 2 2 } {2 1 1 }] [2]" {
		t.Errorf("answers share: %s", got)
	}
	tree.Empty().Drop(1)
	if len(tree.Empty().Ids()) != 1 {
		t.Error("two empty trees share")
	}
}
