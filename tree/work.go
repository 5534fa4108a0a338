package tree

import (
	"croft/api"
	"croft/cell"
	"croft/grove"
	"croft/node"
	"croft/point"
)

// work is a grove that is gone through, or changed; no way through it meets a node twice.
type work struct {
	*grove.Grove
	met map[int]struct{}
}

// fault is why a work can't go on.
type fault struct{ code api.Errno }

// change answers a clone of g as f changes it.
func change(g *grove.Grove, f func(w *work)) (*grove.Grove, api.Errno) {
	w := &work{g.Clone(), map[int]struct{}{}}
	if e := caught(func() { f(w) }); e != api.OK {
		return nil, e
	}
	return w.Grove, api.OK
}

// look goes through all nodes from the root on, as far as they are a tree.
func look(g *grove.Grove, visit func(id int, n api.Node)) {
	w := &work{g, map[int]struct{}{}}
	caught(func() { w.under(root, visit) })
}

// caught runs f up to its first fault, and tells it.
func caught(f func()) (e api.Errno) {
	defer func() {
		if r := recover(); r != nil {
			e = api.ErrCorrupt
			if x, ok := r.(fault); ok {
				e = x.code
			}
		}
	}()
	f()
	return api.OK
}

// node answers a node that was not met yet.
func (w *work) node(id int) api.Node {
	n, ok := w.Get(id)
	if _, twice := w.met[id]; !ok || twice {
		panic(fault{api.ErrCorrupt})
	}
	w.met[id] = struct{}{}
	return n
}

func (w *work) set(id int, n api.Node) {
	if w.Put(id, n) != api.OK {
		panic(fault{api.ErrCorrupt})
	}
}

// fresh answers an Id at which an empty leaf stands, so that nobody else gets it.
func (w *work) fresh() int {
	id, e := w.Fresh()
	if e != api.OK {
		panic(fault{e})
	}
	w.set(id, api.Node{Leaf: true})
	return id
}

// under goes through a node and all below it, a node ahead of its kids.
func (w *work) under(id int, visit func(id int, n api.Node)) {
	n := w.node(id)
	visit(id, n)
	for _, below := range [...]int{n.Kids[0], n.Kids[1], n.Kids[2], n.Kids[3], n.Next} {
		if below != 0 {
			w.under(below, visit)
		}
	}
}

// lay makes the node at id, and those it needs below it, the tree of l, which rises by Id.
func (w *work) lay(id int, c cell.Cell, l []api.Point) {
	if len(l) <= api.Bucket || c.Level == api.Levels {
		w.chain(id, l)
		return
	}
	var parts [4][]api.Point
	for _, p := range l {
		q := cell.Quarter(c, p.X, p.Y)
		parts[q] = append(parts[q], p)
	}
	var n api.Node
	for q, part := range parts {
		if len(part) > 0 {
			n.Kids[q], n.Counts[q] = w.fresh(), len(part)
		}
	}
	w.set(id, n)
	for q, part := range parts {
		if len(part) > 0 {
			w.lay(n.Kids[q], cell.Kid(c, q), part)
		}
	}
}

// chain makes the node at id the leaf of l, with as many leaves behind it as l needs: those that are there, then fresh ones.
func (w *work) chain(id int, l []api.Point) {
	old, _ := w.Get(id)
	k := min(len(l), api.Bucket)
	n := api.Node{Leaf: true, Points: l[:k], Next: old.Next}
	rest := l[k:]
	switch {
	case len(rest) == 0:
		w.unchain(n.Next)
		n.Next = 0
	case n.Next == 0:
		n.Next = w.fresh()
	}
	w.set(id, n)
	if len(rest) > 0 {
		w.chain(n.Next, rest)
	}
}

// unchain drops a leaf and all behind it.
func (w *work) unchain(id int) {
	for id != 0 {
		n, _ := w.Get(id)
		w.Drop(id)
		id = n.Next
	}
}

// line answers the points of a leaf and of all leaves behind it.
func (w *work) line(n api.Node) []api.Point {
	l := n.Points
	for n.Next != 0 {
		n = w.node(n.Next)
		l = append(l, n.Points...)
	}
	return l
}

// add lets p come into the cell c, whose node is at id.
func (w *work) add(id int, c cell.Cell, p api.Point) {
	n := w.node(id)
	if n.Leaf {
		w.lay(id, c, point.Sort(append(w.line(n), p)))
		return
	}
	q := cell.Quarter(c, p.X, p.Y)
	if n.Kids[q] == 0 {
		n.Kids[q] = w.fresh()
	}
	n.Counts[q]++
	w.set(id, n)
	w.add(n.Kids[q], cell.Kid(c, q), p)
}

// remove lets p leave the cell c, whose node is at id.
func (w *work) remove(id int, c cell.Cell, p api.Point) {
	n := w.node(id)
	if n.Leaf {
		w.chain(id, without(w.line(n), p))
		return
	}
	q := cell.Quarter(c, p.X, p.Y)
	n.Counts[q]--
	if node.Total(n) <= api.Bucket {
		w.chain(id, without(w.uproot(n), p))
		return
	}
	kid := n.Kids[q]
	if n.Counts[q] == 0 {
		n.Kids[q] = 0
		w.set(id, n)
		w.Drop(kid)
		return
	}
	w.set(id, n)
	w.remove(kid, cell.Kid(c, q), p)
}

// uproot drops all below n, and answers their points.
func (w *work) uproot(n api.Node) []api.Point {
	var l []api.Point
	for _, kid := range n.Kids {
		if kid != 0 {
			w.under(kid, func(id int, n api.Node) {
				l = append(l, n.Points...)
				w.Drop(id)
			})
		}
	}
	return l
}

// without answers l without p, by Id.
func without(l []api.Point, p api.Point) []api.Point {
	l = point.Sort(l)
	if i := point.Find(l, p.Id); i >= 0 {
		l = append(l[:i], l[i+1:]...)
	}
	return l
}
