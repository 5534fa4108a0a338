package node_test

import (
	"math"
	"math/rand/v2"
	"strings"
	"testing"

	"croft/api"
	"croft/node"
)

func leaf(next int, l ...api.Point) api.Node {
	return api.Node{Leaf: true, Next: next, Points: l}
}

func good() []api.Node {
	long := strings.Repeat("x", 16)
	return []api.Node{
		leaf(0), leaf(255), {Leaf: true, Points: []api.Point{}}, leaf(7, api.Point{Id: 3, X: 4, Y: 5, Data: "ab"}),
		leaf(0, api.Point{Id: 1, Data: long}, api.Point{Id: 2, Data: long}, api.Point{Id: 9, Data: long}, api.Point{Id: 1<<31 - 1, X: math.MaxUint32, Data: long}),
		{}, {Kids: [4]int{0, 2, 0, 255}, Counts: [4]int{0, 1, 0, 65535}}, {Kids: [4]int{5, 5, 5, 5}, Counts: [4]int{1, 2, 3, 4}}, {Points: []api.Point{}},
	}
}

func bad() []api.Node {
	p := api.Point{Id: 1}
	return []api.Node{
		leaf(-1), leaf(256), leaf(0, api.Point{}), leaf(0, api.Point{Id: 1 << 31}), leaf(0, api.Point{Id: 1, Data: strings.Repeat("x", 17)}),
		leaf(0, p, p), leaf(0, api.Point{Id: 2}, p), leaf(0, p, api.Point{Id: 2}, api.Point{Id: 3}, api.Point{Id: 4}, api.Point{Id: 5}),
		{Leaf: true, Kids: [4]int{0, 1}}, {Leaf: true, Counts: [4]int{0, 1}}, {Leaf: true, Kids: [4]int{3}, Counts: [4]int{3}},
		{Next: 1}, {Next: -1}, {Points: []api.Point{p}}, {Kids: [4]int{1}}, {Counts: [4]int{0, 0, 0, 1}},
		{Kids: [4]int{256}, Counts: [4]int{1}}, {Kids: [4]int{-1}, Counts: [4]int{1}}, {Kids: [4]int{1}, Counts: [4]int{65536}}, {Kids: [4]int{1}, Counts: [4]int{-1}},
		{Kids: [4]int{math.MaxInt}, Counts: [4]int{math.MinInt}},
	}
}

func TestP8_1Check(t *testing.T) {
	for _, n := range good() {
		if e := node.Check(n); e != api.OK {
			t.Errorf("Check(%v): %d", n, e)
		}
	}
	for _, n := range bad() {
		if e := node.Check(n); e != api.ErrState {
			t.Errorf("Check(%v): %d", n, e)
		}
		if b, e := node.Put(n); e != api.ErrState || len(b) != 0 {
			t.Errorf("Put(%v): %q, %d", n, b, e)
		}
	}
}

func TestP8_1Put(t *testing.T) {
	for _, x := range []struct {
		n    api.Node
		want string
	}{
		{leaf(0), "\x01\x00\x00"},
		{leaf(255), "\x01\xff\x00"},
		{leaf(2, api.Point{Id: 1, X: 2, Y: 3}, api.Point{Id: 4, Data: "z"}), "\x01\x02\x02\x01\x00\x00\x00\x02\x00\x00\x00\x03\x00\x00\x00\x00\x04\x00\x00\x00\x00\x00\x00\x00\x00\x00\x00\x00\x01z"},
		{api.Node{}, strings.Repeat("\x00", 13)},
		{api.Node{Kids: [4]int{1, 0, 255, 3}, Counts: [4]int{258, 0, 65535, 1}}, "\x00\x01\x00\xff\x03\x02\x01\x00\x00\xff\xff\x01\x00"},
	} {
		b, e := node.Put(x.n)
		if e != api.OK || string(b) != x.want {
			t.Errorf("Put(%v): %q, %d", x.n, b, e)
		}
	}
}

func TestP8_1ReadOfNone(t *testing.T) {
	one := "\x01\x00\x00\x00\x00\x00\x00\x00\x00\x00\x00\x00\x00"
	two := "\x02" + one[1:]
	for _, s := range []string{
		"", "\x01", "\x01\x00", "\x01\x00\x00\x00", "\x02\x00\x00", "\xff", "\x00", strings.Repeat("\x00", 12), strings.Repeat("\x00", 14),
		"\x01\x00\x01", "\x01\x00\x01" + one[:12], "\x01\x00\x01" + one + "x", "\x01\x00\x01\x00" + one[1:], "\x01\x00\x02" + one + one, "\x01\x00\x02" + two + one,
		"\x01\x00\x05" + one + two + "\x03" + one[1:] + "\x04" + one[1:] + "\x05" + one[1:], "\x01\x00\xff" + one, "\x01\x00\x01" + one[:12] + "\x11" + strings.Repeat("x", 17),
		"\x00\x01\x00\x00\x00\x00\x00\x00\x00\x00\x00\x00\x00", "\x00\x00\x00\x00\x00\x01\x00\x00\x00\x00\x00\x00\x00",
	} {
		if n, e := node.Read([]byte(s)); e != api.ErrSyntax || !node.Same(n, api.Node{}) {
			t.Errorf("Read(%q): %v, %d", s, n, e)
		}
	}
	if _, e := node.Read(nil); e != api.ErrSyntax {
		t.Errorf("Read of nil: %d", e)
	}
	if n, e := node.Read([]byte("\x01\x00\x02" + one + two)); e != api.OK || len(n.Points) != 2 {
		t.Errorf("Read of two points: %v, %d", n, e)
	}
}

func TestP8_1Total(t *testing.T) {
	for i, want := range []int{0, 0, 0, 1, 4, 0, 65536, 10, 0} {
		if got := node.Total(good()[i]); got != want {
			t.Errorf("Total(%v): %d", good()[i], got)
		}
	}
	if n := node.Total(api.Node{Counts: [4]int{70000, 1, 2, 3}}); n != 70006 {
		t.Errorf("Total of a node that may not be: %d", n)
	}
}

func TestP8_1Same(t *testing.T) {
	a := leaf(1, api.Point{Id: 1}, api.Point{Id: 2})
	if !node.Same(a, leaf(1, api.Point{Id: 1}, api.Point{Id: 2})) || !node.Same(leaf(0), api.Node{Leaf: true, Points: []api.Point{}}) {
		t.Error("alike ones are not the same")
	}
	for _, b := range []api.Node{leaf(2, a.Points...), leaf(1, a.Points[0]), leaf(1), leaf(1, api.Point{Id: 1}, api.Point{Id: 2, Data: "x"}), leaf(1, api.Point{Id: 1}, api.Point{Id: 2, X: 1}),
		{Next: 1, Points: a.Points}, {Leaf: true, Next: 1, Points: a.Points, Kids: [4]int{1}}, {Leaf: true, Next: 1, Points: a.Points, Counts: [4]int{1}}} {
		if node.Same(a, b) || node.Same(b, a) {
			t.Errorf("Same(%v, %v)", a, b)
		}
	}
	if node.Same(leaf(0), api.Node{}) {
		t.Error("a leaf is another node")
	}
}

func TestP8_2ComeBack(t *testing.T) {
	r := rand.New(rand.NewPCG(8, 2))
	l := good()
	for range 300 {
		n := api.Node{Leaf: r.IntN(2) == 0}
		if n.Leaf {
			n.Next = r.IntN(256)
			id := 0
			for range r.IntN(5) {
				id += 1 + r.IntN(1000)
				n.Points = append(n.Points, api.Point{Id: id, X: r.Uint32(), Y: r.Uint32(), Data: strings.Repeat("\x00\x80", r.IntN(9))})
			}
		} else {
			for q := range 4 {
				if r.IntN(2) == 0 {
					n.Kids[q], n.Counts[q] = 1+r.IntN(255), 1+r.IntN(65535)
				}
			}
		}
		l = append(l, n)
	}
	for _, n := range l {
		b, e := node.Put(n)
		if e != api.OK {
			t.Fatalf("Put(%v): %d", n, e)
		}
		got, e := node.Read(b)
		if e != api.OK || !node.Same(got, n) {
			t.Fatalf("%v became %v, %d", n, got, e)
		}
		if got, e := node.Read(append(b, 0)); e != api.ErrSyntax {
			t.Fatalf("with an octet behind: %v", got)
		}
		if got, e := node.Read(b[:len(b)-1]); e != api.ErrSyntax {
			t.Fatalf("without the last octet: %v", got)
		}
	}
}

func TestP8_3Memory(t *testing.T) {
	n := leaf(0, api.Point{Id: 1}, api.Point{Id: 2})
	b, _ := node.Put(n)
	x, _ := node.Read(b)
	y, _ := node.Read(b)
	x.Points[0].Id = 77
	b[3] = 9
	if y.Points[0].Id != 1 || n.Points[0].Id != 1 {
		t.Error("answers share")
	}
	c, _ := node.Put(n)
	if c[3] != 1 {
		t.Error("two answers of Put share")
	}
}
