package poly_test

import (
	"math"
	"math/big"
	"math/rand/v2"
	"slices"
	"testing"

	"croft/api"
	"croft/poly"
	"croft/wide"
)

const top = math.MaxUint32

func at(x, y uint32) api.Point {
	return api.Point{X: x, Y: y}
}

func number(n uint32) *big.Int {
	return big.NewInt(int64(n))
}

// cross: the determinant, whole.
func cross(a, b, c api.Point) *big.Int {
	sub := func(a, b uint32) *big.Int { return new(big.Int).Sub(number(a), number(b)) }
	p := new(big.Int).Mul(sub(b.X, a.X), sub(c.Y, a.Y))
	q := new(big.Int).Mul(sub(b.Y, a.Y), sub(c.X, a.X))
	return p.Sub(p, q)
}

func coordinate(r *rand.Rand) uint32 {
	switch r.IntN(4) {
	case 0:
		return top - uint32(r.IntN(3))
	case 1:
		return uint32(r.IntN(4))
	case 2:
		return 1<<31 + uint32(r.IntN(3)) - 1
	}
	return r.Uint32()
}

func small(r *rand.Rand, n int) api.Point {
	return at(uint32(r.IntN(n)), uint32(r.IntN(n)))
}

func TestP34_1Turn(t *testing.T) {
	for _, x := range []struct {
		a, b, c api.Point
		want    int
	}{
		{at(0, 0), at(1, 0), at(0, 1), 1}, {at(0, 0), at(0, 1), at(1, 0), -1}, {at(0, 0), at(1, 1), at(5, 5), 0}, {at(5, 5), at(1, 1), at(0, 0), 0},
		{at(3, 3), at(3, 3), at(9, 1), 0}, {at(0, 0), at(top, top), at(top-1, top), 1}, {at(0, 0), at(top, top), at(top, top-1), -1}, {at(0, top), at(top, 0), at(0, 0), -1}, {at(top, 0), at(0, top), at(0, 0), 1},
	} {
		if got := poly.Turn(x.a, x.b, x.c); got != x.want {
			t.Errorf("Turn(%v, %v, %v): %d", x.a, x.b, x.c, got)
		}
	}
	r := rand.New(rand.NewPCG(34, 1))
	for range 3000 {
		a, b, c := at(coordinate(r), coordinate(r)), at(coordinate(r), coordinate(r)), at(coordinate(r), coordinate(r))
		if got, want := poly.Turn(a, b, c), cross(a, b, c).Sign(); got != want {
			t.Fatalf("Turn(%v, %v, %v): %d", a, b, c, got)
		}
	}
}

func on(a, b, p api.Point) bool {
	return cross(a, b, p).Sign() == 0 && min(a.X, b.X) <= p.X && p.X <= max(a.X, b.X) && min(a.Y, b.Y) <= p.Y && p.Y <= max(a.Y, b.Y)
}

// within: a line to the right that rises a little passes no corner; so little that it meets the sides that a level one meets.
func within(l []api.Point, p api.Point) bool {
	odd := false
	for i, a := range l {
		b := l[(i+1)%len(l)]
		if on(a, b, p) {
			return true
		}
		if (a.Y <= p.Y) == (b.Y <= p.Y) {
			continue
		}
		// X of the side at that height, times the side's height.
		h := new(big.Int).Sub(number(b.Y), number(a.Y))
		x := new(big.Int).Sub(number(p.Y), number(a.Y))
		x.Mul(x, new(big.Int).Sub(number(b.X), number(a.X)))
		x.Add(x, new(big.Int).Mul(number(a.X), h))
		if x.Cmp(new(big.Int).Mul(number(p.X), h))*h.Sign() > 0 {
			odd = !odd
		}
	}
	return odd
}

func TestP34_1Within(t *testing.T) {
	r := rand.New(rand.NewPCG(34, 2))
	for range 3000 {
		var l []api.Point
		for range r.IntN(8) {
			if r.IntN(9) == 0 {
				l = append(l, at(coordinate(r), coordinate(r)))
			} else {
				l = append(l, small(r, 7))
			}
		}
		for range 20 {
			p := small(r, 8)
			wantOn := false
			for i, a := range l {
				wantOn = wantOn || on(a, l[(i+1)%len(l)], p)
			}
			if got := poly.On(l, p.X, p.Y); got != wantOn {
				t.Fatalf("On(%v, %v): %v", l, p, got)
			}
			if got := poly.Within(l, p.X, p.Y); got != within(l, p) {
				t.Fatalf("Within(%v, %v): %v", l, p, got)
			}
		}
	}
}

func TestP34_1Edges(t *testing.T) {
	if poly.On(nil, 0, 0) || poly.Within(nil, 0, 0) || poly.Within([]api.Point{}, 3, 3) {
		t.Error("of no corners: something")
	}
	one := []api.Point{at(3, 4)}
	if !poly.On(one, 3, 4) || !poly.Within(one, 3, 4) || poly.On(one, 3, 5) || poly.Within(one, 0, 4) {
		t.Error("of one corner")
	}
	two := []api.Point{at(0, 0), at(4, 8)}
	if !poly.On(two, 2, 4) || !poly.Within(two, 1, 2) || poly.Within(two, 2, 3) || poly.On(two, 5, 10) {
		t.Error("of two corners")
	}
	plane := []api.Point{at(0, 0), at(top, 0), at(top, top), at(0, top)}
	for _, p := range []api.Point{at(0, 0), at(top, top), at(0, 77), at(1<<31, 1<<31), at(top, 5)} {
		if !poly.Within(plane, p.X, p.Y) {
			t.Errorf("%v is not within the plane", p)
		}
	}
	if poly.On(plane, 1, 1) || !poly.On(plane, top, 5) || !poly.On(plane, 0, 5) {
		t.Error("On the plane's sides")
	}
	bow := []api.Point{at(0, 0), at(8, 8), at(8, 0), at(0, 8)}
	if !poly.Within(bow, 1, 4) || !poly.Within(bow, 7, 4) || poly.Within(bow, 4, 1) || poly.Within(bow, 4, 7) || !poly.Within(bow, 4, 4) {
		t.Error("sides that cross")
	}
}

func TestP34_1Twice(t *testing.T) {
	for _, x := range []struct {
		l    []api.Point
		want wide.Dist
		sign int
	}{
		{nil, wide.Dist{}, 0}, {[]api.Point{at(5, 5)}, wide.Dist{}, 0}, {[]api.Point{at(5, 5), at(9, 1)}, wide.Dist{}, 0}, {[]api.Point{at(0, 0), at(4, 0), at(0, 4)}, wide.Dist{Lo: 16}, 1}, {[]api.Point{at(0, 0), at(0, 4), at(4, 0)}, wide.Dist{Lo: 16}, -1},
		{[]api.Point{at(0, 0), at(top, 0), at(top, top), at(0, top)}, wide.Dist{Hi: 1, Lo: 0xFFFFFFFC00000002}, 1}, {[]api.Point{at(0, 0), at(8, 8), at(8, 0), at(0, 8)}, wide.Dist{}, 0},
		{[]api.Point{at(0, 0), at(2, 2), at(9, 9)}, wide.Dist{}, 0},
	} {
		if got, sign := poly.Twice(x.l); got != x.want || sign != x.sign {
			t.Errorf("Twice(%v): %v, %d", x.l, got, sign)
		}
	}
	r := rand.New(rand.NewPCG(34, 3))
	for range 1000 {
		var l []api.Point
		for range r.IntN(30) {
			l = append(l, at(coordinate(r), coordinate(r)))
		}
		want := new(big.Int)
		for i, a := range l {
			b := l[(i+1)%len(l)]
			want.Add(want, new(big.Int).Mul(number(a.X), number(b.Y)))
			want.Sub(want, new(big.Int).Mul(number(b.X), number(a.Y)))
		}
		d, sign := poly.Twice(l)
		got := new(big.Int).SetUint64(d.Hi)
		got.Lsh(got, 64).Add(got, new(big.Int).SetUint64(d.Lo))
		if sign != want.Sign() || got.Cmp(new(big.Int).Abs(want)) != 0 {
			t.Fatalf("Twice(%v): %v, %d; want %v", l, got, sign, want)
		}
	}
	around := slices.Repeat([]api.Point{at(0, 0), at(top, 0), at(top, top), at(0, top)}, 1000)
	if d, sign := poly.Twice(around); sign != 1 || d != (wide.Dist{Hi: 1999, Lo: 0xFFFFF06000000000 + 2000}) {
		t.Errorf("Twice of a thousand times around: %v, %d", d, sign)
	}
}

// meet: whether two sides have a place in common, by fractions.
func meet(a, b, c, d api.Point) bool {
	if on(a, b, c) || on(a, b, d) || on(c, d, a) || on(c, d, b) {
		return true
	}
	return cross(a, b, c).Sign()*cross(a, b, d).Sign() < 0 && cross(c, d, a).Sign()*cross(c, d, b).Sign() < 0
}

func TestP34_1Cross(t *testing.T) {
	for _, x := range []struct {
		a, b, c, d api.Point
		want       bool
	}{
		{at(0, 0), at(3, 3), at(0, 3), at(3, 0), true}, {at(0, 0), at(4, 4), at(0, 4), at(4, 0), true}, {at(0, 0), at(4, 0), at(2, 0), at(2, 5), true}, {at(0, 0), at(4, 0), at(4, 0), at(9, 9), true},
		{at(0, 0), at(4, 0), at(2, 1), at(2, 5), false}, {at(0, 0), at(4, 4), at(5, 5), at(9, 9), false}, {at(0, 0), at(5, 5), at(4, 4), at(9, 9), true}, {at(0, 0), at(9, 9), at(4, 4), at(5, 5), true}, {at(0, 0), at(4, 0), at(0, 1), at(4, 1), false},
		{at(3, 3), at(3, 3), at(3, 3), at(3, 3), true}, {at(3, 3), at(3, 3), at(0, 0), at(9, 9), true}, {at(3, 3), at(3, 3), at(0, 0), at(2, 2), false}, {at(3, 3), at(3, 3), at(4, 4), at(4, 4), false}, {at(3, 3), at(3, 3), at(0, 9), at(9, 0), false},
		{at(0, 0), at(top, top), at(0, top), at(top, 0), true}, {at(0, 0), at(top, top-1), at(top, top), at(1, 1), false}, {at(0, 0), at(top, 1), at(0, 1), at(top, 0), true},
	} {
		for _, y := range [][4]api.Point{{x.a, x.b, x.c, x.d}, {x.b, x.a, x.c, x.d}, {x.c, x.d, x.a, x.b}, {x.d, x.c, x.b, x.a}} {
			if got := poly.Cross(y[0], y[1], y[2], y[3]); got != x.want {
				t.Errorf("Cross(%v): %v", y, got)
			}
		}
	}
	r := rand.New(rand.NewPCG(34, 4))
	for range 5000 {
		a, b, c, d := small(r, 6), small(r, 6), small(r, 6), small(r, 6)
		if got := poly.Cross(a, b, c, d); got != meet(a, b, c, d) {
			t.Fatalf("Cross(%v, %v, %v, %v): %v", a, b, c, d, got)
		}
	}
}

func TestP34_2Memory(t *testing.T) {
	l := []api.Point{at(0, 0), at(4, 0), at(0, 4)}
	poly.Twice(l)
	poly.Within(l, 1, 1)
	poly.On(l, 1, 1)
	if !slices.Equal(l, []api.Point{at(0, 0), at(4, 0), at(0, 4)}) {
		t.Error("what was handed in is changed")
	}
}
