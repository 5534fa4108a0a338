package rect_test

import (
	"math"
	"math/rand/v2"
	"testing"

	"croft/api"
	"croft/rect"
)

const top = math.MaxUint32

var (
	plane  = api.Rect{X1: top, Y1: top}
	nobody = api.Rect{X0: 1, Y0: 1}
)

func TestP6_1Empty(t *testing.T) {
	for _, r := range []api.Rect{{X0: 1}, {Y0: 1}, {X0: 5, X1: 4, Y1: 9}, {X1: 9, Y0: 5, Y1: 4}, nobody, {X0: top, X1: 0, Y0: 0, Y1: top}} {
		if !rect.Empty(r) {
			t.Errorf("Empty(%v): false", r)
		}
		if n, ok := rect.Area(r); n != 0 || !ok {
			t.Errorf("Area(%v): %d, %v", r, n, ok)
		}
	}
	for _, r := range []api.Rect{{}, plane, {X0: 3, X1: 3, Y0: 4, Y1: 4}, {X0: top, Y0: top, X1: top, Y1: top}} {
		if rect.Empty(r) {
			t.Errorf("Empty(%v): true", r)
		}
	}
}

func TestP6_1Area(t *testing.T) {
	for _, x := range []struct {
		r    api.Rect
		n    uint64
		fits bool
	}{
		{api.Rect{X1: 1, Y1: 1}, 4, true}, {api.Rect{}, 1, true}, {plane, 0, false},
		{api.Rect{X1: top, Y1: top - 1}, (1 << 32) * (1<<32 - 1), true}, {api.Rect{X0: 1, X1: top, Y1: top}, (1 << 32) * (1<<32 - 1), true},
		{api.Rect{X0: 3, Y0: 10, X1: 5, Y1: 13}, 12, true}, {api.Rect{X1: top}, 1 << 32, true},
	} {
		if n, ok := rect.Area(x.r); n != x.n || ok != x.fits {
			t.Errorf("Area(%v): %d, %v", x.r, n, ok)
		}
	}
}

func small(r *rand.Rand) api.Rect {
	n := func() uint32 { return uint32(r.IntN(6)) }
	return api.Rect{X0: n(), Y0: n(), X1: n(), Y1: n()}
}

func in(r api.Rect, x, y uint32) bool {
	return x >= r.X0 && x <= r.X1 && y >= r.Y0 && y <= r.Y1
}

func TestP6_1PlaceByPlace(t *testing.T) {
	r := rand.New(rand.NewPCG(6, 1))
	for range 3000 {
		a, b := small(r), small(r)
		meets, within, inA := false, true, 0
		cut := rect.Cut(a, b)
		for x := range uint32(7) {
			for y := range uint32(7) {
				if rect.Has(a, x, y) != in(a, x, y) {
					t.Fatalf("Has(%v, %d, %d)", a, x, y)
				}
				both := in(a, x, y) && in(b, x, y)
				meets = meets || both
				within = within && (!in(a, x, y) || in(b, x, y))
				if in(a, x, y) {
					inA++
				}
				if in(cut, x, y) != both {
					t.Fatalf("Cut(%v, %v): %v", a, b, cut)
				}
			}
		}
		if rect.Empty(a) != (inA == 0) {
			t.Fatalf("Empty(%v)", a)
		}
		if n, ok := rect.Area(a); int(n) != inA || !ok {
			t.Fatalf("Area(%v): %d", a, n)
		}
		if rect.Meets(a, b) != meets {
			t.Fatalf("Meets(%v, %v): %v", a, b, !meets)
		}
		if rect.Within(a, b) != within {
			t.Fatalf("Within(%v, %v): %v", a, b, !within)
		}
		if !meets && cut != nobody {
			t.Fatalf("Cut(%v, %v): %v", a, b, cut)
		}
	}
}

func TestP6_1Edges(t *testing.T) {
	corner := api.Rect{X0: top, Y0: top, X1: top, Y1: top}
	if !rect.Meets(plane, corner) || !rect.Within(corner, plane) || rect.Within(plane, corner) || rect.Cut(corner, plane) != corner {
		t.Error("the last place and the plane")
	}
	if !rect.Has(plane, top, 0) || !rect.Has(corner, top, top) || rect.Has(corner, top, top-1) {
		t.Error("Has at the ends")
	}
	if !rect.Within(api.Rect{X0: 9, X1: 2}, api.Rect{X0: 8, X1: 3}) {
		t.Error("of no places another has all")
	}
	if rect.Meets(plane, nobody) || rect.Meets(api.Rect{X0: 9, X1: 2, Y1: top}, plane) {
		t.Error("a window without places meets another")
	}
}

func TestP6_1Cover(t *testing.T) {
	if r, ok := rect.Cover(nil); ok || r != (api.Rect{}) {
		t.Errorf("Cover of nothing: %v", r)
	}
	if r, ok := rect.Cover([]api.Point{{X: 7, Y: 3}}); !ok || r != (api.Rect{X0: 7, Y0: 3, X1: 7, Y1: 3}) {
		t.Errorf("Cover of one: %v", r)
	}
	if r, ok := rect.Cover([]api.Point{{X: 7, Y: 3}, {X: 5, Y: 9}, {X: 6, Y: 1}}); !ok || r != (api.Rect{X0: 5, Y0: 1, X1: 7, Y1: 9}) {
		t.Errorf("Cover of three: %v", r)
	}
	if r, ok := rect.Cover([]api.Point{{X: top}, {Y: top}}); !ok || r != plane {
		t.Errorf("Cover of two ends: %v", r)
	}
}

func TestP6_2Memory(t *testing.T) {
	l := []api.Point{{X: 7, Y: 3}, {X: 5, Y: 9}}
	rect.Cover(l)
	if l[0] != (api.Point{X: 7, Y: 3}) || l[1] != (api.Point{X: 5, Y: 9}) {
		t.Error("what was handed in is changed")
	}
}
