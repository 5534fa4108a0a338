package hull_test

import (
	"cmp"
	"math"
	"math/rand/v2"
	"slices"
	"testing"

	"croft/api"
	"croft/hull"
	"croft/poly"
	"croft/wide"
)

const top = math.MaxUint32

func at(id int, x, y uint32) api.Point {
	return api.Point{Id: id, X: x, Y: y}
}

func some(r *rand.Rand, n int) []api.Point {
	var l []api.Point
	wide := r.IntN(2) == 0
	for range n {
		p := api.Point{Id: r.IntN(9) - 3, X: uint32(r.IntN(7)), Y: uint32(r.IntN(7)), Data: []string{"", "a", "b"}[r.IntN(3)]}
		if wide {
			p.X, p.Y = []uint32{r.Uint32(), 0, top, 1 << 31}[r.IntN(4)], []uint32{r.Uint32(), 0, top, 1 << 31}[r.IntN(4)]
		}
		l = append(l, p)
	}
	return l
}

// of: corner by corner: from the first one on, always the one that has all others to its left.
func of(l []api.Point) []api.Point {
	best := map[[2]uint32]api.Point{}
	for _, p := range l {
		k := [2]uint32{p.X, p.Y}
		if q, ok := best[k]; !ok || p.Id < q.Id || p.Id == q.Id && p.Data < q.Data {
			best[k] = p
		}
	}
	var places []api.Point
	for _, p := range best {
		places = append(places, p)
	}
	slices.SortFunc(places, func(a, b api.Point) int { return cmp.Or(cmp.Compare(a.X, b.X), cmp.Compare(a.Y, b.Y)) })
	if len(places) < 2 {
		return places
	}
	h := []api.Point{places[0]}
	for {
		now := h[len(h)-1]
		var next *api.Point
		for i := range places {
			p := &places[i]
			if *p == now {
				continue
			}
			if next == nil {
				next = p
				continue
			}
			turn := poly.Turn(now, *next, *p)
			farther := wide.Cmp(wide.Between(now.X, now.Y, p.X, p.Y), wide.Between(now.X, now.Y, next.X, next.Y)) > 0
			if turn < 0 || turn == 0 && farther {
				next = p
			}
		}
		if *next == h[0] {
			return h
		}
		h = append(h, *next)
	}
}

func TestP35_1Of(t *testing.T) {
	for _, x := range []struct{ l, want []api.Point }{
		{nil, nil}, {[]api.Point{at(1, 5, 5)}, []api.Point{at(1, 5, 5)}}, {[]api.Point{at(3, 5, 5), at(1, 5, 5), at(2, 5, 5)}, []api.Point{at(1, 5, 5)}},
		{[]api.Point{at(3, 5, 5), at(1, 7, 1), at(2, 5, 4)}, []api.Point{at(2, 5, 4), at(1, 7, 1), at(3, 5, 5)}},
		{[]api.Point{at(1, 5, 5), at(2, 3, 3), at(3, 9, 9), at(4, 4, 4)}, []api.Point{at(2, 3, 3), at(3, 9, 9)}}, {[]api.Point{at(1, 5, 5), at(2, 5, 3), at(3, 5, 9)}, []api.Point{at(2, 5, 3), at(3, 5, 9)}},
		{[]api.Point{at(1, 0, 0), at(2, 4, 0), at(3, 4, 4), at(4, 0, 4), at(5, 2, 0), at(6, 2, 2), at(7, 4, 2)}, []api.Point{at(1, 0, 0), at(2, 4, 0), at(3, 4, 4), at(4, 0, 4)}},
		{[]api.Point{at(4, 0, top), at(3, top, top), at(2, top, 0), at(1, 0, 0)}, []api.Point{at(1, 0, 0), at(2, top, 0), at(3, top, top), at(4, 0, top)}},
	} {
		if got := hull.Of(x.l); !slices.Equal(got, x.want) {
			t.Errorf("Of(%v): %v, want %v", x.l, got, x.want)
		}
	}
	l := []api.Point{{Id: 2, X: 1, Data: "a"}, {Id: 2, X: 1, Data: ""}, {Id: 3, X: 1}, {Id: 9}}
	if got := hull.Of(l); !slices.Equal(got, []api.Point{{Id: 9}, {Id: 2, X: 1}}) {
		t.Errorf("of those at one place: %v", got)
	}
	r := rand.New(rand.NewPCG(35, 1))
	for range 3000 {
		l := some(r, r.IntN(14))
		if got, want := hull.Of(l), of(l); !slices.Equal(got, want) {
			t.Fatalf("Of(%v): %v, want %v", l, got, want)
		}
	}
}

func TestP35_1Has(t *testing.T) {
	r := rand.New(rand.NewPCG(35, 2))
	for range 1000 {
		l := some(r, 1+r.IntN(12))
		h := hull.Of(l)
		for _, p := range l {
			if !hull.Has(h, p.X, p.Y) {
				t.Fatalf("%v has not %v", h, p)
			}
		}
		for range 20 {
			p := some(r, 1)[0]
			in := true
			for i := range h {
				in = in && poly.Turn(h[i], h[(i+1)%len(h)], p) >= 0
			}
			if len(h) == 1 {
				in = h[0].X == p.X && h[0].Y == p.Y
			}
			if len(h) == 2 {
				in = in && p.X >= h[0].X && p.X <= h[1].X && p.Y >= min(h[0].Y, h[1].Y) && p.Y <= max(h[0].Y, h[1].Y)
			}
			if got := hull.Has(h, p.X, p.Y); got != in {
				t.Fatalf("Has(%v, %v): %v", h, p, got)
			}
		}
	}
	if hull.Has(nil, 0, 0) || !hull.Has([]api.Point{at(1, 4, 4)}, 4, 4) || hull.Has([]api.Point{at(1, 4, 4)}, 4, 5) {
		t.Error("Has of none, and of one")
	}
}

func TestP35_1Farthest(t *testing.T) {
	if a, b, ok := hull.Farthest(nil); ok || a != (api.Point{}) || b != (api.Point{}) {
		t.Error("Farthest of nothing")
	}
	if a, b, ok := hull.Farthest([]api.Point{at(1, 5, 5)}); ok || a != (api.Point{}) || b != (api.Point{}) {
		t.Error("Farthest of one")
	}
	if a, b, ok := hull.Farthest([]api.Point{at(3, 5, 5), at(1, 5, 5), at(2, 5, 5)}); !ok || a.Id != 3 || b.Id != 1 {
		t.Errorf("Farthest at one place: %v, %v", a, b)
	}
	r := rand.New(rand.NewPCG(35, 3))
	for range 3000 {
		l := some(r, 2+r.IntN(14))
		for i := range l {
			l[i].Id = i
		}
		i, k := 0, 1
		far := wide.Dist{}
		for a := range l {
			for b := a + 1; b < len(l); b++ {
				if d := wide.Between(l[a].X, l[a].Y, l[b].X, l[b].Y); wide.Cmp(d, far) > 0 {
					i, k, far = a, b, d
				}
			}
		}
		if a, b, ok := hull.Farthest(l); !ok || a != l[i] || b != l[k] {
			t.Fatalf("Farthest(%v): %v, %v; want %v, %v", l, a, b, l[i], l[k])
		}
	}
}

func TestP35_2Memory(t *testing.T) {
	l := []api.Point{at(3, 5, 5), at(1, 7, 1), at(2, 5, 4)}
	hull.Of(l)[0].Id = 77
	hull.Farthest(l)
	if !slices.Equal(l, []api.Point{at(3, 5, 5), at(1, 7, 1), at(2, 5, 4)}) {
		t.Error("what was handed in is changed")
	}
	two := l[:1]
	hull.Of(two)[0].Id = 77
	if l[0].Id != 3 {
		t.Error("an answer shares with what was handed in")
	}
}
