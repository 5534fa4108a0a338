package span_test

import (
	"cmp"
	"math"
	"math/rand/v2"
	"slices"
	"testing"

	"croft/api"
	"croft/span"
	"croft/wide"
)

const top = math.MaxUint32

func some(r *rand.Rand, n int) []api.Point {
	var l []api.Point
	small := r.IntN(2) == 0
	for range n {
		p := api.Point{Id: r.IntN(9), X: uint32(r.IntN(6)), Y: uint32(r.IntN(6))}
		if !small {
			p.X, p.Y = []uint32{r.Uint32(), 0, top}[r.IntN(3)], []uint32{r.Uint32(), 0, top}[r.IntN(3)]
		}
		l = append(l, p)
	}
	return l
}

// roads: the chapter's words, road by road.
func roads(l []api.Point) []span.Road {
	var all []span.Road
	group := make([]int, len(l))
	for i, a := range l {
		group[i] = i
		for k := i + 1; k < len(l); k++ {
			all = append(all, span.Road{From: i, To: k, Dist: wide.Between(a.X, a.Y, l[k].X, l[k].Y)})
		}
	}
	slices.SortFunc(all, func(a, b span.Road) int {
		return cmp.Or(wide.Cmp(a.Dist, b.Dist), cmp.Compare(a.From, b.From), cmp.Compare(a.To, b.To))
	})
	var kept []span.Road
	for _, r := range all {
		from, to := group[r.From], group[r.To]
		if from == to {
			continue
		}
		kept = append(kept, r)
		for i := range group {
			if group[i] == to {
				group[i] = from
			}
		}
	}
	return kept
}

func TestP42_1Roads(t *testing.T) {
	r := rand.New(rand.NewPCG(42, 1))
	for range 1000 {
		l := some(r, r.IntN(20))
		if got, want := span.Roads(l), roads(l); !slices.Equal(got, want) {
			t.Fatalf("Roads(%v): %v, want %v", l, got, want)
		}
	}
	if len(span.Roads(nil)) != 0 || len(span.Roads([]api.Point{{Id: 1}})) != 0 {
		t.Error("roads of one point")
	}
	got := span.Roads([]api.Point{{X: 9}, {X: 1}, {X: 4}, {X: 1}})
	want := []span.Road{{From: 1, To: 3}, {From: 1, To: 2, Dist: wide.Dist{Lo: 9}}, {From: 0, To: 2, Dist: wide.Dist{Lo: 25}}}
	if !slices.Equal(got, want) {
		t.Errorf("Roads: %v", got)
	}
}

func TestP42_1Longest(t *testing.T) {
	if x, ok := span.Longest(nil); ok || x != (span.Road{}) {
		t.Errorf("Longest of none: %v", x)
	}
	l := []span.Road{{From: 5, To: 1, Dist: wide.Dist{Hi: 1}}, {From: 2, To: 3, Dist: wide.Dist{Hi: 1, Lo: 4}}, {From: 9, To: 9, Dist: wide.Dist{Hi: 1, Lo: 4}}, {From: 1, To: 2, Dist: wide.Dist{Lo: math.MaxUint64}}}
	for n, want := range map[int]int{1: 0, 2: 1, 3: 2, 4: 2} {
		if x, ok := span.Longest(l[:n]); !ok || x != l[want] {
			t.Errorf("Longest of %d: %v", n, x)
		}
	}
	if x, ok := span.Longest([]span.Road{{}}); !ok || x != (span.Road{}) {
		t.Errorf("Longest of a road of no length: %v, %v", x, ok)
	}
}

// way: all ways without a place twice, the fewest roads first, then place by place.
func way(n int, r []span.Road, from, to int) []int {
	var best []int
	var walk func(w []int)
	walk = func(w []int) {
		at := w[len(w)-1]
		if at == to {
			if best == nil || len(w) < len(best) || len(w) == len(best) && slices.Compare(w, best) < 0 {
				best = slices.Clone(w)
			}
			return
		}
		for k := range n {
			if slices.Contains(w, k) {
				continue
			}
			if slices.ContainsFunc(r, func(x span.Road) bool { return x.From == at && x.To == k || x.From == k && x.To == at }) {
				walk(append(w, k))
			}
		}
	}
	if from >= 0 && from < n && to >= 0 && to < n {
		walk([]int{from})
	}
	return best
}

func TestP42_1Way(t *testing.T) {
	r := rand.New(rand.NewPCG(42, 2))
	for range 2000 {
		n := r.IntN(8)
		var l []span.Road
		for range r.IntN(14) {
			l = append(l, span.Road{From: r.IntN(10) - 1, To: r.IntN(10) - 1})
		}
		from, to := r.IntN(9)-1, r.IntN(9)-1
		got, ok := span.Way(n, l, from, to)
		want := way(n, l, from, to)
		if ok != (want != nil) || !slices.Equal(got, want) {
			t.Fatalf("Way(%d, %v, %d, %d): %v, %v; want %v", n, l, from, to, got, ok, want)
		}
	}
}

func TestP42_1WayEdges(t *testing.T) {
	line := make([]span.Road, 0, 5000)
	for i := range 5000 {
		line = append(line, span.Road{From: i + 1, To: i})
	}
	got, ok := span.Way(math.MaxInt, line, 4095, 0)
	if !ok || len(got) != 4096 || got[0] != 4095 || got[4095] != 0 {
		t.Errorf("Way of the greatest: %d, %v", len(got), ok)
	}
	if got, ok := span.Way(math.MaxInt, line, 4096, 0); ok || len(got) != 0 {
		t.Error("Way from behind the last place")
	}
	for _, x := range [][3]int{{0, 0, 0}, {-1, 0, 0}, {math.MinInt, 0, 0}, {5, -1, 2}, {5, 2, 5}, {5, math.MaxInt, math.MinInt}} {
		if got, ok := span.Way(x[0], line, x[1], x[2]); ok || len(got) != 0 {
			t.Errorf("Way(%v): %v", x, got)
		}
	}
	if got, ok := span.Way(3, nil, 2, 2); !ok || !slices.Equal(got, []int{2}) {
		t.Errorf("Way to itself: %v", got)
	}
	if got, ok := span.Way(3, nil, 2, 1); ok || len(got) != 0 {
		t.Errorf("Way without roads: %v", got)
	}
	bad := []span.Road{{From: -1, To: 2}, {From: 2, To: math.MaxInt}, {From: math.MinInt, To: 0}, {From: 0, To: 0}, {From: 0, To: 1}}
	if got, ok := span.Way(3, bad, 1, 0); !ok || !slices.Equal(got, []int{1, 0}) {
		t.Errorf("Way among others: %v", got)
	}
}

func TestP42_2Memory(t *testing.T) {
	l := []api.Point{{Id: 2, X: 5}, {Id: 1, X: 3}}
	r := span.Roads(l)
	before := slices.Clone(r)
	span.Longest(r)
	w, _ := span.Way(2, r, 0, 1)
	w[0] = 9
	if !slices.Equal(r, before) || l[0].Id != 2 {
		t.Error("what was handed in is changed")
	}
	r[0].From = 9
	if span.Roads(l)[0].From != 0 {
		t.Error("answers share")
	}
}
