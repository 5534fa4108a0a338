package plan_test

import (
	"math"
	"math/rand/v2"
	"slices"
	"testing"

	"croft/api"
	"croft/batch"
	"croft/plan"
)

var g = api.Geometry{Segments: 7, Size: 5}

func entries(l ...int) []api.Entry {
	var all []api.Entry
	for i := 0; i < len(l); i += 2 {
		all = append(all, api.Entry{Kind: l[i], Id: l[i+1]})
	}
	return all
}

func many(n, kind int) []api.Entry {
	var all []api.Entry
	for i := range n {
		all = append(all, api.Entry{Kind: kind, Id: 1 + i%255})
	}
	return all
}

func at(seg, off, next int) api.Place {
	return api.Place{Seg: seg, Off: off, Next: next}
}

func part(p api.Place, last bool, l []api.Entry) plan.Part {
	return plan.Part{Place: p, Summary: batch.Summary{Next: p.Next, Last: last, Entries: l}}
}

func same(a, b []plan.Part) bool {
	return slices.EqualFunc(a, b, func(x, y plan.Part) bool { return x.Place == y.Place && batch.Same(x.Summary, y.Summary) })
}

func TestP18_1Parts(t *testing.T) {
	long := many(9, 1)
	gone := many(100, 2)
	for i, x := range []struct {
		p     api.Place
		free  []int
		l     []api.Entry
		parts []plan.Part
		then  api.Place
		left  []int
	}{
		{at(0, 0, 1), []int{2, 3}, nil, nil, at(0, 0, 1), []int{2, 3}},
		{at(0, 5, 1), nil, nil, nil, at(0, 5, 1), nil},
		{at(0, 0, 1), []int{2}, entries(1, 7), []plan.Part{part(at(0, 0, 1), true, entries(1, 7))}, at(0, 2, 1), []int{2}},
		{at(0, 0, 1), nil, entries(2, 7), []plan.Part{part(at(0, 0, 1), true, entries(2, 7))}, at(0, 1, 1), nil},
		{at(0, 3, 1), nil, entries(1, 7), []plan.Part{part(at(0, 3, 1), true, entries(1, 7))}, at(0, 5, 1), nil},
		{at(0, 4, 1), []int{4, 3}, entries(1, 7), []plan.Part{part(at(1, 0, 4), true, entries(1, 7))}, at(1, 2, 4), []int{3}},
		{at(0, 5, 1), []int{4}, entries(2, 7), []plan.Part{part(at(1, 0, 4), true, entries(2, 7))}, at(1, 1, 4), nil},
		{at(0, 2, 1), []int{4, 3}, long, []plan.Part{part(at(0, 2, 1), false, long[:2]), part(at(1, 0, 4), false, long[2:6]), part(at(4, 0, 3), true, long[6:])}, at(4, 4, 3), nil},
		{at(0, 2, 1), nil, entries(1, 1, 1, 2, 2, 3, 2, 4), []plan.Part{part(at(0, 2, 1), true, entries(1, 1, 1, 2, 2, 3, 2, 4))}, at(0, 5, 1), nil},
		{at(0, 2, 1), []int{6}, entries(2, 9, 1, 1, 1, 2, 2, 3, 1, 4, 2, 5), []plan.Part{part(at(0, 2, 1), false, entries(2, 9, 1, 1, 1, 2, 2, 3)), part(at(1, 0, 6), true, entries(1, 4, 2, 5))}, at(1, 2, 6), nil},
		{at(0, 0, 1), nil, gone, []plan.Part{part(at(0, 0, 1), false, gone[:64]), part(at(0, 1, 1), true, gone[64:])}, at(0, 2, 1), nil},
		{at(0, 2, 1), []int{5}, slices.Concat(many(64, 2), entries(1, 1, 1, 2)), []plan.Part{part(at(0, 2, 1), false, many(64, 2)), part(at(0, 3, 1), false, entries(1, 1)), part(at(1, 0, 5), true, entries(1, 2))}, at(1, 2, 5), nil},
	} {
		parts, then, left, e := plan.Parts(g, x.p, x.free, x.l)
		if e != api.OK || !same(parts, x.parts) || then != x.then || !slices.Equal(left, x.left) {
			t.Errorf("%d: %v, %v, %v, %d", i, parts, then, left, e)
		}
	}
}

func TestP18_1Errors(t *testing.T) {
	bad := entries(1, 0)
	for i, x := range []struct {
		g    api.Geometry
		p    api.Place
		free []int
		l    []api.Entry
		want api.Errno
	}{
		{api.Geometry{}, at(0, 0, 1), nil, nil, api.ErrRange}, {api.Geometry{Segments: 7, Size: 3}, at(0, 0, 1), nil, bad, api.ErrRange},
		{g, at(-1, 0, 1), nil, nil, api.ErrRange}, {g, at(7, 0, 1), nil, nil, api.ErrRange}, {g, at(0, 0, -1), nil, nil, api.ErrRange}, {g, at(0, 0, 7), nil, bad, api.ErrRange},
		{g, at(0, -1, 1), nil, nil, api.ErrRange}, {g, at(0, 6, 1), nil, nil, api.ErrRange}, {g, at(math.MaxInt, math.MinInt, 0), nil, nil, api.ErrRange},
		{g, at(0, 0, 1), []int{2, 7}, nil, api.ErrRange}, {g, at(0, 0, 1), []int{-1}, bad, api.ErrRange}, {g, at(0, 5, 1), []int{math.MaxInt}, many(1, 1), api.ErrRange},
		{g, at(0, 0, 1), nil, bad, api.ErrKind}, {g, at(0, 5, 1), nil, entries(1, 1, 3, 1), api.ErrKind}, {g, at(0, 5, 1), nil, entries(1, 1, 2, 256), api.ErrKind}, {g, at(0, 0, 1), nil, entries(0, 1), api.ErrKind},
		{g, at(0, 4, 1), nil, entries(1, 1), api.ErrFull}, {g, at(0, 5, 1), nil, entries(2, 1), api.ErrFull}, {g, at(0, 0, 1), nil, many(5, 1), api.ErrFull}, {g, at(0, 0, 1), []int{2}, many(9, 1), api.ErrFull},
	} {
		parts, p, free, e := plan.Parts(x.g, x.p, x.free, x.l)
		if e != x.want || len(parts) != 0 || p != (api.Place{}) || len(free) != 0 {
			t.Errorf("%d: %v, %v, %v, %d; want %d", i, parts, p, free, e, x.want)
		}
		if n := plan.Room(x.g, x.p, x.free); x.want == api.ErrRange && n != 0 {
			t.Errorf("%d: Room %d", i, n)
		}
	}
}

func TestP18_1Room(t *testing.T) {
	for _, size := range []int{4, 5, 32} {
		g := api.Geometry{Segments: 7, Size: size}
		for off := 0; off <= size; off++ {
			for n := range 4 {
				free := []int{2, 3, 4, 5}[:n]
				room := plan.Room(g, at(0, off, 1), free)
				if _, _, _, e := plan.Parts(g, at(0, off, 1), free, many(room, 1)); e != api.OK {
					t.Errorf("size %d, off %d, %d free: %d do not go: %d", size, off, n, room, e)
				}
				if _, _, _, e := plan.Parts(g, at(0, off, 1), free, many(room+1, 1)); e != api.ErrFull {
					t.Errorf("size %d, off %d, %d free: %d go: %d", size, off, n, room+1, e)
				}
			}
		}
	}
}

func TestP18_1Whole(t *testing.T) {
	r := rand.New(rand.NewPCG(18, 1))
	for range 300 {
		g := api.Geometry{Segments: 6 + r.IntN(27), Size: 4 + r.IntN(29)}
		var l []api.Entry
		for range r.IntN(200) {
			l = append(l, api.Entry{Kind: 1 + r.IntN(2), Id: 1 + r.IntN(255)})
		}
		p, free := at(0, r.IntN(g.Size+1), 1), []int{}
		for seg := 2; seg < g.Segments; seg++ {
			free = append(free, seg)
		}
		parts, then, left, e := plan.Parts(g, p, free, l)
		if e != api.OK {
			continue
		}
		var all []api.Entry
		for i, x := range parts {
			s := x.Summary
			if batch.Check(s) != api.OK || s.Last != (i == len(parts)-1) || s.Next != x.Place.Next || len(s.Entries) == 0 {
				t.Fatalf("part %d: %v", i, x)
			}
			if g.Size-p.Off < 2 {
				p, free = at(p.Next, 0, free[0]), free[1:]
			}
			if x.Place != p || p.Off+1+batch.Written(s) > g.Size {
				t.Fatalf("part %d stands at %v, not %v", i, x.Place, p)
			}
			p.Off += 1 + batch.Written(s)
			all = append(all, s.Entries...)
			if !s.Last && len(s.Entries) < 64 && (p.Off < g.Size || l[len(all)].Kind == 2) {
				t.Fatalf("part %d has fewer entries than fit", i)
			}
		}
		if !slices.Equal(all, l) || then != p || !slices.Equal(left, free) {
			t.Fatal("the parts are not the whole")
		}
	}
}

func TestP18_2Memory(t *testing.T) {
	free, l := []int{2, 3}, entries(1, 1, 1, 2)
	parts, _, left, _ := plan.Parts(g, at(0, 0, 1), free, l)
	parts[0].Summary.Entries[0].Id = 99
	left[0] = 77
	if free[0] != 2 || l[0].Id != 1 {
		t.Error("an answer shares with what was handed in")
	}
	_, _, left, _ = plan.Parts(g, at(0, 0, 1), free, nil)
	left[0] = 77
	if free[0] != 2 {
		t.Error("of no entries: an answer shares with what was handed in")
	}
	parts, _, _, _ = plan.Parts(g, at(0, 2, 1), free, entries(1, 1, 1, 2, 1, 3))
	_ = append(parts[0].Summary.Entries, api.Entry{Kind: 1, Id: 200})
	if parts[1].Summary.Entries[0].Id != 3 {
		t.Error("two lists of one answer share")
	}
}
