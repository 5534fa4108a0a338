package delta_test

import (
	"math"
	"math/rand/v2"
	"slices"
	"testing"

	"croft/api"
	"croft/delta"
	"croft/point"
)

func at(id int, x uint32, data string) api.Point {
	return api.Point{Id: id, X: x, Data: data}
}

func some(r *rand.Rand) []api.Point {
	var l []api.Point
	for range r.IntN(9) {
		l = append(l, at(r.IntN(8)-1, uint32(r.IntN(2)), []string{"", "a"}[r.IntN(2)]))
	}
	return l
}

func taken(l []api.Point) []api.Point {
	var all []api.Point
	for _, p := range l {
		if point.Find(all, p.Id) < 0 {
			all = append(all, p)
		}
	}
	return point.Sort(all)
}

func TestP40_1Between(t *testing.T) {
	a := []api.Point{at(5, 1, ""), at(1, 1, "x"), at(2, 2, ""), at(3, 3, ""), at(1, 9, "")}
	b := []api.Point{at(4, 4, ""), at(1, 1, "y"), at(3, 4, ""), at(5, 1, ""), at(4, 5, "")}
	want := []delta.Change{{3, at(1, 1, "y")}, {2, at(2, 2, "")}, {3, at(3, 4, "")}, {1, at(4, 4, "")}}
	if got := delta.Between(a, b); !slices.Equal(got, want) {
		t.Errorf("Between: %v", got)
	}
	if len(delta.Between(a, a)) != 0 || len(delta.Between(nil, nil)) != 0 || len(delta.Between(nil, []api.Point{})) != 0 {
		t.Error("Between of the same")
	}
	if got := delta.Between(nil, []api.Point{at(math.MaxInt, 1, ""), at(math.MinInt, 2, "")}); !slices.Equal(got, []delta.Change{{1, at(math.MinInt, 2, "")}, {1, at(math.MaxInt, 1, "")}}) {
		t.Errorf("Between of Ids of any size: %v", got)
	}
	y := api.Point{Id: 1, Y: 7}
	if got := delta.Between([]api.Point{{Id: 1}}, []api.Point{y}); !slices.Equal(got, []delta.Change{{3, y}}) {
		t.Errorf("Between of two Y: %v", got)
	}
}

func TestP40_1Apply(t *testing.T) {
	a := []api.Point{at(5, 1, ""), at(1, 1, "x"), at(5, 2, "")}
	for i, x := range []struct {
		l    []delta.Change
		want []api.Point
		e    api.Errno
	}{
		{nil, []api.Point{at(1, 1, "x"), at(5, 1, "")}, api.OK},
		{[]delta.Change{{1, at(3, 3, "")}, {3, at(3, 4, "")}, {2, at(1, 77, "other")}, {1, at(1, 2, "")}, {3, at(5, 1, "")}}, []api.Point{at(1, 2, ""), at(3, 4, ""), at(5, 1, "")}, api.OK},
		{[]delta.Change{{2, at(5, 0, "")}, {2, at(1, 0, "")}}, nil, api.OK},
		{[]delta.Change{{0, at(1, 1, "")}}, nil, api.ErrKind}, {[]delta.Change{{4, at(9, 1, "")}}, nil, api.ErrKind}, {[]delta.Change{{-1, at(9, 1, "")}}, nil, api.ErrKind}, {[]delta.Change{{math.MaxInt, at(9, 1, "")}}, nil, api.ErrKind},
		{[]delta.Change{{1, at(1, 1, "")}, {0, at(1, 1, "")}}, nil, api.ErrTwice}, {[]delta.Change{{1, at(3, 1, "")}, {1, at(3, 1, "")}}, nil, api.ErrTwice},
		{[]delta.Change{{2, at(3, 1, "")}, {0, at(1, 1, "")}}, nil, api.ErrNone}, {[]delta.Change{{3, at(3, 1, "")}}, nil, api.ErrNone}, {[]delta.Change{{2, at(1, 1, "")}, {2, at(1, 1, "")}}, nil, api.ErrNone}, {[]delta.Change{{2, at(1, 1, "")}, {3, at(1, 1, "")}}, nil, api.ErrNone},
	} {
		if got, e := delta.Apply(a, x.l); e != x.e || !slices.Equal(got, x.want) {
			t.Errorf("%d: %v, %d", i, got, e)
		}
	}
	if got, e := delta.Apply(nil, nil); e != api.OK || len(got) != 0 {
		t.Errorf("Apply of nothing: %v, %d", got, e)
	}
}

func TestP40_2Applied(t *testing.T) {
	r := rand.New(rand.NewPCG(40, 2))
	for range 2000 {
		a, b := some(r), some(r)
		l := delta.Between(a, b)
		if got, e := delta.Apply(a, l); e != api.OK || !slices.Equal(got, taken(b)) {
			t.Fatalf("from %v to %v: %v, %d", a, b, got, e)
		}
		if !slices.IsSortedFunc(l, func(x, y delta.Change) int { return x.Point.Id - y.Point.Id }) {
			t.Fatalf("not by Id: %v", l)
		}
	}
}

// one answers what stands at an Id; nil if there is nothing.
func one(l []api.Point, id int) *api.Point {
	if i := point.Find(l, id); i >= 0 {
		return &l[i]
	}
	return nil
}

func same(a, b *api.Point) bool {
	return a == nil && b == nil || a != nil && b != nil && *a == *b
}

func TestP40_1Merge(t *testing.T) {
	r := rand.New(rand.NewPCG(40, 3))
	for range 5000 {
		base, a, b := some(r), some(r), some(r)
		var want []api.Point
		var torn []int
		for id := -1; id < 8; id++ {
			o, x, y := one(base, id), one(a, id), one(b, id)
			is := x
			if !same(x, y) && same(x, o) {
				is = y
			}
			if !same(x, y) && !same(x, o) && !same(y, o) {
				torn = append(torn, id)
			}
			if is != nil {
				want = append(want, *is)
			}
		}
		got, ids := delta.Merge(base, a, b)
		if !slices.Equal(got, want) || !slices.Equal(ids, torn) {
			t.Fatalf("Merge(%v, %v, %v): %v, %v; want %v, %v", base, a, b, got, ids, want, torn)
		}
	}
	if l, ids := delta.Merge(nil, nil, nil); len(l) != 0 || len(ids) != 0 {
		t.Error("Merge of nothing")
	}
	// a let it go, b moved it: it goes, and is told.
	l, ids := delta.Merge([]api.Point{at(1, 1, "")}, nil, []api.Point{at(1, 2, "")})
	if len(l) != 0 || !slices.Equal(ids, []int{1}) {
		t.Errorf("Merge of what went and moved: %v, %v", l, ids)
	}
	l, ids = delta.Merge(nil, []api.Point{at(1, 1, "")}, []api.Point{at(1, 2, "")})
	if !slices.Equal(l, []api.Point{at(1, 1, "")}) || !slices.Equal(ids, []int{1}) {
		t.Errorf("Merge of what came twice: %v, %v", l, ids)
	}
}

func TestP40_3Memory(t *testing.T) {
	a, b := []api.Point{at(2, 1, ""), at(1, 1, "")}, []api.Point{at(2, 2, "")}
	l := delta.Between(a, b)
	delta.Apply(a, l)
	m, _ := delta.Merge(a, a, b)
	m[0].Id = 77
	l[0].Point.Id = 77
	if !slices.Equal(a, []api.Point{at(2, 1, ""), at(1, 1, "")}) || !slices.Equal(b, []api.Point{at(2, 2, "")}) {
		t.Error("what was handed in is changed")
	}
	got, _ := delta.Apply(a, nil)
	got[0].Id = 77
	if a[1].Id != 1 {
		t.Error("an answer shares with what was handed in")
	}
}
