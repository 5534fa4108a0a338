package track_test

import (
	"math"
	"math/rand/v2"
	"slices"
	"testing"

	"croft/api"
	"croft/poly"
	"croft/track"
	"croft/wide"
)

const top = math.MaxUint32

func at(id int, x, y uint32) api.Point {
	return api.Point{Id: id, X: x, Y: y, Data: "d"}
}

func some(r *rand.Rand, n int) []api.Point {
	var l []api.Point
	for i := range n {
		l = append(l, at(i, uint32(r.IntN(4)), uint32(r.IntN(4))))
	}
	return l
}

func ids(l []api.Point) []int {
	var all []int
	for _, p := range l {
		all = append(all, p.Id)
	}
	return all
}

func TestP46_1Legs(t *testing.T) {
	l := []api.Point{at(1, 0, 0), at(2, 3, 4), at(3, 3, 4), at(4, top, top), at(5, 0, 0)}
	far := wide.Between(0, 0, top, top)
	want := []wide.Dist{{Lo: 25}, {}, wide.Between(3, 4, top, top), far}
	if got := track.Legs(l); !slices.Equal(got, want) {
		t.Errorf("Legs: %v", got)
	}
	if len(track.Legs(nil)) != 0 || len(track.Legs(l[:1])) != 0 {
		t.Error("Legs of none")
	}
	if got := track.Length(l[:3]); got != (wide.Dist{Lo: 25}) {
		t.Errorf("Length: %v", got)
	}
	if got := track.Length(l); got != wide.Add(wide.Add(want[0], want[2]), far) || got.Hi != 3 {
		t.Errorf("Length: %v", got)
	}
	if track.Length(nil) != (wide.Dist{}) || track.Length(l[:1]) != (wide.Dist{}) {
		t.Error("Length of one point")
	}
}

func TestP46_1Thin(t *testing.T) {
	l := []api.Point{at(1, 0, 0), at(2, 3, 0), at(3, 4, 0), at(4, 5, 0), at(5, 9, 0), at(6, 0, 0), at(7, 0, 0)}
	for lo, want := range map[uint64][]int{0: {1, 2, 3, 4, 5, 6}, 1: {1, 2, 4, 5, 6}, 8: {1, 2, 5, 6}, 9: {1, 3, 5, 6}, 15: {1, 3, 5, 6}, 16: {1, 4, 6}, 24: {1, 4, 6}, 25: {1, 5, 6}, 81: {1}} {
		if got := track.Thin(l, wide.Dist{Lo: lo}); !slices.Equal(ids(got), want) {
			t.Errorf("Thin of %d: %v, want %v", lo, ids(got), want)
		}
	}
	if got := track.Thin(l, wide.Dist{Hi: math.MaxUint64}); !slices.Equal(ids(got), []int{1}) {
		t.Errorf("Thin of all: %v", got)
	}
	if got := track.Thin(l[1:2], wide.Dist{}); !slices.Equal(got, l[1:2]) {
		t.Errorf("Thin of one: %v", got)
	}
	if len(track.Thin(nil, wide.Dist{})) != 0 {
		t.Error("Thin of nothing")
	}
}

func TestP46_1Turns(t *testing.T) {
	r := rand.New(rand.NewPCG(46, 1))
	for range 500 {
		l := some(r, r.IntN(12))
		left, right := 0, 0
		for i := 0; i+2 < len(l); i++ {
			switch poly.Turn(l[i], l[i+1], l[i+2]) {
			case 1:
				left++
			case -1:
				right++
			}
		}
		if a, b := track.Turns(l); a != left || b != right {
			t.Fatalf("Turns(%v): %d, %d", l, a, b)
		}
	}
	if a, b := track.Turns([]api.Point{at(1, 0, 0), at(2, 2, 0), at(3, 2, 2), at(4, 4, 2), at(5, 6, 2)}); a != 1 || b != 1 {
		t.Errorf("Turns: %d, %d", a, b)
	}
	if a, b := track.Turns([]api.Point{at(1, 0, 0), at(2, 2, 0), at(3, 2, 2), at(4, 0, 2)}); a != 2 || b != 0 {
		t.Errorf("Turns to the left: %d, %d", a, b)
	}
}

func TestP46_1Straight(t *testing.T) {
	for i, x := range []struct {
		l    []api.Point
		want []int
	}{
		{nil, nil}, {[]api.Point{at(1, 5, 5)}, []int{1}}, {[]api.Point{at(1, 5, 5), at(2, 5, 5), at(3, 5, 5)}, []int{1}}, {[]api.Point{at(1, 5, 5), at(2, 6, 6)}, []int{1, 2}},
		{[]api.Point{at(1, 0, 0), at(2, 1, 1), at(3, 2, 2), at(4, 3, 3)}, []int{1, 4}}, {[]api.Point{at(1, 0, 0), at(2, 1, 1), at(3, 1, 1), at(4, 2, 3)}, []int{1, 2, 4}},
		{[]api.Point{at(1, 0, 0), at(2, 4, 4), at(3, 2, 2)}, []int{1, 2, 3}}, {[]api.Point{at(1, 0, 0), at(2, 4, 4), at(3, 0, 0)}, []int{1, 2, 3}}, {[]api.Point{at(1, 0, 0), at(2, 4, 4), at(3, 2, 2), at(4, 1, 1)}, []int{1, 2, 4}},
		{[]api.Point{at(1, 0, 0), at(2, 2, 0), at(3, 4, 0), at(4, 4, 2), at(5, 4, 4), at(6, 4, 4), at(7, 2, 4)}, []int{1, 3, 5, 7}}, {[]api.Point{at(1, 0, 0), at(2, 1<<31, 1<<31), at(3, top, top)}, []int{1, 3}}, {[]api.Point{at(1, 0, 0), at(2, 1<<31, 1<<31-1), at(3, top, top)}, []int{1, 2, 3}},
	} {
		if got := track.Straight(x.l); !slices.Equal(ids(got), x.want) {
			t.Errorf("%d: %v, want %v", i, ids(got), x.want)
		}
	}
	r := rand.New(rand.NewPCG(46, 2))
	for range 2000 {
		l := some(r, r.IntN(12))
		var want []api.Point
		for _, p := range l {
			n := len(want)
			if n > 0 && want[n-1].X == p.X && want[n-1].Y == p.Y {
				continue
			}
			if n > 1 {
				a, b := want[n-2], want[n-1]
				within := min(a.X, p.X) <= b.X && b.X <= max(a.X, p.X) && min(a.Y, p.Y) <= b.Y && b.Y <= max(a.Y, p.Y)
				if poly.Turn(a, b, p) == 0 && within {
					want = want[:n-1]
				}
			}
			want = append(want, p)
		}
		if got := track.Straight(l); !slices.Equal(got, want) {
			t.Fatalf("Straight(%v): %v, want %v", l, got, want)
		}
	}
}

func TestP46_2Memory(t *testing.T) {
	l := []api.Point{at(1, 0, 0), at(2, 1, 1), at(3, 2, 2), at(4, 9, 3)}
	before := slices.Clone(l)
	track.Straight(l)[0].Id = 77
	track.Thin(l, wide.Dist{})[0].Id = 77
	track.Legs(l)[0].Lo = 77
	track.Turns(l)
	if !slices.Equal(l, before) {
		t.Errorf("what was handed in is changed: %v", l)
	}
}
