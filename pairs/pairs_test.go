package pairs_test

import (
	"math"
	"math/rand/v2"
	"slices"
	"testing"

	"croft/api"
	"croft/pairs"
	"croft/wide"
)

const top = math.MaxUint32

func some(r *rand.Rand, n int) []api.Point {
	var l []api.Point
	kind := r.IntN(3)
	for i := range n {
		p := api.Point{Id: i - 3, X: uint32(r.IntN(9)), Y: uint32(r.IntN(9))}
		switch kind {
		case 1:
			p.X, p.Y = []uint32{r.Uint32(), 0, top, 1 << 31}[r.IntN(4)], []uint32{r.Uint32(), 0, top, 1 << 31}[r.IntN(4)]
		case 2:
			p.X, p.Y = uint32(r.IntN(100)), uint32(r.IntN(100))
		}
		l = append(l, p)
	}
	return l
}

func dist(a, b api.Point) wide.Dist {
	return wide.Between(a.X, a.Y, b.X, b.Y)
}

func TestP36_1Closest(t *testing.T) {
	r := rand.New(rand.NewPCG(36, 1))
	for range 3000 {
		l := some(r, r.IntN(20))
		a, b, ok := pairs.Closest(l)
		if len(l) < 2 {
			if ok || a != (api.Point{}) || b != (api.Point{}) {
				t.Fatalf("Closest of %d", len(l))
			}
			continue
		}
		i, k := 0, 1
		for x := range l {
			for y := x + 1; y < len(l); y++ {
				if wide.Cmp(dist(l[x], l[y]), dist(l[i], l[k])) < 0 {
					i, k = x, y
				}
			}
		}
		if !ok || a != l[i] || b != l[k] {
			t.Fatalf("Closest(%v): %v, %v; want %v, %v", l, a, b, l[i], l[k])
		}
	}
	two := []api.Point{{Id: 5, X: top, Y: top}, {Id: 2}}
	if a, b, ok := pairs.Closest(two); !ok || a != two[0] || b != two[1] {
		t.Errorf("Closest of two: %v, %v", a, b)
	}
}

func TestP36_1Nearest(t *testing.T) {
	r := rand.New(rand.NewPCG(36, 2))
	for range 3000 {
		l := some(r, r.IntN(20))
		got := pairs.Nearest(l)
		if len(got) != len(l) {
			t.Fatalf("Nearest of %d: %v", len(l), got)
		}
		for i := range l {
			want := -1
			for k := range l {
				if k != i && (want < 0 || wide.Cmp(dist(l[i], l[k]), dist(l[i], l[want])) < 0) {
					want = k
				}
			}
			if got[i] != want {
				t.Fatalf("Nearest(%v): %v; want %d at %d", l, got, want, i)
			}
		}
	}
	if got := pairs.Nearest([]api.Point{{Id: 1}}); !slices.Equal(got, []int{-1}) {
		t.Errorf("Nearest of one: %v", got)
	}
	if got := pairs.Nearest([]api.Point{{X: top, Y: top}, {}, {X: top}}); !slices.Equal(got, []int{2, 2, 0}) {
		t.Errorf("Nearest of the farthest: %v", got)
	}
}

// joined: groups that grow as long as they can.
func joined(l []api.Point, d wide.Dist) [][]int {
	group := make([]int, len(l))
	for i := range group {
		group[i] = i
	}
	for grew := true; grew; {
		grew = false
		for i := range l {
			for k := range l {
				if group[i] < group[k] && wide.Cmp(dist(l[i], l[k]), d) <= 0 {
					group[k] = group[i]
					grew = true
				}
			}
		}
	}
	var all [][]int
	for g := range l {
		var one []int
		for i := range l {
			if group[i] == g {
				one = append(one, i)
			}
		}
		if len(one) > 0 {
			all = append(all, one)
		}
	}
	return all
}

func TestP36_1Joined(t *testing.T) {
	r := rand.New(rand.NewPCG(36, 3))
	for range 2000 {
		l := some(r, r.IntN(20))
		d := wide.Dist{Lo: uint64(r.IntN(300))}
		switch r.IntN(5) {
		case 0:
			d = wide.Dist{}
		case 1:
			d = wide.Dist{Lo: r.Uint64()}
		case 2:
			d = wide.Dist{Hi: uint64(r.IntN(3)), Lo: r.Uint64()}
		}
		if got, want := pairs.Joined(l, d), joined(l, d); !slices.EqualFunc(got, want, slices.Equal[[]int]) {
			t.Fatalf("Joined(%v, %v): %v, want %v", l, d, got, want)
		}
	}
	if got := pairs.Joined(nil, wide.Dist{Hi: 9}); len(got) != 0 {
		t.Errorf("Joined of nothing: %v", got)
	}
	if got := pairs.Joined([]api.Point{{X: 3}, {X: 9}, {X: 6}, {X: 20}}, wide.Dist{Lo: 9}); !slices.EqualFunc(got, [][]int{{0, 1, 2}, {3}}, slices.Equal[[]int]) {
		t.Errorf("Joined by others: %v", got)
	}
	if got := pairs.Joined([]api.Point{{X: 3}, {X: 9}, {X: 6}}, wide.Dist{Lo: 8}); len(got) != 3 {
		t.Errorf("Joined just too far: %v", got)
	}
}

func TestP36_1Many(t *testing.T) {
	var l []api.Point
	for i := range 20000 {
		l = append(l, api.Point{Id: i, X: uint32(i%10) * 3, Y: 7})
	}
	a, b, ok := pairs.Closest(l)
	if !ok || a.Id != 0 || b.Id != 10 {
		t.Errorf("Closest of many at ten places: %v, %v", a, b)
	}
	if got := pairs.Nearest(l); got[0] != 10 || got[10] != 0 || got[19999] != 9 {
		t.Errorf("Nearest of many at ten places: %d, %d, %d", got[0], got[10], got[19999])
	}
	if got := pairs.Joined(l, wide.Dist{}); len(got) != 10 || len(got[3]) != 2000 {
		t.Errorf("Joined of many at ten places: %d", len(got))
	}
}

func TestP36_2Memory(t *testing.T) {
	l := []api.Point{{Id: 2, X: 5}, {Id: 1, X: 3}, {Id: 3, X: 9}}
	pairs.Closest(l)
	pairs.Nearest(l)[0] = 9
	j := pairs.Joined(l, wide.Dist{Lo: 4})
	j[0][0] = 9
	_ = append(j[0], 77)
	if j[1][0] != 2 || pairs.Joined(l, wide.Dist{Lo: 4})[0][0] != 0 || pairs.Nearest(l)[0] != 1 {
		t.Error("answers share")
	}
	if !slices.Equal(l, []api.Point{{Id: 2, X: 5}, {Id: 1, X: 3}, {Id: 3, X: 9}}) {
		t.Error("what was handed in is changed")
	}
}
