package victim_test

import (
	"math"
	"math/big"
	"math/rand/v2"
	"slices"
	"testing"

	"croft/victim"
)

func near(n, low, high int) int64 {
	return int64(min(max(n, low), high))
}

// worth: the chapter's words; nothing where it would be nothing over nothing.
func worth(size int, s victim.Seg) *big.Rat {
	n, live, age := near(size, 0, 1024), near(s.Live, 0, 1024), near(s.Age, 1, 1<<32)
	if n+live == 0 {
		return new(big.Rat)
	}
	return big.NewRat(max(n-live, 0)*age, n+live)
}

func number(r *rand.Rand, high int) int {
	switch r.IntN(12) {
	case 0:
		return math.MinInt
	case 1:
		return math.MaxInt
	case 2:
		return -r.IntN(5)
	case 3:
		return high + r.IntN(3) - 1
	}
	return r.IntN(high)
}

func TestP27_1Better(t *testing.T) {
	for _, x := range []struct {
		size int
		a, b victim.Seg
		want bool
	}{
		{8, victim.Seg{Live: 1, Age: 5}, victim.Seg{Live: 2, Age: 5}, true}, {8, victim.Seg{Live: 2, Age: 5}, victim.Seg{Live: 1, Age: 5}, false}, {8, victim.Seg{Live: 2, Age: 5}, victim.Seg{Live: 2, Age: 5}, false},
		{8, victim.Seg{Live: 2, Age: 6}, victim.Seg{Live: 2, Age: 5}, true}, {8, victim.Seg{Live: 4, Age: 3}, victim.Seg{Live: 0, Age: 1}, false}, {8, victim.Seg{Live: 4, Age: 4}, victim.Seg{Live: 0, Age: 1}, true},
		{8, victim.Seg{Live: 8, Age: 99}, victim.Seg{Live: 9, Age: 1}, false}, {8, victim.Seg{Live: 7, Age: 1}, victim.Seg{Live: 9, Age: 1 << 32}, true},
		{0, victim.Seg{Live: 0, Age: 9}, victim.Seg{Live: 0, Age: 1}, false}, {-5, victim.Seg{Live: 0, Age: 9}, victim.Seg{Live: 5, Age: 1}, false},
		{8, victim.Seg{Live: -3, Age: 1}, victim.Seg{Live: 0, Age: 1}, false}, {8, victim.Seg{Live: 1, Age: 0}, victim.Seg{Live: 1, Age: 1}, false}, {8, victim.Seg{Live: 1, Age: math.MaxInt}, victim.Seg{Live: 1, Age: 1<<32 - 1}, true},
		{8, victim.Seg{Live: 1, Age: math.MaxInt}, victim.Seg{Live: 1, Age: 1 << 32}, false}, {math.MaxInt, victim.Seg{Live: 1023, Age: 1}, victim.Seg{Live: 1024, Age: 1}, true},
	} {
		if got := victim.Better(x.size, x.a, x.b); got != x.want {
			t.Errorf("Better(%d, %v, %v): %v", x.size, x.a, x.b, got)
		}
	}
	r := rand.New(rand.NewPCG(27, 1))
	for range 5000 {
		size := number(r, 1024)
		a, b := victim.Seg{Live: number(r, 1024), Age: number(r, 1<<32)}, victim.Seg{Live: number(r, 1024), Age: number(r, 1<<32)}
		if r.IntN(3) == 0 {
			size, a, b = r.IntN(8), victim.Seg{Live: r.IntN(8), Age: r.IntN(8)}, victim.Seg{Live: r.IntN(8), Age: r.IntN(8)}
		}
		if got, want := victim.Better(size, a, b), worth(size, a).Cmp(worth(size, b)) > 0; got != want {
			t.Fatalf("Better(%d, %v, %v): %v", size, a, b, got)
		}
	}
}

func TestP27_1Pick(t *testing.T) {
	r := rand.New(rand.NewPCG(27, 2))
	for range 5000 {
		size := r.IntN(12)
		if r.IntN(9) == 0 {
			size = number(r, 1024)
		}
		var l []victim.Seg
		for range r.IntN(9) {
			s := victim.Seg{Live: r.IntN(14) - 1, Age: r.IntN(4)}
			if r.IntN(9) == 0 {
				s = victim.Seg{Live: number(r, 1024), Age: number(r, 1<<32)}
			}
			l = append(l, s)
		}
		var out []int
		for range r.IntN(5) {
			out = append(out, r.IntN(11)-1)
		}
		best := -1
		for i, s := range l {
			if s.Live < 1 || s.Live >= int(near(size, 0, 1024)) || slices.Contains(out, i) {
				continue
			}
			if best < 0 || worth(size, s).Cmp(worth(size, l[best])) > 0 {
				best = i
			}
		}
		got, ok := victim.Pick(size, l, out)
		if ok != (best >= 0) || ok && got != best || !ok && got != 0 {
			t.Fatalf("Pick(%d, %v, %v): %d, %v; want %d", size, l, out, got, ok, best)
		}
	}
}

func TestP27_1PickEdges(t *testing.T) {
	for i, x := range []struct {
		size int
		l    []victim.Seg
		out  []int
		want int
		ok   bool
	}{
		{8, nil, nil, 0, false}, {8, []victim.Seg{{0, 9}, {8, 9}, {9, 9}, {-1, 9}}, nil, 0, false}, {8, []victim.Seg{{3, 9}, {3, 9}}, nil, 0, true}, {8, []victim.Seg{{3, 9}, {3, 9}}, []int{0}, 1, true},
		{8, []victim.Seg{{3, 9}, {3, 9}}, []int{1, 0, math.MaxInt, -1}, 0, false}, {8, []victim.Seg{{7, 1}, {1, 1}, {7, 1 << 31}}, nil, 2, true}, {1, []victim.Seg{{1, 1}}, nil, 0, false}, {2, []victim.Seg{{1, 1}}, nil, 0, true},
		{math.MaxInt, []victim.Seg{{1024, 1}, {1023, 1}}, nil, 1, true}, {math.MinInt, []victim.Seg{{1, 1}}, nil, 0, false}, {8, []victim.Seg{{math.MaxInt, 1}, {math.MinInt, 1}}, nil, 0, false},
	} {
		if got, ok := victim.Pick(x.size, x.l, x.out); got != x.want || ok != x.ok {
			t.Errorf("%d: %d, %v", i, got, ok)
		}
	}
}

func TestP27_1Age(t *testing.T) {
	for _, x := range []struct{ epoch, age, want int }{{9, 4, 5}, {9, 9, 1}, {9, 8, 1}, {9, 7, 2}, {4, 9, 1}, {0, 0, 1}, {-5, -9, 1}, {5, -9, 5}, {math.MaxInt, 0, 1 << 32}, {math.MaxInt, math.MaxInt, 1}, {1 << 32, 1, 1<<32 - 1}, {math.MinInt, math.MaxInt, 1}, {math.MaxInt, math.MinInt, 1 << 32}} {
		if got := victim.Age(x.epoch, x.age); got != x.want {
			t.Errorf("Age(%d, %d): %d", x.epoch, x.age, got)
		}
	}
}

func TestP27_2Memory(t *testing.T) {
	l, out := []victim.Seg{{3, 9}, {2, 9}}, []int{1}
	victim.Pick(8, l, out)
	if l[0] != (victim.Seg{Live: 3, Age: 9}) || l[1] != (victim.Seg{Live: 2, Age: 9}) || out[0] != 1 {
		t.Error("what was handed in is changed")
	}
}
