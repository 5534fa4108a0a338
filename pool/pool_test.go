package pool_test

import (
	"math"
	"math/rand/v2"
	"slices"
	"testing"

	"croft/pool"
)

func holds(t *testing.T, p *pool.Pool, want ...int) {
	t.Helper()
	if got := p.All(); !slices.Equal(got, want) {
		t.Errorf("All: %v, want %v", got, want)
	}
	if p.Len() != len(want) {
		t.Errorf("Len: %d, want %d", p.Len(), len(want))
	}
}

func numbers(n int) []int {
	var l []int
	for i := range n {
		l = append(l, 1000+i)
	}
	return l
}

func TestP15_1Order(t *testing.T) {
	p := pool.New(3, 1)
	holds(t, p, 3, 1)
	if !p.Put(2) || !p.Put(3) || !p.Put(math.MinInt) || !p.Put(math.MaxInt) {
		t.Error("Put: false")
	}
	holds(t, p, 3, 1, 2, 3, math.MinInt, math.MaxInt)
	for _, want := range []int{3, 1, 2, 3, math.MinInt, math.MaxInt} {
		if n, ok := p.Take(); n != want || !ok {
			t.Errorf("Take: %d, %v; want %d", n, ok, want)
		}
	}
	holds(t, p)
	if n, ok := p.Take(); n != 0 || ok {
		t.Errorf("Take of nothing: %d, %v", n, ok)
	}
	if !p.Put(5) {
		t.Error("Put into an empty one: false")
	}
	holds(t, p, 5)
}

func TestP15_1Full(t *testing.T) {
	p := pool.New(numbers(31)...)
	if !p.Put(7) || p.Put(8) {
		t.Error("Put at the limit")
	}
	holds(t, p, append(numbers(31), 7)...)
	p = pool.New(numbers(40)...)
	holds(t, p, numbers(32)...)
	if p.Put(1) {
		t.Error("Put into a full one: true")
	}
	p.Take()
	if !p.Put(1) {
		t.Error("Put behind Take: false")
	}
	holds(t, p, append(numbers(32)[1:], 1)...)
}

func TestP15_1Clone(t *testing.T) {
	p := pool.New(4, 5)
	c := p.Clone()
	holds(t, c, 4, 5)
	p.Take()
	c.Put(6)
	holds(t, p, 5)
	holds(t, c, 4, 5, 6)
	full := pool.New(numbers(32)...).Clone()
	holds(t, full, numbers(32)...)
}

func TestP15_1Nobody(t *testing.T) {
	for _, p := range []*pool.Pool{nil, {}} {
		if p.Put(1) {
			t.Error("Put: true")
		}
		if n, ok := p.Take(); n != 0 || ok {
			t.Error("Take: something")
		}
		if p.Len() != 0 || len(p.All()) != 0 || p.Clone() != nil {
			t.Error("of nobody's: something")
		}
	}
}

func TestP15_1AsAList(t *testing.T) {
	r := rand.New(rand.NewPCG(15, 1))
	p, want := pool.New(), []int{}
	for i := range 3000 {
		if r.IntN(5) < 3 {
			if p.Put(i) != (len(want) < 32) {
				t.Fatal("Put")
			}
			if len(want) < 32 {
				want = append(want, i)
			}
		} else {
			n, ok := p.Take()
			if ok != (len(want) > 0) || ok && n != want[0] {
				t.Fatal("Take")
			}
			if ok {
				want = want[1:]
			}
		}
		holds(t, p, want...)
	}
}

func TestP15_2Memory(t *testing.T) {
	in := []int{1, 2}
	p := pool.New(in...)
	in[0] = 9
	p.All()[0] = 8
	holds(t, p, 1, 2)
}
