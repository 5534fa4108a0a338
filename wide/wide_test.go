package wide_test

import (
	"math"
	"math/big"
	"math/rand/v2"
	"testing"

	"croft/api"
	"croft/wide"
)

const top = math.MaxUint32

func number(d wide.Dist) *big.Int {
	n := new(big.Int).SetUint64(d.Hi)
	n.Lsh(n, 64)
	return n.Add(n, new(big.Int).SetUint64(d.Lo))
}

func square(a, b uint32) *big.Int {
	n := big.NewInt(int64(a) - int64(b))
	return n.Mul(n, n)
}

func coordinate(r *rand.Rand) uint32 {
	switch r.IntN(4) {
	case 0:
		return top - uint32(r.IntN(3))
	case 1:
		return uint32(r.IntN(3))
	}
	return r.Uint32()
}

func TestP3_1Square(t *testing.T) {
	for _, n := range []uint32{0, 1, 2, 65535, 65536, 1 << 31, top} {
		if got := number(wide.Square(n)); got.Cmp(square(n, 0)) != 0 {
			t.Errorf("Square(%d): %v", n, got)
		}
	}
}

func TestP3_1Between(t *testing.T) {
	if d := wide.Between(0, 0, 3, 4); d != (wide.Dist{Lo: 25}) {
		t.Errorf("Between 0, 0 and 3, 4: %v", d)
	}
	if d := wide.Between(top, 0, 0, top); d != (wide.Dist{Hi: 1, Lo: 0xFFFFFFFC00000002}) {
		t.Errorf("Between the farthest: %v", d)
	}
	r := rand.New(rand.NewPCG(3, 1))
	for range 500 {
		x0, y0, x1, y1 := coordinate(r), coordinate(r), coordinate(r), coordinate(r)
		want := square(x0, x1)
		want.Add(want, square(y0, y1))
		if got := number(wide.Between(x0, y0, x1, y1)); got.Cmp(want) != 0 {
			t.Errorf("Between %d, %d and %d, %d: %v, want %v", x0, y0, x1, y1, got, want)
		}
	}
}

func TestP3_1Add(t *testing.T) {
	full := uint64(math.MaxUint64)
	for _, x := range []struct{ a, b, want wide.Dist }{
		{wide.Dist{}, wide.Dist{}, wide.Dist{}},
		{wide.Dist{Lo: full}, wide.Dist{Lo: 1}, wide.Dist{Hi: 1}},
		{wide.Dist{Hi: 3, Lo: full}, wide.Dist{Hi: 4, Lo: full}, wide.Dist{Hi: 8, Lo: full - 1}},
		{wide.Dist{Hi: full, Lo: full}, wide.Dist{Lo: 1}, wide.Dist{}},
		{wide.Dist{Hi: full, Lo: full}, wide.Dist{Hi: full, Lo: full}, wide.Dist{Hi: full, Lo: full - 1}},
	} {
		if got := wide.Add(x.a, x.b); got != x.want {
			t.Errorf("Add(%v, %v): %v", x.a, x.b, got)
		}
		if got := wide.Add(x.b, x.a); got != x.want {
			t.Errorf("Add(%v, %v): %v", x.b, x.a, got)
		}
	}
}

func TestP3_1Cmp(t *testing.T) {
	rising := []wide.Dist{{}, {Lo: 1}, {Lo: math.MaxUint64}, {Hi: 1}, {Hi: 1, Lo: 5}, {Hi: 2, Lo: 1}, {Hi: math.MaxUint64}, {Hi: math.MaxUint64, Lo: math.MaxUint64}}
	for i, a := range rising {
		for k, b := range rising {
			want := 0
			if i < k {
				want = -1
			} else if i > k {
				want = 1
			}
			if got := wide.Cmp(a, b); got != want {
				t.Errorf("Cmp(%v, %v): %d", a, b, got)
			}
		}
	}
}

func TestP3_1Rect(t *testing.T) {
	box := api.Rect{X0: 10, Y0: 20, X1: 30, Y1: 40}
	for _, x := range []struct {
		x, y uint32
		want uint64
	}{{10, 20, 0}, {30, 40, 0}, {20, 30, 0}, {9, 30, 1}, {31, 30, 1}, {20, 18, 4}, {20, 43, 9}, {7, 16, 25}, {33, 44, 25}, {0, 0, 500}} {
		for _, b := range []api.Rect{box, {X0: 30, Y0: 20, X1: 10, Y1: 40}, {X0: 10, Y0: 40, X1: 30, Y1: 20}, {X0: 30, Y0: 40, X1: 10, Y1: 20}} {
			if got := wide.Rect(x.x, x.y, b); got != (wide.Dist{Lo: x.want}) {
				t.Errorf("Rect(%d, %d, %v): %v, want %d", x.x, x.y, b, got, x.want)
			}
		}
	}
	if got := wide.Rect(0, 0, api.Rect{X0: top, Y0: top, X1: top, Y1: top}); got != wide.Between(0, 0, top, top) {
		t.Errorf("Rect of the farthest: %v", got)
	}
	if got := wide.Rect(0, top, api.Rect{X0: 0, Y0: 0, X1: top, Y1: top}); got != (wide.Dist{}) {
		t.Errorf("Rect of the whole plane: %v", got)
	}
}

func TestP3_2NothingKept(t *testing.T) {
	a := wide.Between(1, 2, 30, 40)
	wide.Between(9, 9, 1, 1)
	if b := wide.Between(1, 2, 30, 40); a != b {
		t.Errorf("the same question, another answer: %v, %v", a, b)
	}
}
