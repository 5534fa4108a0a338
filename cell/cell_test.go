package cell_test

import (
	"math"
	"math/rand/v2"
	"testing"

	"croft/api"
	"croft/cell"
)

const top = math.MaxUint32

func TestP4_1Root(t *testing.T) {
	root := cell.Root()
	if root != (cell.Cell{}) || cell.Check(root) != api.OK {
		t.Errorf("Root: %v", root)
	}
	if r := cell.Rect(root); r != (api.Rect{X0: 0, Y0: 0, X1: top, Y1: top}) {
		t.Errorf("Rect of the root: %v", r)
	}
}

func TestP4_1Check(t *testing.T) {
	good := []cell.Cell{{}, {1 << 31, 0, 1}, {1 << 31, 1 << 31, 1}, {0, 0, 1}, {0, 0, 32}, {top, top, 32}, {top - 1, 2, 31}}
	bad := []cell.Cell{{1, 0, 0}, {0, 1 << 31, 0}, {0, 0, -1}, {0, 0, 33}, {1 << 30, 0, 1}, {0, 1 << 30, 1}, {top, 0, 31}, {0, 0, math.MinInt}, {0, 0, math.MaxInt}}
	for _, c := range good {
		if e := cell.Check(c); e != api.OK {
			t.Errorf("Check(%v): %d", c, e)
		}
	}
	for _, c := range bad {
		if e := cell.Check(c); e != api.ErrRange {
			t.Errorf("Check(%v): %d", c, e)
		}
	}
}

func TestP4_1Taken(t *testing.T) {
	for _, x := range []struct{ c, as cell.Cell }{
		{cell.Cell{X: 5, Y: 9, Level: -4}, cell.Cell{}},
		{cell.Cell{X: 5, Y: 9, Level: math.MinInt}, cell.Cell{}},
		{cell.Cell{X: 5, Y: 9, Level: 77}, cell.Cell{X: 5, Y: 9, Level: 32}},
		{cell.Cell{X: 5, Y: 9, Level: math.MaxInt}, cell.Cell{X: 5, Y: 9, Level: 32}},
		{cell.Cell{X: 1<<31 + 7, Y: 1<<31 - 1, Level: 1}, cell.Cell{X: 1 << 31, Level: 1}},
		{cell.Cell{X: 7, Y: 6, Level: 30}, cell.Cell{X: 4, Y: 4, Level: 30}},
	} {
		if got, want := cell.Rect(x.c), cell.Rect(x.as); got != want {
			t.Errorf("Rect(%v): %v, want %v", x.c, got, want)
		}
		for q := range 4 {
			if got, want := cell.Kid(x.c, q), cell.Kid(x.as, q); got != want {
				t.Errorf("Kid(%v, %d): %v, want %v", x.c, q, got, want)
			}
		}
		for _, p := range [][2]uint32{{0, 0}, {5, 9}, {4, 4}, {7, 7}, {1 << 31, 0}, {top, top}, {1<<31 + 7, 1<<31 - 1}} {
			if cell.Has(x.c, p[0], p[1]) != cell.Has(x.as, p[0], p[1]) {
				t.Errorf("Has(%v, %v) is not as of %v", x.c, p, x.as)
			}
			if cell.Quarter(x.c, p[0], p[1]) != cell.Quarter(x.as, p[0], p[1]) {
				t.Errorf("Quarter(%v, %v) is not as of %v", x.c, p, x.as)
			}
		}
	}
}

func TestP4_1Quarter(t *testing.T) {
	for _, x := range []struct {
		c    cell.Cell
		x, y uint32
		want int
	}{
		{cell.Root(), 1 << 31, 0, 1}, {cell.Root(), 1<<31 - 1, 1<<31 - 1, 0}, {cell.Root(), 0, 1 << 31, 2}, {cell.Root(), top, top, 3},
		{cell.Cell{Level: 1}, 1 << 30, 0, 1}, {cell.Cell{Level: 1}, top, 1 << 31, 1},
		{cell.Cell{Level: 31}, 1, 1, 3}, {cell.Cell{Level: 31}, 2, 1, 2},
		{cell.Cell{X: 3, Y: 3, Level: 32}, 3, 3, 0}, {cell.Cell{Level: 32}, top, top, 0},
	} {
		if got := cell.Quarter(x.c, x.x, x.y); got != x.want {
			t.Errorf("Quarter(%v, %d, %d): %d, want %d", x.c, x.x, x.y, got, x.want)
		}
	}
}

func TestP4_1Kid(t *testing.T) {
	for q, want := range []cell.Cell{{0, 0, 1}, {1 << 31, 0, 1}, {0, 1 << 31, 1}, {1 << 31, 1 << 31, 1}} {
		for _, same := range []int{q, q + 4, q - 4, q + 1<<40} {
			if got := cell.Kid(cell.Root(), same); got != want {
				t.Errorf("Kid(root, %d): %v, want %v", same, got, want)
			}
		}
	}
	least := cell.Cell{X: 9, Y: 8, Level: 32}
	for q := range 4 {
		if got := cell.Kid(least, q); got != least {
			t.Errorf("Kid at level 32: %v", got)
		}
	}
}

func TestP4_1At(t *testing.T) {
	for _, x := range []struct {
		x, y  uint32
		level int
		want  cell.Cell
	}{
		{5, 6, 0, cell.Cell{}}, {top, top, -1, cell.Cell{}}, {5, 6, 32, cell.Cell{X: 5, Y: 6, Level: 32}}, {5, 6, 99, cell.Cell{X: 5, Y: 6, Level: 32}},
		{5, 6, 31, cell.Cell{X: 4, Y: 6, Level: 31}}, {top, 1, 1, cell.Cell{X: 1 << 31, Level: 1}},
	} {
		if got := cell.At(x.x, x.y, x.level); got != x.want {
			t.Errorf("At(%d, %d, %d): %v, want %v", x.x, x.y, x.level, got, x.want)
		}
	}
}

func inside(r api.Rect, x, y uint32) bool {
	return r.X0 <= x && x <= r.X1 && r.Y0 <= y && y <= r.Y1
}

func TestP4_2Quarters(t *testing.T) {
	r := rand.New(rand.NewPCG(4, 2))
	for range 2000 {
		x, y := r.Uint32(), r.Uint32()
		level := r.IntN(33)
		c := cell.At(x, y, level)
		if cell.Check(c) != api.OK || !cell.Has(c, x, y) || !inside(cell.Rect(c), x, y) {
			t.Fatalf("At(%d, %d, %d): %v", x, y, level, c)
		}
		box := cell.Rect(c)
		if uint64(box.X1)-uint64(box.X0) != 1<<(32-level)-1 || uint64(box.Y1)-uint64(box.Y0) != 1<<(32-level)-1 {
			t.Fatalf("Rect(%v): %v", c, box)
		}
		px := box.X0 + uint32(r.Uint64()&(1<<(32-level)-1))
		py := box.Y0 + uint32(r.Uint64()&(1<<(32-level)-1))
		if level == 32 {
			continue
		}
		has := 0
		for q := range 4 {
			k := cell.Kid(c, q)
			in := cell.Has(k, px, py)
			if in {
				has++
			}
			if in != inside(cell.Rect(k), px, py) || in != (cell.Quarter(c, px, py) == q) || k.Level != level+1 {
				t.Fatalf("kid %d of %v: %v, place %d, %d", q, c, k, px, py)
			}
		}
		if has != 1 {
			t.Fatalf("%d quarters of %v have %d, %d", has, c, px, py)
		}
	}
}

func TestP4_2HasNot(t *testing.T) {
	c := cell.Cell{X: 8, Y: 16, Level: 29}
	for _, p := range [][2]uint32{{7, 16}, {16, 16}, {8, 15}, {8, 24}, {0, 0}, {top, top}} {
		if cell.Has(c, p[0], p[1]) {
			t.Errorf("Has(%v, %v)", c, p)
		}
	}
}

func TestP4_3NothingKept(t *testing.T) {
	c := cell.Cell{X: 5, Y: 9, Level: 4}
	cell.Kid(c, 3)
	cell.Rect(c)
	if c != (cell.Cell{X: 5, Y: 9, Level: 4}) || cell.Root() != (cell.Cell{}) {
		t.Error("what was handed in is changed")
	}
}
