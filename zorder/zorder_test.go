package zorder_test

import (
	"math"
	"math/rand/v2"
	"slices"
	"testing"

	"croft/api"
	"croft/cell"
	"croft/zorder"
)

const top = math.MaxUint32

func bitwise(x, y uint32) uint64 {
	var z uint64
	for i := range 32 {
		z |= uint64(x>>i&1) << (2 * i)
		z |= uint64(y>>i&1) << (2*i + 1)
	}
	return z
}

func TestP5_1Join(t *testing.T) {
	for _, x := range []struct {
		x, y uint32
		want uint64
	}{{0, 0, 0}, {1, 0, 1}, {0, 1, 2}, {1, 1, 3}, {2, 0, 4}, {0, 2, 8}, {top, 0, 0x5555555555555555}, {0, top, 0xAAAAAAAAAAAAAAAA}, {top, top, math.MaxUint64}, {1 << 31, 0, 1 << 62}, {0, 1 << 31, 1 << 63}} {
		if got := zorder.Join(x.x, x.y); got != x.want {
			t.Errorf("Join(%d, %d): %x", x.x, x.y, got)
		}
	}
	r := rand.New(rand.NewPCG(5, 1))
	for range 500 {
		x, y := r.Uint32(), r.Uint32()
		z := zorder.Join(x, y)
		if z != bitwise(x, y) {
			t.Fatalf("Join(%x, %x): %x", x, y, z)
		}
		if a, b := zorder.Split(z); a != x || b != y {
			t.Fatalf("Split(%x): %x, %x", z, a, b)
		}
		z = r.Uint64()
		if zorder.Join(zorder.Split(z)) != z {
			t.Fatalf("Split(%x) is not turned back", z)
		}
	}
}

func TestP5_1Less(t *testing.T) {
	rising := []api.Point{
		{Id: 9}, {Id: -3, X: 1}, {Id: 1, X: 1, Data: ""}, {Id: 1, X: 1, Data: "a"}, {Id: 1, X: 1, Data: "b"}, {Id: 2, X: 1, Data: ""},
		{Id: 0, Y: 1}, {Id: 0, X: 2}, {Id: 0, X: top}, {Id: 0, Y: 1 << 31}, {Id: math.MinInt, X: top, Y: top}, {Id: math.MaxInt, X: top, Y: top},
	}
	for i, a := range rising {
		for k, b := range rising {
			if got := zorder.Less(a, b); got != (i < k) {
				t.Errorf("Less(%v, %v): %v", a, b, got)
			}
		}
	}
	l := slices.Clone(rising)
	l = append(l, rising[3], rising[0])
	r := rand.New(rand.NewPCG(5, 2))
	r.Shuffle(len(l), func(i, k int) { l[i], l[k] = l[k], l[i] })
	want := slices.Concat(rising[:1], rising[:4], rising[3:])
	if got := zorder.Sort(l); !slices.Equal(got, want) {
		t.Errorf("Sort: %v", got)
	}
}

func TestP5_1Nothing(t *testing.T) {
	if len(zorder.Sort(nil)) != 0 || len(zorder.Sort([]api.Point{})) != 0 {
		t.Error("Sort of nothing: something")
	}
}

func TestP5_1Level(t *testing.T) {
	r := rand.New(rand.NewPCG(5, 3))
	for range 500 {
		x, y := r.Uint32(), r.Uint32()
		same := r.IntN(33)
		px, py := x, y
		if same < 32 {
			px ^= 1 << (31 - same)
			py ^= uint32(r.Uint64() & (1<<(32-same) - 1))
			if r.IntN(2) == 0 {
				px, py = x^(px^x)>>1, y^1<<(31-same)
			}
		}
		got := zorder.Level(zorder.Join(x, y), zorder.Join(px, py))
		want := 0
		for level := range 33 {
			if cell.At(x, y, level) == cell.At(px, py, level) {
				want = level
			}
		}
		if got != want {
			t.Fatalf("Level of %x, %x and %x, %x: %d, want %d", x, y, px, py, got, want)
		}
	}
	if zorder.Level(7, 7) != 32 || zorder.Level(0, math.MaxUint64) != 0 || zorder.Level(0, 3) != 31 || zorder.Level(0, 1<<61) != 1 {
		t.Error("Level at its ends")
	}
}

func TestP5_2Memory(t *testing.T) {
	l := []api.Point{{Id: 2, X: 5}, {Id: 1, X: 3}}
	got := zorder.Sort(l)
	got[0].Id = 77
	if l[0].Id != 2 || l[1].Id != 1 {
		t.Errorf("what was handed in is changed: %v", l)
	}
	sorted := []api.Point{{Id: 1}, {Id: 2}}
	zorder.Sort(sorted)[0].Id = 5
	if sorted[0].Id != 1 {
		t.Error("an answer shares with what was handed in")
	}
}
