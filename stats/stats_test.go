package stats_test

import (
	"math"
	"math/rand/v2"
	"slices"
	"testing"

	"croft/api"
	"croft/cell"
	"croft/grove"
	"croft/stats"
	"croft/tree"
)

const top = math.MaxUint32

func at(id int, x, y uint32) api.Point {
	return api.Point{Id: id, X: x, Y: y}
}

func build(t *testing.T, l ...api.Point) *grove.Grove {
	t.Helper()
	g, e := tree.Build(l)
	if e != api.OK {
		t.Fatalf("Build: %d", e)
	}
	return g
}

func counts(t *testing.T, g *grove.Grove, levels []int, leaves, others int, fill [5]int) {
	t.Helper()
	if got := stats.Levels(g); !slices.Equal(got, levels) {
		t.Errorf("Levels: %v, want %v", got, levels)
	}
	if a, b := stats.Leaves(g); a != leaves || b != others {
		t.Errorf("Leaves: %d, %d, want %d, %d", a, b, leaves, others)
	}
	if got := stats.Fill(g); got != fill {
		t.Errorf("Fill: %v, want %v", got, fill)
	}
}

func TestP33_1Trees(t *testing.T) {
	counts(t, tree.Empty(), []int{1}, 1, 0, [5]int{1})
	counts(t, build(t, at(1, 1, 1), at(2, 1, 1), at(3, 1, 1)), []int{1}, 1, 0, [5]int{0, 0, 0, 1})
	counts(t, build(t, at(1, 1, 1), at(2, top, 1), at(3, 1, top), at(4, top, top), at(5, top, top)), []int{1, 4}, 4, 1, [5]int{0, 3, 1})
	var nine []api.Point
	for i := range 9 {
		nine = append(nine, at(i+1, 7, 7))
	}
	levels := slices.Repeat([]int{1}, 33)
	levels[32] = 3
	counts(t, build(t, nine...), levels, 3, 32, [5]int{0, 1, 0, 0, 2})
	levels[1] = 2
	counts(t, build(t, append(nine, at(99, top, top))...), levels, 4, 32, [5]int{0, 2, 0, 0, 2})
}

func TestP33_1Shapes(t *testing.T) {
	r := rand.New(rand.NewPCG(33, 1))
	for range 100 {
		var l []api.Point
		for i := range r.IntN(80) {
			p := at(i+1, r.Uint32(), r.Uint32())
			if r.IntN(3) == 0 {
				p.X, p.Y = 9, uint32(r.IntN(2))
			}
			l = append(l, p)
		}
		g := build(t, l...)
		leaves, others, fill := 0, 0, [5]int{}
		for _, n := range tree.Shape(g) {
			if n < 0 {
				others++
			} else {
				leaves++
				fill[n]++
			}
		}
		if a, b := stats.Leaves(g); a != leaves || b != others || stats.Fill(g) != fill {
			t.Fatalf("Leaves: %d, %d; Fill: %v", a, b, stats.Fill(g))
		}
		all := 0
		for _, n := range stats.Levels(g) {
			if all += n; n == 0 {
				t.Fatal("a level without nodes")
			}
		}
		if all != len(g.Ids()) {
			t.Fatalf("Levels: %d of %d nodes", all, len(g.Ids()))
		}
	}
}

func TestP33_1NoTree(t *testing.T) {
	for _, g := range []*grove.Grove{nil, {}, grove.New()} {
		counts(t, g, nil, 0, 0, [5]int{})
	}
	loop := grove.New()
	loop.Put(1, api.Node{Kids: [4]int{1, 2, 3, 9}, Counts: [4]int{1, 1, 1, 1}})
	loop.Put(2, api.Node{Leaf: true, Next: 3})
	loop.Put(3, api.Node{Kids: [4]int{4, 0, 0, 1}, Counts: [4]int{1, 0, 0, 1}})
	for id := 4; id < 200; id++ {
		loop.Put(id, api.Node{Kids: [4]int{id + 1}, Counts: [4]int{1}})
	}
	stats.Levels(loop)
	stats.Leaves(loop)
	stats.Fill(loop)
}

func TestP33_1Grid(t *testing.T) {
	r := rand.New(rand.NewPCG(33, 2))
	for level, as := range map[int]int{-1: 0, 0: 0, 1: 1, 2: 2, 3: 3, 4: 4, 5: 4, math.MinInt: 0, math.MaxInt: 4} {
		var l []api.Point
		for range 100 {
			l = append(l, at(r.IntN(5)-2, r.Uint32(), []uint32{r.Uint32(), 0, top}[r.IntN(3)]))
		}
		got := stats.Grid(l, level)
		side := 1 << as
		if len(got) != side*side {
			t.Fatalf("Grid of level %d: %d", level, len(got))
		}
		for i, n := range got {
			x, y := uint64(i%side)<<(32-as), uint64(i/side)<<(32-as)
			c := cell.At(uint32(x), uint32(y), as)
			want := 0
			for _, p := range l {
				if cell.Has(c, p.X, p.Y) {
					want++
				}
			}
			if n != want {
				t.Errorf("Grid of level %d, cell %v: %d, want %d", level, c, n, want)
			}
		}
	}
	if got := stats.Grid([]api.Point{at(1, 1<<31, 0), at(1, 1<<31, 0), at(2, 0, 1<<31)}, 1); !slices.Equal(got, []int{0, 2, 1, 0}) {
		t.Errorf("Grid: %v", got)
	}
	if got := stats.Grid(nil, 1); !slices.Equal(got, []int{0, 0, 0, 0}) {
		t.Errorf("Grid of nothing: %v", got)
	}
}

func TestP33_2Memory(t *testing.T) {
	g := build(t, at(1, 1, 1))
	l := []api.Point{at(2, 1, 1), at(1, 2, 2)}
	stats.Levels(g)[0] = 9
	stats.Grid(l, 1)[0] = 9
	if stats.Levels(g)[0] != 1 || stats.Grid(l, 1)[0] != 2 || l[0].Id != 2 {
		t.Error("answers share")
	}
}
