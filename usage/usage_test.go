package usage_test

import (
	"math"
	"math/rand/v2"
	"slices"
	"testing"

	"croft/api"
	"croft/usage"
)

var g = api.Geometry{Segments: 7, Size: 5}

func some() [api.Ids]int {
	var m [api.Ids]int
	m[0] = 9
	m[1], m[2], m[255] = 9, 13, 10
	m[3], m[4] = 14, 14
	m[5], m[6], m[7] = 8, 44, -9
	m[8], m[9] = math.MaxInt, math.MinInt
	m[10] = 43
	return m
}

func TestP16_1Live(t *testing.T) {
	if got := usage.Live(g, some()); got != [api.MaxSegs]int{3, 2, 0, 0, 0, 0, 1} {
		t.Errorf("Live: %v", got)
	}
	if got := usage.Live(g, [api.Ids]int{}); got != [api.MaxSegs]int{} {
		t.Errorf("Live of an empty map: %v", got)
	}
}

func TestP16_1Free(t *testing.T) {
	for _, x := range []struct {
		p    api.Place
		want []int
	}{
		{api.Place{Seg: 0, Next: 1}, []int{2, 3, 4, 5}}, {api.Place{Seg: 3, Off: 2, Next: 5}, []int{2, 4}}, {api.Place{Seg: 5, Next: 3}, []int{2, 4}},
		{api.Place{Seg: -1, Next: 99}, []int{2, 3, 4, 5}}, {api.Place{Seg: 2, Next: 2}, []int{3, 4, 5}},
	} {
		if got := usage.Free(g, some(), x.p); !slices.Equal(got, x.want) {
			t.Errorf("Free(%v): %v", x.p, got)
		}
	}
	if got := usage.Free(g, [api.Ids]int{9}, api.Place{Seg: 0, Next: 1}); !slices.Equal(got, []int{2, 3, 4, 5, 6}) {
		t.Errorf("Free of an empty map: %v", got)
	}
}

func TestP16_1Needed(t *testing.T) {
	for seg, want := range map[int][]int{0: {1, 2, 255}, 1: {3, 4}, 2: nil, 6: {10}, 7: nil, -1: nil, math.MaxInt: nil, math.MinInt: nil} {
		if got := usage.Needed(g, some(), seg); !slices.Equal(got, want) {
			t.Errorf("Needed(%d): %v", seg, got)
		}
	}
}

func TestP16_1Full(t *testing.T) {
	if n := usage.Full(g, some()); n != 6 {
		t.Errorf("Full: %d", n)
	}
	if n := usage.Full(g, [api.Ids]int{9}); n != 0 {
		t.Errorf("Full of an empty map: %d", n)
	}
}

func TestP16_1NoGeometry(t *testing.T) {
	for _, g := range []api.Geometry{{}, {Segments: 5, Size: 5}, {Segments: 33, Size: 5}, {Segments: 7, Size: 3}, {Segments: 7, Size: 33}, {Segments: math.MaxInt, Size: math.MaxInt}, {Segments: -7, Size: -5}} {
		if usage.Live(g, some()) != [api.MaxSegs]int{} || len(usage.Free(g, some(), api.Place{})) != 0 || len(usage.Needed(g, some(), 0)) != 0 || usage.Full(g, some()) != 0 {
			t.Errorf("of %v: something", g)
		}
	}
}

func TestP16_1Together(t *testing.T) {
	r := rand.New(rand.NewPCG(16, 1))
	for range 100 {
		g := api.Geometry{Segments: 6 + r.IntN(27), Size: 4 + r.IntN(29)}
		var m [api.Ids]int
		for range r.IntN(100) {
			m[1+r.IntN(255)] = r.IntN(9 + g.Segments*g.Size + 5)
		}
		live, all := usage.Live(g, m), 0
		for seg := range 32 {
			var want []int
			for id := 1; id < 256; id++ {
				if m[id] >= 9 && seg < g.Segments && (m[id]-9)/g.Size == seg {
					want = append(want, id)
				}
			}
			if got := usage.Needed(g, m, seg); !slices.Equal(got, want) || live[seg] != len(want) {
				t.Fatalf("segment %d: %v, %d, want %v", seg, got, live[seg], want)
			}
			all += live[seg]
			free := seg < g.Segments && live[seg] == 0 && seg != 1 && seg != 4
			if slices.Contains(usage.Free(g, m, api.Place{Seg: 1, Next: 4}), seg) != free {
				t.Fatalf("segment %d: free?", seg)
			}
		}
		if usage.Full(g, m) != all {
			t.Fatalf("Full: %d, want %d", usage.Full(g, m), all)
		}
	}
}

func TestP16_2Memory(t *testing.T) {
	m := some()
	usage.Free(g, m, api.Place{})[0] = 9
	usage.Needed(g, m, 0)[0] = 9
	if m != some() || usage.Needed(g, m, 0)[0] != 1 {
		t.Error("an answer shares")
	}
}
