package outline_test

import (
	"math"
	"slices"
	"strings"
	"testing"

	"croft/api"
	"croft/grove"
	"croft/outline"
	"croft/tree"
)

const top = math.MaxUint32

func at(id int, x, y uint32) api.Point {
	return api.Point{Id: id, X: x, Y: y, Data: "data"}
}

func TestP37_1Number(t *testing.T) {
	for n, want := range map[int]string{0: "0", 7: "7", -7: "-7", 1234567890: "1234567890", math.MaxInt64: "9223372036854775807", math.MinInt64: "-9223372036854775808"} {
		if got := outline.Number(n); got != want {
			t.Errorf("Number(%d): %q", n, got)
		}
	}
}

func TestP37_1Point(t *testing.T) {
	if got := outline.Point(at(7, 0, top)); got != "7 0 4294967295" {
		t.Errorf("Point: %q", got)
	}
	if got := outline.Point(api.Point{Id: -3, X: 5}); got != "-3 5 0" {
		t.Errorf("Point: %q", got)
	}
}

func lines(t *testing.T, l []api.Point, want ...string) {
	t.Helper()
	g, e := tree.Build(l)
	if e != api.OK {
		t.Fatalf("Build: %d", e)
	}
	if got := outline.Lines(g); !slices.Equal(got, want) {
		t.Errorf("Lines:\n%s\nwant:\n%s", strings.Join(got, "\n"), strings.Join(want, "\n"))
	}
}

func TestP37_1Lines(t *testing.T) {
	lines(t, nil, "leaf")
	lines(t, []api.Point{at(7, 3, 4), at(2, 5, 6)}, "leaf, 2 5 6, 7 3 4")
	five := []api.Point{at(1, top, top), at(2, 1<<30, 0), at(3, 0, 1<<31), at(4, 0, 0), at(5, 1, 1), at(6, 2, 2), at(7, 3, 3)}
	lines(t, five, "node 7", " node 5", "  leaf, 4 0 0, 5 1 1, 6 2 2, 7 3 3", "  leaf, 2 1073741824 0", " leaf, 3 0 2147483648", " leaf, 1 4294967295 4294967295")
	var nine []api.Point
	var want []string
	for i := range 9 {
		nine = append(nine, at(i+1, 0, 0))
	}
	for level := range 32 {
		want = append(want, strings.Repeat(" ", level)+"node 9")
	}
	deep := strings.Repeat(" ", 32)
	lines(t, nine, append(want, deep+"leaf, 1 0 0, 2 0 0, 3 0 0, 4 0 0", deep+"leaf, 5 0 0, 6 0 0, 7 0 0, 8 0 0", deep+"leaf, 9 0 0")...)
}

func TestP37_1NoTree(t *testing.T) {
	for _, g := range []*grove.Grove{nil, {}, grove.New()} {
		if got := outline.Lines(g); len(got) != 0 {
			t.Errorf("Lines without nodes: %v", got)
		}
	}
	loop := grove.New()
	loop.Put(1, api.Node{Kids: [4]int{1, 2, 3, 9}, Counts: [4]int{1, 1, 1, 1}})
	loop.Put(2, api.Node{Leaf: true, Next: 3})
	loop.Put(3, api.Node{Kids: [4]int{4, 0, 0, 1}, Counts: [4]int{1, 0, 0, 1}})
	for id := 4; id < 255; id++ {
		loop.Put(id, api.Node{Kids: [4]int{id + 1}, Counts: [4]int{1}})
	}
	outline.Lines(loop)
}

func TestP37_2Memory(t *testing.T) {
	g := tree.Empty()
	outline.Lines(g)[0] = "x"
	if outline.Lines(g)[0] != "leaf" {
		t.Error("answers share")
	}
}
