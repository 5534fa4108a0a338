package trace_test

import (
	"math"
	"math/rand/v2"
	"slices"
	"strings"
	"testing"

	"croft/api"
	"croft/code"
	"croft/trace"
)

func same(a, b api.Step) bool {
	return a.Kind == b.Kind && a.A == b.A && a.X == b.X && a.Y == b.Y && a.X1 == b.X1 && a.Y1 == b.Y1 && a.Data == b.Data && slices.Equal(a.Fate, b.Fate)
}

// full has something in each field.
func full(kind int) api.Step {
	return api.Step{Kind: kind, A: 1, X: 2, Y: 4294967295, X1: 4, Y1: 5, Data: "a\x00\xff", Fate: []int{7, 0, 65535}}
}

func TestP45_1Line(t *testing.T) {
	for kind, want := range map[int]string{
		1: "insert 1 2 4294967295 3 97 0 255", 2: "delete 1", 3: "move 1 2 4294967295", 4: "get 1", 5: "range 2 4294967295 4 5", 6: "count 2 4294967295 4 5",
		7: "near 2 4294967295 1", 8: "sync", 9: "checkpoint", 10: "clean", 11: "cut 1 7 0 65535", 12: "power 1 7 0 65535", 13: "fail 1",
	} {
		if got, e := trace.Line(full(kind)); e != api.OK || got != want {
			t.Errorf("Line of kind %d: %q, %d; want %q", kind, got, e, want)
		}
	}
	for want, x := range map[string]api.Step{"insert 0 0 0 0": {Kind: 1}, "cut 0": {Kind: 11}, "power 4294967295": {Kind: 12, A: math.MaxUint32}, "near 1 2 3": {Kind: 7, X: 1, Y: 2, A: 3}} {
		if got, e := trace.Line(x); e != api.OK || got != want {
			t.Errorf("Line: %q, %d; want %q", got, e, want)
		}
	}
}

func TestP45_1LineErrors(t *testing.T) {
	for i, x := range []api.Step{{}, {Kind: 14}, {Kind: -1}, {Kind: math.MaxInt}, {Kind: 8, A: -1}, {Kind: 8, A: 1 << 32}, {Kind: 8, Fate: []int{-1}}, {Kind: 11, Fate: []int{65536}}, {Kind: 2, Data: strings.Repeat("x", 256)}, {Kind: 11, Fate: make([]int, 256)}} {
		want := code.Check(x)
		if got, e := trace.Line(x); e != want || e == api.OK || got != "" {
			t.Errorf("Line of %d: %q, %d", i, got, e)
		}
		if got, e := trace.All([]api.Step{{Kind: 8}, x, {Kind: 99}}); e != want || got != "" {
			t.Errorf("All of %d: %q, %d", i, got, e)
		}
	}
}

func TestP45_1Parse(t *testing.T) {
	for s, want := range map[string]api.Step{
		"insert 1 2 3 3 97 0 255": {Kind: 1, A: 1, X: 2, Y: 3, Data: "a\x00\xff"}, "insert 0 0 0 0": {Kind: 1}, "delete 4294967295": {Kind: 2, A: math.MaxUint32}, "move 1 2 3": {Kind: 3, A: 1, X: 2, Y: 3}, "get 0": {Kind: 4},
		"range 1 2 3 4294967295": {Kind: 5, X: 1, Y: 2, X1: 3, Y1: math.MaxUint32}, "count 1 2 3 4": {Kind: 6, X: 1, Y: 2, X1: 3, Y1: 4}, "near 1 2 3": {Kind: 7, X: 1, Y: 2, A: 3}, "sync": {Kind: 8}, "checkpoint": {Kind: 9}, "clean": {Kind: 10},
		"cut 5": {Kind: 11, A: 5}, "cut 5 0 65535": {Kind: 11, A: 5, Fate: []int{0, 65535}}, "power 0 1": {Kind: 12, Fate: []int{1}}, "fail 9": {Kind: 13, A: 9},
	} {
		if got, e := trace.Parse(s); e != api.OK || !same(got, want) {
			t.Errorf("Parse(%q): %v, %d", s, got, e)
		}
	}
}

func TestP45_1ParseOfNone(t *testing.T) {
	for _, s := range []string{
		"", " ", "sync ", " sync", "sync\n", "\nsync", "Sync", "syncs", "syn", "sync 0", "checkpoint 1", "clean 0", "unknown", "unknown 1", "0", "8",
		"get", "get ", "get  1", "get 1 ", "get 1 2", "get 01", "get +1", "get -1", "get -0", "get 1.0", "get x", "get 0x1", "get 1_0", "get 4294967296", "get 99999999999999999999", "get \t1", "get ١",
		"delete", "fail", "fail 1 1", "move 1 2", "move 1 2 3 4", "move 1 4294967296 3", "move 1 -1 3", "range 1 2 3", "range 1 2 3 4 5", "range 1 2 3 4294967296", "count", "near 1 2", "near 1 2 3 4", "near 1 2 4294967296",
		"insert", "insert 1 2 3", "insert 1 2 3 1", "insert 1 2 3 0 5", "insert 1 2 3 2 5", "insert 1 2 3 1 256", "insert 1 2 3 1 -1", "insert 1 2 3 -1", "insert 1 2 3 01 5",
		"insert 1 2 3 256" + strings.Repeat(" 1", 256), "cut", "power", "cut 1 65536", "cut 1 -1", "cut 1 1 ", "power 1" + strings.Repeat(" 1", 256), "get\x001", "get 1\x00", "get 1\r",
	} {
		if got, e := trace.Parse(s); e != api.ErrSyntax || !same(got, api.Step{}) {
			t.Errorf("Parse(%q): %v, %d", s, got, e)
		}
		if got, e := trace.Read("sync\n" + s + "\n"); e != api.ErrSyntax && !strings.Contains(s, "\n") || len(got) != 0 && e != api.OK {
			t.Errorf("Read of %q: %v, %d", s, got, e)
		}
	}
	for _, s := range []string{"insert 1 2 3 255" + strings.Repeat(" 1", 255), "power 1" + strings.Repeat(" 1", 255)} {
		if _, e := trace.Parse(s); e != api.OK {
			t.Errorf("Parse at the limit: %d", e)
		}
	}
}

func TestP45_1All(t *testing.T) {
	if s, e := trace.All(nil); e != api.OK || s != "" {
		t.Errorf("All of nothing: %q, %d", s, e)
	}
	if s, e := trace.All([]api.Step{{Kind: 8}, {Kind: 4, A: 7}}); e != api.OK || s != "sync\nget 7\n" {
		t.Errorf("All: %q, %d", s, e)
	}
	if l, e := trace.Read(""); e != api.OK || len(l) != 0 {
		t.Errorf("Read of nothing: %v, %d", l, e)
	}
	for _, s := range []string{"sync", "\n", "sync\n\n", "sync\nget 7", "sync\r\n", "\nsync\n", "sync\n ", "sync get 7\n", strings.Repeat("sync\n", 20000) + "x"} {
		if l, e := trace.Read(s); e != api.ErrSyntax || len(l) != 0 {
			t.Errorf("Read(%.20q): %v, %d", s, l, e)
		}
	}
	// Fourteen octets, again and again.
	long := strings.Repeat("get 1234\nsync\n  "[:14], 4681)
	if n := len(long); n != 65534 {
		t.Fatalf("%d octets", n)
	}
	if l, e := trace.Read(long); e != api.OK || len(l) != 2*4681 {
		t.Errorf("Read of %d octets: %d", len(long), e)
	}
	exact := long[:65534-14] + "get 123456\nsync\n"
	if l, e := trace.Read(exact); e != api.OK || len(exact) != 65536 || len(l) != 2*4681 {
		t.Errorf("Read of %d octets: %d", len(exact), e)
	}
	if l, e := trace.Read(long + "sync\n"); e != api.ErrLong || len(l) != 0 {
		t.Errorf("Read of too many octets: %d", e)
	}
}

func TestP45_2ComeBack(t *testing.T) {
	r := rand.New(rand.NewPCG(45, 2))
	for range 200 {
		var l, want []api.Step
		for range r.IntN(30) {
			x := api.Step{Kind: 1 + r.IntN(13), A: int(r.Uint32()), X: r.Uint32(), Y: r.Uint32(), X1: r.Uint32(), Y1: r.Uint32(), Data: strings.Repeat("\x00\xfe", r.IntN(5))}
			for range r.IntN(5) {
				x.Fate = append(x.Fate, r.IntN(65536))
			}
			l = append(l, x)
			y := api.Step{Kind: x.Kind}
			switch x.Kind {
			case 1:
				y.A, y.X, y.Y, y.Data = x.A, x.X, x.Y, x.Data
			case 2, 4, 13:
				y.A = x.A
			case 3, 7:
				y.A, y.X, y.Y = x.A, x.X, x.Y
			case 5, 6:
				y.X, y.Y, y.X1, y.Y1 = x.X, x.Y, x.X1, x.Y1
			case 11, 12:
				y.A, y.Fate = x.A, x.Fate
			}
			want = append(want, y)
		}
		s, e := trace.All(l)
		if e != api.OK {
			t.Fatalf("All: %d", e)
		}
		got, e := trace.Read(s)
		if e != api.OK || !slices.EqualFunc(got, want, same) {
			t.Fatalf("%v became %v, %d", want, got, e)
		}
	}
}

func TestP45_3Memory(t *testing.T) {
	x := api.Step{Kind: 11, A: 1, Fate: []int{5, 6}}
	a, _ := trace.Parse("cut 1 5 6")
	b, _ := trace.Parse("cut 1 5 6")
	a.Fate[0] = 9
	s, _ := trace.Line(x)
	if b.Fate[0] != 5 || x.Fate[0] != 5 || s != "cut 1 5 6" {
		t.Error("answers share")
	}
	l, _ := trace.Read("cut 1 5\ncut 2 6\n")
	_ = append(l[0].Fate, 77)
	if l[1].Fate[0] != 6 {
		t.Error("two lists of one answer share")
	}
}
