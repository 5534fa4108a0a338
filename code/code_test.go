package code_test

import (
	"math"
	"math/rand/v2"
	"slices"
	"strings"
	"testing"

	"croft/api"
	"croft/code"
)

func same(a, b api.Step) bool {
	return a.Kind == b.Kind && a.A == b.A && a.X == b.X && a.Y == b.Y && a.X1 == b.X1 && a.Y1 == b.Y1 && a.Data == b.Data && slices.Equal(a.Fate, b.Fate)
}

func many(n int) []api.Step {
	var l []api.Step
	for range n {
		l = append(l, api.Step{Kind: 8})
	}
	return l
}

func TestP30_1Check(t *testing.T) {
	for i, x := range []struct {
		x    api.Step
		want api.Errno
	}{
		{api.Step{Kind: 1}, api.OK}, {api.Step{Kind: 13, A: 1<<32 - 1, Data: strings.Repeat("x", 255), Fate: make([]int, 255)}, api.OK}, {api.Step{Kind: 11, Fate: []int{0, 65535}}, api.OK},
		{api.Step{}, api.ErrKind}, {api.Step{Kind: 14}, api.ErrKind}, {api.Step{Kind: -1, A: -1}, api.ErrKind}, {api.Step{Kind: math.MaxInt}, api.ErrKind}, {api.Step{Kind: math.MinInt}, api.ErrKind},
		{api.Step{Kind: 1, A: -1}, api.ErrRange}, {api.Step{Kind: 1, A: 1 << 32}, api.ErrRange}, {api.Step{Kind: 8, A: math.MinInt, Data: strings.Repeat("x", 256)}, api.ErrRange},
		{api.Step{Kind: 11, Fate: []int{1, -1}}, api.ErrRange}, {api.Step{Kind: 11, Fate: []int{65536}, Data: strings.Repeat("x", 256)}, api.ErrRange}, {api.Step{Kind: 1, Fate: append(make([]int, 300), math.MaxInt)}, api.ErrRange},
		{api.Step{Kind: 1, Data: strings.Repeat("x", 256)}, api.ErrLong}, {api.Step{Kind: 11, Fate: make([]int, 256)}, api.ErrLong},
	} {
		if e := code.Check(x.x); e != x.want {
			t.Errorf("Check of %d: %d, want %d", i, e, x.want)
		}
		if b, e := code.Put([]api.Step{{Kind: 8}, x.x, {}}); x.want != api.OK && (e != x.want || len(b) != 0) {
			t.Errorf("Put of %d: %d, want %d", i, e, x.want)
		}
	}
}

func TestP30_1Put(t *testing.T) {
	if b, e := code.Put([]api.Step{{Kind: 8}}); e != api.OK || len(b) != 23 || b[0] != 8 {
		t.Errorf("a sync: %q, %d", b, e)
	}
	b, e := code.Put([]api.Step{{Kind: 11, A: 258, X: 1, Y: 2, X1: 3, Y1: 1 << 31, Data: "ab", Fate: []int{259, 0}}, {Kind: 9}})
	want := "\x0b\x02\x01\x00\x00\x01\x00\x00\x00\x02\x00\x00\x00\x03\x00\x00\x00\x00\x00\x00\x80\x02ab\x02\x03\x01\x00\x00" + "\x09" + strings.Repeat("\x00", 22)
	if e != api.OK || string(b) != want {
		t.Errorf("Put: %q, %d", b, e)
	}
	if b, e := code.Put(nil); e != api.OK || len(b) != 0 {
		t.Errorf("Put of nothing: %q, %d", b, e)
	}
}

func TestP30_1Limits(t *testing.T) {
	b, e := code.Put(many(256))
	if e != api.OK || len(b) != 256*23 {
		t.Fatalf("Put of 256: %d", e)
	}
	if l, e := code.Read(b); e != api.OK || len(l) != 256 {
		t.Errorf("Read of 256: %d", e)
	}
	if b, e := code.Put(append(many(256), api.Step{})); e != api.ErrCount || len(b) != 0 {
		t.Errorf("Put of 257: %d", e)
	}
	if l, e := code.Read(append(b, b[:23]...)); e != api.ErrCount || len(l) != 0 {
		t.Errorf("Read of 257: %d", e)
	}
	if l, e := code.Read(append(b, b[:25]...)); e != api.ErrSyntax || len(l) != 0 {
		t.Errorf("Read of 257 and what is none: %d", e)
	}
	// 23 octets each, and 233 more: 256 in all.
	full := slices.Repeat([]api.Step{{Kind: 1, Data: strings.Repeat("x", 233)}}, 256)
	if b, e := code.Put(full); e != api.OK || len(b) != 1<<16 {
		t.Errorf("Put of 2^16 octets: %d", e)
	}
	full[7].Data += "x"
	if b, e := code.Put(full); e != api.ErrFull || len(b) != 0 {
		t.Errorf("Put of one octet more: %d", e)
	}
	full[255].Kind = 0
	if _, e := code.Put(full); e != api.ErrKind {
		t.Errorf("Put of too much, and a wrong kind: %d", e)
	}
}

func TestP30_1ReadOfNone(t *testing.T) {
	sync := "\x08" + strings.Repeat("\x00", 22)
	for _, s := range []string{"\x08", sync[:22], sync + "\x08", "\x00" + sync[1:], "\x0e" + sync[1:], "\xff" + sync[1:], sync[:21] + "\x01\x00", sync[:21] + "\x00\x01", sync[:21] + "\x00\x01\x00", sync[:21] + "\xff" + sync, sync + sync[:5]} {
		if l, e := code.Read([]byte(s)); e != api.ErrSyntax || len(l) != 0 {
			t.Errorf("Read(%q): %v, %d", s, l, e)
		}
	}
	for _, b := range [][]byte{nil, {}} {
		if l, e := code.Read(b); e != api.OK || len(l) != 0 {
			t.Errorf("Read of nothing: %v, %d", l, e)
		}
	}
}

func TestP30_2ComeBack(t *testing.T) {
	r := rand.New(rand.NewPCG(30, 2))
	for range 200 {
		var l []api.Step
		for range r.IntN(40) {
			x := api.Step{Kind: 1 + r.IntN(13), A: int(r.Uint32()), X: r.Uint32(), Y: r.Uint32(), X1: r.Uint32(), Y1: r.Uint32(), Data: strings.Repeat("\x00\xff", r.IntN(9))}
			for range r.IntN(9) {
				x.Fate = append(x.Fate, r.IntN(65536))
			}
			l = append(l, x)
		}
		b, e := code.Put(l)
		if e != api.OK {
			t.Fatalf("Put: %d", e)
		}
		got, e := code.Read(b)
		if e != api.OK || !slices.EqualFunc(got, l, same) {
			t.Fatalf("%v became %v, %d", l, got, e)
		}
	}
}

func TestP30_3Memory(t *testing.T) {
	l := []api.Step{{Kind: 11, Fate: []int{1, 2}}, {Kind: 11, Fate: []int{3}}}
	b, _ := code.Put(l)
	x, _ := code.Read(b)
	y, _ := code.Read(b)
	x[0].Fate[0] = 9
	_ = append(x[0].Fate, 77)
	clear(b)
	if y[0].Fate[0] != 1 || x[1].Fate[0] != 3 || l[0].Fate[0] != 1 {
		t.Error("answers share")
	}
	if c, _ := code.Put(l); c[0] != 11 {
		t.Error("two answers of Put share")
	}
}
