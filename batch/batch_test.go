package batch_test

import (
	"math"
	"math/rand/v2"
	"strings"
	"testing"

	"croft/api"
	"croft/batch"
)

func many(n, kind int) []api.Entry {
	var l []api.Entry
	for i := range n {
		l = append(l, api.Entry{Kind: kind, Id: 1 + i})
	}
	return l
}

// entries: kinds and Ids by turns.
func entries(l ...int) []api.Entry {
	var all []api.Entry
	for i := 0; i < len(l); i += 2 {
		all = append(all, api.Entry{Kind: l[i], Id: l[i+1]})
	}
	return all
}

func TestP10_1Check(t *testing.T) {
	for _, x := range []struct {
		s    batch.Summary
		want api.Errno
	}{
		{batch.Summary{}, api.OK}, {batch.Summary{Next: 31, Last: true, Entries: many(64, 2)}, api.OK}, {batch.Summary{Entries: entries(1, 255, 1, 255, 2, 1)}, api.OK},
		{batch.Summary{Next: -1}, api.ErrRange}, {batch.Summary{Next: 32}, api.ErrRange}, {batch.Summary{Next: math.MinInt, Entries: many(70, 9)}, api.ErrRange}, {batch.Summary{Next: math.MaxInt}, api.ErrRange},
		{batch.Summary{Entries: many(65, 1)}, api.ErrCount}, {batch.Summary{Entries: many(65, 9)}, api.ErrCount},
		{batch.Summary{Entries: entries(0, 1)}, api.ErrKind}, {batch.Summary{Entries: entries(1, 1, 3, 1)}, api.ErrKind}, {batch.Summary{Entries: entries(1, 0)}, api.ErrKind},
		{batch.Summary{Entries: entries(2, 256)}, api.ErrKind}, {batch.Summary{Entries: entries(-1, -1)}, api.ErrKind}, {batch.Summary{Entries: entries(1, math.MaxInt)}, api.ErrKind},
	} {
		if e := batch.Check(x.s); e != x.want {
			t.Errorf("Check(%v): %d, want %d", x.s, e, x.want)
		}
		b, e := batch.Put(x.s)
		if e != x.want || e != api.OK && len(b) != 0 {
			t.Errorf("Put(%v): %q, %d", x.s, b, e)
		}
	}
}

func TestP10_1Put(t *testing.T) {
	for _, x := range []struct {
		s    batch.Summary
		want string
	}{
		{batch.Summary{}, "\x00\x00\x00"}, {batch.Summary{Next: 31, Last: true}, "\x1f\x01\x00"},
		{batch.Summary{Next: 7, Entries: entries(1, 255, 2, 3)}, "\x07\x00\x02\x01\xff\x02\x03"},
	} {
		if b, e := batch.Put(x.s); e != api.OK || string(b) != x.want {
			t.Errorf("Put(%v): %q, %d", x.s, b, e)
		}
	}
}

func TestP10_1ReadOfNone(t *testing.T) {
	for _, s := range []string{"", "\x00", "\x00\x00", "\x00\x00\x00\x00", "\x20\x00\x00", "\x00\x02\x00", "\x00\xff\x00", "\x00\x00\x01", "\x00\x00\x01\x01", "\x00\x00\x01\x01\x01\x01",
		"\x00\x00\x01\x00\x01", "\x00\x00\x01\x03\x01", "\x00\x00\x01\x01\x00", "\x00\x00\x41" + strings.Repeat("\x01\x01", 65), "\x00\x00\xff"} {
		if got, e := batch.Read([]byte(s)); e != api.ErrSyntax || !batch.Same(got, batch.Summary{}) {
			t.Errorf("Read(%q): %v, %d", s, got, e)
		}
	}
	if _, e := batch.Read(nil); e != api.ErrSyntax {
		t.Errorf("Read of nil: %d", e)
	}
	if s, e := batch.Read([]byte("\x00\x00\x40" + strings.Repeat("\x02\x01", 64))); e != api.OK || len(s.Entries) != 64 {
		t.Errorf("Read of 64 entries: %d", e)
	}
}

func TestP10_1Written(t *testing.T) {
	if n := batch.Written(batch.Summary{Entries: entries(1, 4, 2, 4, 1, 4, 3, 1, 0, 1, -1, 1)}); n != 2 {
		t.Errorf("Written: %d", n)
	}
	if n := batch.Written(batch.Summary{}); n != 0 {
		t.Errorf("Written of nothing: %d", n)
	}
	if n := batch.Written(batch.Summary{Next: -4, Entries: many(100, 1)}); n != 100 {
		t.Errorf("Written of one that may not be: %d", n)
	}
}

func TestP10_1Same(t *testing.T) {
	a := batch.Summary{Next: 3, Last: true, Entries: entries(1, 2, 2, 3)}
	if !batch.Same(a, batch.Summary{Next: 3, Last: true, Entries: entries(1, 2, 2, 3)}) || !batch.Same(batch.Summary{}, batch.Summary{Entries: []api.Entry{}}) {
		t.Error("alike ones are not the same")
	}
	for _, b := range []batch.Summary{{Next: 4, Last: true, Entries: a.Entries}, {Next: 3, Entries: a.Entries}, {Next: 3, Last: true}, {Next: 3, Last: true, Entries: a.Entries[:1]}, {Next: 3, Last: true, Entries: entries(1, 2, 1, 3)}, {Next: 3, Last: true, Entries: entries(2, 3, 1, 2)}} {
		if batch.Same(a, b) || batch.Same(b, a) {
			t.Errorf("Same(%v, %v)", a, b)
		}
	}
}

func TestP10_2ComeBack(t *testing.T) {
	r := rand.New(rand.NewPCG(10, 2))
	for range 300 {
		s := batch.Summary{Next: r.IntN(32), Last: r.IntN(2) == 0}
		for range r.IntN(65) {
			s.Entries = append(s.Entries, api.Entry{Kind: 1 + r.IntN(2), Id: 1 + r.IntN(255)})
		}
		b, e := batch.Put(s)
		if e != api.OK {
			t.Fatalf("Put(%v): %d", s, e)
		}
		if got, e := batch.Read(b); e != api.OK || !batch.Same(got, s) {
			t.Fatalf("%v became %v, %d", s, got, e)
		}
	}
}

func TestP10_3Memory(t *testing.T) {
	s := batch.Summary{Entries: entries(1, 2)}
	b, _ := batch.Put(s)
	x, _ := batch.Read(b)
	y, _ := batch.Read(b)
	x.Entries[0].Id = 9
	if y.Entries[0].Id != 2 || s.Entries[0].Id != 2 {
		t.Error("answers share")
	}
	b[4] = 7
	if c, _ := batch.Put(s); c[4] != 2 {
		t.Error("two answers of Put share")
	}
}
