package point_test

import (
	"math"
	"math/rand/v2"
	"slices"
	"strings"
	"testing"

	"croft/api"
	"croft/little"
	"croft/point"
)

func octets(p api.Point) ([]byte, api.Errno) {
	w := little.New(400)
	point.Put(w, p)
	return w.Done()
}

func TestP7_1Check(t *testing.T) {
	long := strings.Repeat("x", 17)
	for _, x := range []struct {
		p    api.Point
		want api.Errno
	}{
		{api.Point{Id: 1}, api.OK}, {api.Point{Id: 1<<31 - 1, Data: long[:16]}, api.OK}, {api.Point{Id: 5, X: math.MaxUint32, Y: math.MaxUint32}, api.OK},
		{api.Point{}, api.ErrRange}, {api.Point{Id: -1}, api.ErrRange}, {api.Point{Id: 1 << 31}, api.ErrRange}, {api.Point{Id: math.MinInt}, api.ErrRange},
		{api.Point{Id: math.MaxInt, Data: long}, api.ErrRange}, {api.Point{Id: 1, Data: long}, api.ErrLong},
	} {
		if e := point.Check(x.p); e != x.want {
			t.Errorf("Check(%v): %d, want %d", x.p, e, x.want)
		}
	}
}

func TestP7_1Put(t *testing.T) {
	b, e := octets(api.Point{Id: 258, X: 3, Y: 1 << 24, Data: "ab"})
	if want := "\x02\x01\x00\x00\x03\x00\x00\x00\x00\x00\x00\x01\x02ab"; e != api.OK || string(b) != want {
		t.Errorf("Put: %q, %d", b, e)
	}
	w := little.New(12)
	point.Put(w, api.Point{Id: 1})
	if _, e := w.Done(); e != api.ErrFull {
		t.Errorf("Put without room: %d", e)
	}
	w = little.New(13)
	point.Put(w, api.Point{Id: 1})
	if b, e := w.Done(); e != api.OK || len(b) != 13 {
		t.Errorf("Put with just enough room: %d", e)
	}
	if _, e := octets(api.Point{Id: -1}); e != api.ErrRange {
		t.Errorf("Put of a number that does not fit: %d", e)
	}
	if _, e := octets(api.Point{Id: 1, Data: strings.Repeat("x", 256)}); e != api.ErrRange {
		t.Errorf("Put of Data whose length does not fit: %d", e)
	}
	point.Put(nil, api.Point{Id: 1})
	point.Put(&little.Out{}, api.Point{Id: 1})
}

func TestP7_1Get(t *testing.T) {
	good := "\x02\x01\x00\x00\x03\x00\x00\x00\x00\x00\x00\x01\x02ab"
	r := little.Open([]byte(good + good + "z"))
	for range 2 {
		if p, ok := point.Get(r); !ok || p != (api.Point{Id: 258, X: 3, Y: 1 << 24, Data: "ab"}) {
			t.Errorf("Get: %v, %v", p, ok)
		}
	}
	if r.Left() != 1 {
		t.Errorf("Get leaves %d", r.Left())
	}
	bad := []string{"", "z", good[:14], good[:12], "\x00\x00\x00\x00" + good[4:], "\x00\x00\x00\x80" + good[4:], good[:12] + "\x11" + strings.Repeat("x", 17), good[:12] + "\xff"}
	for _, s := range bad {
		if p, ok := point.Get(little.Open([]byte(s))); ok || p != (api.Point{}) {
			t.Errorf("Get of %q: %v, %v", s, p, ok)
		}
	}
	for _, r := range []*little.In{nil, {}} {
		if p, ok := point.Get(r); ok || p != (api.Point{}) {
			t.Error("Get of nobody's: something")
		}
	}
}

func TestP7_1Less(t *testing.T) {
	a, b := api.Point{Id: 1, X: 9, Data: "z"}, api.Point{Id: 2}
	if !point.Less(a, b) || point.Less(b, a) || point.Less(a, api.Point{Id: 1}) || point.Less(api.Point{Id: 1}, a) {
		t.Error("Less is not by Id")
	}
	if !point.Less(api.Point{Id: math.MinInt}, api.Point{Id: math.MaxInt}) {
		t.Error("Less of numbers of any size")
	}
}

func TestP7_1Sort(t *testing.T) {
	var l, want []api.Point
	for i := range 300 {
		l = append(l, api.Point{Id: i * 7 % 20, X: uint32(i)})
	}
	for id := range 20 {
		for _, p := range l {
			if p.Id == id {
				want = append(want, p)
			}
		}
	}
	if got := point.Sort(l); !slices.Equal(got, want) {
		t.Errorf("Sort: %v", got)
	}
	if len(point.Sort(nil)) != 0 {
		t.Error("Sort of nothing")
	}
}

func TestP7_1Find(t *testing.T) {
	l := []api.Point{{Id: 4}, {Id: 2, X: 1}, {Id: 2, X: 2}, {Id: -9}}
	for id, want := range map[int]int{4: 0, 2: 1, -9: 3, 3: -1, 0: -1, math.MaxInt: -1} {
		if got := point.Find(l, id); got != want {
			t.Errorf("Find(%d): %d", id, got)
		}
	}
	if point.Find(nil, 4) != -1 {
		t.Error("Find in nothing")
	}
}

func TestP7_1Size(t *testing.T) {
	for _, data := range []string{"", "a", "\x00\xff", strings.Repeat("x", 16)} {
		p := api.Point{Id: 3, Data: data}
		b, _ := octets(p)
		if n := point.Size(p); n != 13+len(data) || n != len(b) {
			t.Errorf("Size with %d octets of Data: %d", len(data), n)
		}
	}
}

func TestP7_2ComeBack(t *testing.T) {
	r := rand.New(rand.NewPCG(7, 2))
	for range 300 {
		p := api.Point{Id: 1 + r.IntN(1<<31-1), X: r.Uint32(), Y: r.Uint32(), Data: strings.Repeat("\x00\xfe", r.IntN(9))}
		b, e := octets(p)
		got, ok := point.Get(little.Open(b))
		if e != api.OK || !ok || got != p {
			t.Fatalf("%v became %v", p, got)
		}
	}
}

func TestP7_3Memory(t *testing.T) {
	l := []api.Point{{Id: 2}, {Id: 1}}
	point.Sort(l)[0].Id = 9
	point.Find(l, 1)
	if l[0].Id != 2 || l[1].Id != 1 {
		t.Errorf("what was handed in is changed: %v", l)
	}
	sorted := []api.Point{{Id: 1}, {Id: 2}}
	point.Sort(sorted)[0].Id = 9
	if sorted[0].Id != 1 {
		t.Error("an answer shares with what was handed in")
	}
}
