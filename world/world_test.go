package world_test

import (
	"hash/crc32"
	"math"
	"math/rand/v2"
	"slices"
	"strings"
	"testing"

	"croft/api"
	"croft/layout"
	"croft/model"
	"croft/world"
)

var g = api.Geometry{Segments: 8, Size: 8}

const top = math.MaxUint32

func fresh(t *testing.T) *world.World {
	t.Helper()
	w, e := world.New(g)
	if e != api.OK {
		t.Fatalf("New: %d", e)
	}
	return w
}

func does(t *testing.T, w *world.World, x api.Step, want api.Errno) api.Reply {
	t.Helper()
	r := w.Do(x)
	if r.Code != want {
		t.Fatalf("step %v: %d, want %d", x, r.Code, want)
	}
	return r
}

func at(id int, x, y uint32) api.Point {
	return api.Point{Id: id, X: x, Y: y}
}

func add(id int, x, y uint32) api.Step {
	return api.Step{Kind: 1, A: id, X: x, Y: y}
}

func may(t *testing.T, w *world.World, want ...[]api.Point) {
	t.Helper()
	if got := w.May(); !slices.EqualFunc(got, want, slices.Equal[[]api.Point]) {
		t.Fatalf("May: %v, want %v", got, want)
	}
}

func TestP31_1New(t *testing.T) {
	for _, bad := range []api.Geometry{{}, {Segments: 5, Size: 8}, {Segments: 8, Size: 33}, {Segments: math.MaxInt, Size: math.MinInt}} {
		if w, e := world.New(bad); e != api.ErrRange || w != nil {
			t.Errorf("New(%v): %d", bad, e)
		}
	}
	w := fresh(t)
	if w.Store() == nil || w.Disk().Count() != layout.Sectors(g) || len(w.Points()) != 0 || w.Lucky() {
		t.Error("a new world: something is there")
	}
	may(t, w, nil)
}

func TestP31_1Steps(t *testing.T) {
	w := fresh(t)
	does(t, w, api.Step{Kind: 1, A: 7, X: 3, Y: 4, X1: 9, Data: "ab"}, api.OK)
	does(t, w, add(7, 3, 4), api.ErrTwice)
	does(t, w, add(0, 3, 4), api.ErrRange)
	does(t, w, add(math.MinInt, 3, 4), api.ErrRange)
	does(t, w, api.Step{Kind: 1, A: 8, Data: strings.Repeat("x", 17)}, api.ErrLong)
	does(t, w, add(9, top, top), api.OK)
	does(t, w, api.Step{Kind: 3, A: 9, X: 5, Y: 5}, api.OK)
	does(t, w, api.Step{Kind: 3, A: 10}, api.ErrNone)
	does(t, w, api.Step{Kind: 2, A: -1}, api.ErrNone)
	seven := api.Point{Id: 7, X: 3, Y: 4, Data: "ab"}
	is := func(r api.Reply, count int, l ...api.Point) {
		t.Helper()
		if r.Count != count || !slices.Equal(r.Points, l) {
			t.Errorf("a reply: %v", r)
		}
	}
	is(does(t, w, api.Step{Kind: 4, A: 7}, api.OK), 0, seven)
	is(does(t, w, api.Step{Kind: 4, A: 8}, api.ErrNone), 0)
	is(does(t, w, api.Step{Kind: 5, X: 3, Y: 4, X1: 5, Y1: 5}, api.OK), 0, seven, at(9, 5, 5))
	is(does(t, w, api.Step{Kind: 5, X: 3, Y: 4, X1: 5, Y1: 4}, api.OK), 0, seven)
	is(does(t, w, api.Step{Kind: 6, X: 3, Y: 4, X1: 5, Y1: 5}, api.OK), 2)
	is(does(t, w, api.Step{Kind: 6, X: 4, Y: 4, X1: 5, Y1: 5}, api.OK), 1)
	is(does(t, w, api.Step{Kind: 7, X: 5, Y: 5, A: 1}, api.OK), 0, at(9, 5, 5))
	is(does(t, w, api.Step{Kind: 7, X: 5, Y: 5, A: 64}, api.OK), 0, at(9, 5, 5), seven)
	is(does(t, w, api.Step{Kind: 8}, api.OK), 0)
	is(does(t, w, api.Step{Kind: 9}, api.OK), 0)
	is(does(t, w, api.Step{Kind: 10}, api.OK), 0)
	is(does(t, w, api.Step{Kind: 2, A: 9}, api.OK), 0)
	for _, kind := range []int{0, -1, 14, math.MinInt, math.MaxInt} {
		is(does(t, w, api.Step{Kind: kind, A: 7}, api.ErrKind), 0)
	}
	if got := w.Points(); !slices.Equal(got, []api.Point{seven}) || !slices.Equal(w.Store().Points(), got) {
		t.Errorf("Points: %v", got)
	}
}

func TestP31_1Clean(t *testing.T) {
	w := fresh(t)
	moved := 0
	for i := range 30 {
		does(t, w, add(i+1, uint32(i)*1234567890, uint32(i)*987654321), api.OK)
		does(t, w, api.Step{Kind: 8}, api.OK)
		before := w.Store().Map()
		r := does(t, w, api.Step{Kind: 10}, api.OK)
		other := 0
		for id, sector := range w.Store().Map() {
			if sector != before[id] {
				other++
			}
		}
		if r.Count != other {
			t.Fatalf("Clean: %d, want %d", r.Count, other)
		}
		moved += other
	}
	if moved == 0 {
		t.Error("no node ever went")
	}
}

func TestP31_1WithoutStore(t *testing.T) {
	w := fresh(t)
	does(t, w, add(7, 3, 4), api.OK)
	does(t, w, api.Step{Kind: 12, A: 1}, api.ErrIO)
	if w.Store() != nil || len(w.Points()) != 0 {
		t.Error("a store behind a Mount that failed")
	}
	for kind := 1; kind <= 10; kind++ {
		r := does(t, w, api.Step{Kind: kind, A: 7}, api.ErrState)
		if r.Count != 0 || len(r.Points) != 0 {
			t.Errorf("kind %d without a store: %v", kind, r)
		}
	}
	does(t, w, api.Step{Kind: 14}, api.ErrKind)
	does(t, w, api.Step{Kind: 13, A: 99}, api.OK)
	does(t, w, api.Step{Kind: 11, A: 99}, api.OK)
	does(t, w, api.Step{Kind: 12}, api.OK)
	if w.Store() == nil {
		t.Error("no store behind a Mount that was OK")
	}
}

func TestP31_1CutAndFail(t *testing.T) {
	w := fresh(t)
	does(t, w, add(7, 3, 4), api.OK)
	does(t, w, api.Step{Kind: 11}, api.OK)
	does(t, w, api.Step{Kind: 4, A: 7}, api.OK)
	does(t, w, api.Step{Kind: 8}, api.ErrIO)
	does(t, w, api.Step{Kind: 8}, api.ErrRead)
	does(t, w, add(8, 3, 4), api.ErrRead)
	does(t, w, api.Step{Kind: 4, A: 7}, api.OK)
	does(t, w, api.Step{Kind: 12}, api.OK)
	does(t, w, api.Step{Kind: 4, A: 7}, api.ErrNone)
	does(t, w, api.Step{Kind: 13, A: 2}, api.OK)
	does(t, w, api.Step{Kind: 9}, api.ErrIO)
	does(t, w, api.Step{Kind: 12}, api.OK)
	does(t, w, api.Step{Kind: 9}, api.OK)
	if e := w.Disk().Flush(); e != api.OK {
		t.Errorf("the disk: %d", e)
	}
}

func TestP31_1Fates(t *testing.T) {
	// All that a sync writes waits when the power goes: lost, it is not there; kept, it is.
	for _, x := range []struct {
		fate int
		want []api.Point
	}{{0, nil}, {1, []api.Point{at(7, 3, 4)}}} {
		w := fresh(t)
		does(t, w, add(7, 3, 4), api.OK)
		fates := []int{x.fate, x.fate, x.fate}
		does(t, w, api.Step{Kind: 11, A: 2, Fate: fates}, api.OK)
		does(t, w, api.Step{Kind: 8}, api.ErrIO)
		may(t, w, nil, []api.Point{at(7, 3, 4)})
		does(t, w, api.Step{Kind: 12}, api.OK)
		if got := w.Points(); !slices.Equal(got, x.want) {
			t.Errorf("fate %d: %v", x.fate, got)
		}
		may(t, w, x.want)
	}
}

func TestP31_1May(t *testing.T) {
	w := fresh(t)
	does(t, w, add(7, 3, 4), api.OK)
	may(t, w, nil)
	does(t, w, api.Step{Kind: 8}, api.OK)
	one := []api.Point{at(7, 3, 4)}
	may(t, w, one)
	does(t, w, add(3, 9, 9), api.OK)
	does(t, w, api.Step{Kind: 9}, api.OK)
	does(t, w, api.Step{Kind: 10}, api.OK)
	may(t, w, one)
	does(t, w, api.Step{Kind: 13}, api.OK)
	does(t, w, api.Step{Kind: 9}, api.ErrIO)
	does(t, w, api.Step{Kind: 8}, api.ErrRead)
	may(t, w, one)
	does(t, w, api.Step{Kind: 12, A: 1}, api.ErrIO)
	may(t, w, one)
	does(t, w, api.Step{Kind: 12}, api.OK)
	may(t, w, one)
	does(t, w, add(3, 9, 9), api.OK)
	does(t, w, api.Step{Kind: 13}, api.OK)
	does(t, w, api.Step{Kind: 8}, api.ErrIO)
	may(t, w, one, []api.Point{at(3, 9, 9), at(7, 3, 4)})
}

func TestP31_1Lucky(t *testing.T) {
	w := fresh(t)
	does(t, w, api.Step{Kind: 12}, api.OK)
	// A sector torn so that the sum of what it becomes is right: the first octets of one, the last of the other.
	sum := func(b []byte) {
		n := crc32.ChecksumIEEE(b[:252])
		b[252], b[253], b[254], b[255] = byte(n), byte(n>>8), byte(n>>16), byte(n>>24)
	}
	mixed := make([]byte, 256)
	mixed[0], mixed[200] = 1, 2
	sum(mixed)
	old, now := slices.Clone(mixed), slices.Clone(mixed)
	old[0], now[200] = 9, 9
	d := w.Disk()
	last := d.Count() - 1
	d.Write(last, old)
	d.Flush()
	d.Write(last, now)
	does(t, w, api.Step{Kind: 12, Fate: []int{2 + 50}}, api.OK)
	if !slices.Equal(d.Odd(), []int{last}) || !w.Lucky() {
		t.Errorf("odd: %v, lucky: %v", d.Odd(), w.Lucky())
	}
	d.Write(last, now)
	d.Flush()
	does(t, w, api.Step{Kind: 12}, api.OK)
	if !w.Lucky() {
		t.Error("luck is forgotten")
	}
	w = fresh(t)
	d = w.Disk()
	d.Write(last, now)
	does(t, w, api.Step{Kind: 12, Fate: []int{2 + 50}}, api.OK)
	if len(d.Odd()) != 1 || w.Lucky() {
		t.Error("lucky without a right sum")
	}
	w = fresh(t)
	d = w.Disk()
	d.Write(last, old)
	d.Flush()
	d.Write(last, mixed)
	does(t, w, api.Step{Kind: 12, Fate: []int{1}}, api.OK)
	if w.Lucky() {
		t.Error("lucky without an odd sector")
	}
}

func TestP31_1Nobody(t *testing.T) {
	for _, w := range []*world.World{nil, {}} {
		for kind := -1; kind < 15; kind++ {
			r := w.Do(api.Step{Kind: kind, A: 1})
			if r.Code != api.ErrState || r.Count != 0 || len(r.Points) != 0 {
				t.Errorf("kind %d of nobody's: %v", kind, r)
			}
		}
		if len(w.Points()) != 0 || w.Store() != nil || w.Disk() != nil || len(w.May()) != 0 || w.Lucky() {
			t.Error("of nobody's: something")
		}
	}
}

func step(r *rand.Rand) api.Step {
	number := func() uint32 { return []uint32{r.Uint32(), uint32(r.IntN(9)), top}[r.IntN(3)] }
	x := api.Step{Kind: 1 + r.IntN(13), A: 1 + r.IntN(30), X: number(), Y: number(), X1: number(), Y1: number(), Data: strings.Repeat("x", r.IntN(5))}
	if r.IntN(3) == 0 {
		x.Kind = 1
	}
	if x.Kind >= 11 {
		x.A = r.IntN(25)
		if x.Kind == 12 && r.IntN(2) == 0 {
			x.A = 0
		}
		for range r.IntN(25) {
			x.Fate = append(x.Fate, []int{0, 1, 1, 2 + r.IntN(256)}[r.IntN(4)])
		}
	}
	return x
}

func TestP31_2WhatWasSynced(t *testing.T) {
	for seed := range uint64(200) {
		r := rand.New(rand.NewPCG(31, seed))
		w, e := world.New(api.Geometry{Segments: 6 + r.IntN(6), Size: 4 + r.IntN(20)})
		if e != api.OK {
			t.Fatalf("New: %d", e)
		}
		m := model.New()
		for range 150 {
			x := step(r)
			before := w.May()
			reply := w.Do(x)
			if x.Kind == 12 && reply.Code == api.OK {
				got := w.Points()
				if !w.Lucky() && !slices.ContainsFunc(before, func(l []api.Point) bool { return slices.Equal(l, got) }) {
					t.Fatalf("seed %d: %v is there, may be: %v", seed, got, before)
				}
				m = model.New(got...)
				may(t, w, got)
			}
			if w.Store() == nil {
				continue
			}
			if !model.Same(w.Points(), answer(t, m, x, reply)) {
				t.Fatalf("seed %d, step %v: %v, want %v", seed, x, w.Points(), m.Points())
			}
		}
	}
}

// answer lets the model do what the store did, and holds its answers against it.
func answer(t *testing.T, m *model.Model, x api.Step, got api.Reply) []api.Point {
	t.Helper()
	var want api.Reply
	switch {
	case x.Kind <= 3 && (got.Code == api.ErrRead || got.Code == api.ErrFull):
		return m.Points()
	case x.Kind == 1:
		want.Code = m.Insert(api.Point{Id: x.A, X: x.X, Y: x.Y, Data: x.Data})
	case x.Kind == 2:
		want.Code = m.Delete(x.A)
	case x.Kind == 3:
		want.Code = m.Move(x.A, x.X, x.Y)
	case x.Kind == 4:
		p, ok := m.Get(x.A)
		if want.Points = []api.Point{p}; !ok {
			want = api.Reply{Code: api.ErrNone}
		}
	case x.Kind == 5:
		want.Points = m.Range(api.Rect{X0: x.X, Y0: x.Y, X1: x.X1, Y1: x.Y1})
	case x.Kind == 6:
		want.Count = len(m.Range(api.Rect{X0: x.X, Y0: x.Y, X1: x.X1, Y1: x.Y1}))
	case x.Kind == 7:
		want.Points = m.Near(x.X, x.Y, x.A)
	default:
		return m.Points()
	}
	if got.Code != want.Code || got.Count != want.Count || !slices.Equal(got.Points, want.Points) {
		t.Fatalf("step %v: %v, want %v", x, got, want)
	}
	return m.Points()
}

func TestP31_3Memory(t *testing.T) {
	w := fresh(t)
	does(t, w, add(7, 3, 4), api.OK)
	does(t, w, api.Step{Kind: 8}, api.OK)
	w.Points()[0].Id = 9
	w.May()[0][0].Id = 9
	does(t, w, api.Step{Kind: 5, X1: 9, Y1: 9}, api.OK).Points[0].Id = 9
	may(t, w, []api.Point{at(7, 3, 4)})
	if got := w.Points(); got[0] != at(7, 3, 4) {
		t.Errorf("answers share: %v", got)
	}
	fates := []int{1}
	does(t, w, api.Step{Kind: 11, A: 1, Fate: fates}, api.OK)
	fates[0] = 0
	does(t, w, add(8, 3, 4), api.OK)
	does(t, w, api.Step{Kind: 8}, api.ErrIO)
	does(t, w, api.Step{Kind: 12}, api.OK)
	if got := w.Points(); !slices.Equal(got, []api.Point{at(7, 3, 4)}) {
		t.Errorf("half a sync is there: %v", got)
	}
}
