package model_test

import (
	"math"
	"math/rand/v2"
	"slices"
	"strings"
	"testing"

	"croft/api"
	"croft/disk"
	"croft/layout"
	"croft/model"
	"croft/store"
)

func at(id int, x, y uint32) api.Point {
	return api.Point{Id: id, X: x, Y: y, Data: strings.Repeat("d", max(id, 0)%5)}
}

func has(t *testing.T, m *model.Model, want ...api.Point) {
	t.Helper()
	if got := m.Points(); !slices.Equal(got, want) {
		t.Errorf("Points: %v, want %v", got, want)
	}
}

func TestP29_1Updates(t *testing.T) {
	m := model.New()
	has(t, m)
	for i, x := range []struct {
		p    api.Point
		want api.Errno
	}{{at(7, 1, 2), api.OK}, {at(7, 3, 3), api.ErrTwice}, {api.Point{}, api.ErrRange}, {api.Point{Id: -7}, api.ErrRange}, {api.Point{Id: 1 << 31}, api.ErrRange}, {api.Point{Id: 7, Data: strings.Repeat("x", 17)}, api.ErrLong}, {at(3, 9, 9), api.OK}, {at(1<<31-1, 1, 1), api.OK}} {
		if e := m.Insert(x.p); e != x.want {
			t.Errorf("Insert %d: %d, want %d", i, e, x.want)
		}
	}
	has(t, m, at(3, 9, 9), at(7, 1, 2), at(1<<31-1, 1, 1))
	for _, id := range []int{0, -1, 8, math.MinInt, math.MaxInt} {
		if m.Delete(id) != api.ErrNone || m.Move(id, 1, 1) != api.ErrNone {
			t.Errorf("Delete or Move of %d", id)
		}
		if p, ok := m.Get(id); ok || p != (api.Point{}) {
			t.Errorf("Get(%d): %v", id, p)
		}
	}
	if e := m.Move(7, 5, math.MaxUint32); e != api.OK {
		t.Errorf("Move: %d", e)
	}
	if p, ok := m.Get(7); !ok || p != at(7, 5, math.MaxUint32) {
		t.Errorf("Get: %v", p)
	}
	if e := m.Delete(3); e != api.OK {
		t.Errorf("Delete: %d", e)
	}
	if e := m.Delete(3); e != api.ErrNone {
		t.Errorf("Delete again: %d", e)
	}
	has(t, m, at(7, 5, math.MaxUint32), at(1<<31-1, 1, 1))
}

func TestP29_1New(t *testing.T) {
	m := model.New(at(2, 1, 1), api.Point{}, at(1, 3, 3), at(2, 9, 9), api.Point{Id: 5, Data: strings.Repeat("x", 17)})
	has(t, m, at(1, 3, 3), at(2, 1, 1))
}

func TestP29_1NeverFull(t *testing.T) {
	m := model.New()
	for i := range 3000 {
		if e := m.Insert(at(i+1, 5, 5)); e != api.OK {
			t.Fatalf("Insert: %d", e)
		}
	}
	if len(m.Points()) != 3000 {
		t.Errorf("%d points", len(m.Points()))
	}
}

func TestP29_1Near(t *testing.T) {
	m := model.New()
	for i := range 90 {
		m.Insert(at(90-i, uint32(i/9), 0))
	}
	for k, n := range map[int]int{0: 0, -1: 0, math.MinInt: 0, 5: 5, 64: 64, 65: 64, math.MaxInt: 64} {
		got := m.Near(0, 0, k)
		if len(got) != n {
			t.Errorf("Near of %d: %d", k, len(got))
		}
		for i, p := range got {
			// Nine at each distance, the higher Ids nearer; of one distance by Id.
			if want := 82 - i/9*9 + i%9; p.Id != want {
				t.Errorf("Near of %d: %d at place %d, want %d", k, p.Id, i, want)
			}
		}
	}
}

func TestP29_1Same(t *testing.T) {
	a := []api.Point{at(1, 1, 1), at(2, 2, 2)}
	if !model.Same(a, []api.Point{at(1, 1, 1), at(2, 2, 2)}) || !model.Same(nil, []api.Point{}) {
		t.Error("the same are not the same")
	}
	for _, b := range [][]api.Point{nil, a[:1], {a[1], a[0]}, {a[0], a[1], a[1]}, {a[0], {Id: 2, X: 2, Y: 2}}, {a[0], at(2, 2, 3)}, {a[0], at(3, 2, 2)}} {
		if model.Same(a, b) || model.Same(b, a) {
			t.Errorf("Same: %v", b)
		}
	}
}

func TestP29_1AsTheStore(t *testing.T) {
	g := api.Geometry{Segments: 32, Size: 32}
	d := disk.New(layout.Sectors(g))
	store.Format(d, g)
	s, _ := store.Mount(d)
	m := model.New()
	r := rand.New(rand.NewPCG(29, 1))
	same := func(what string, a, b any) {
		t.Helper()
		if a != b {
			t.Fatalf("%s: %v, %v", what, a, b)
		}
	}
	number := func() uint32 { return []uint32{r.Uint32(), uint32(r.IntN(9)), math.MaxUint32}[r.IntN(3)] }
	for range 3000 {
		id, x, y := r.IntN(60)-2, number(), number()
		switch r.IntN(6) {
		case 0, 1:
			same("Insert", m.Insert(at(id, x, y)), s.Insert(at(id, x, y)))
		case 2:
			same("Delete", m.Delete(id), s.Delete(id))
		case 3:
			same("Move", m.Move(id, x, y), s.Move(id, x, y))
		case 4:
			p, ok := m.Get(id)
			q, there := s.Get(id)
			same("Get", p, q)
			same("Get", ok, there)
		case 5:
			w := api.Rect{X0: x, Y0: y, X1: number(), Y1: number()}
			same("Range", true, model.Same(m.Range(w), s.Range(w)))
			same("Near", true, model.Same(m.Near(x, y, id), s.Near(x, y, id)))
			same("Points", true, model.Same(m.Points(), s.Points()))
		}
	}
	if len(m.Points()) == 0 {
		t.Error("there are no points at the end")
	}
}

func TestP29_1Nobody(t *testing.T) {
	for _, m := range []*model.Model{nil, {}} {
		if m.Insert(at(1, 1, 1)) != api.ErrState || m.Insert(api.Point{}) != api.ErrState || m.Delete(1) != api.ErrState || m.Move(1, 1, 1) != api.ErrState {
			t.Error("of nobody's: not ErrState")
		}
		p, ok := m.Get(1)
		if ok || p != (api.Point{}) || len(m.Points()) != 0 || len(m.Near(1, 1, 5)) != 0 || len(m.Range(api.Rect{X1: 9, Y1: 9})) != 0 {
			t.Error("of nobody's: something")
		}
	}
}

func TestP29_2Memory(t *testing.T) {
	l := []api.Point{at(1, 1, 1), at(2, 2, 2)}
	m := model.New(l...)
	l[0].Id = 9
	m.Points()[0].Id = 9
	m.Near(1, 1, 2)[0].Id = 9
	m.Range(api.Rect{X1: 9, Y1: 9})[0].Id = 9
	has(t, m, at(1, 1, 1), at(2, 2, 2))
}
