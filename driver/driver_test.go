package driver_test

import (
	"math"
	"math/rand/v2"
	"testing"

	"croft/api"
	"croft/code"
	"croft/driver"
	"croft/nmap"
	"croft/world"
)

var g = api.Geometry{Segments: 8, Size: 8}

func octets(t *testing.T, l ...api.Step) []byte {
	t.Helper()
	b, e := code.Put(l)
	if e != api.OK {
		t.Fatalf("Put: %d", e)
	}
	return b
}

func add(id int, x, y uint32) api.Step {
	return api.Step{Kind: 1, A: id, X: x, Y: y}
}

func TestP38_1Main(t *testing.T) {
	for i, x := range []struct {
		l    []api.Step
		want driver.Report
	}{
		{nil, driver.Report{Free: 6, Sound: true}},
		{[]api.Step{add(1, 3, 4), add(1, 3, 4), {Kind: 4, A: 1}, {Kind: 4, A: 2}}, driver.Report{Steps: 4, Done: 2, Points: 1, Free: 6, Sound: true}},
		{[]api.Step{add(1, 3, 4), {Kind: 8}, add(2, 3, 4)}, driver.Report{Steps: 3, Done: 3, Points: 2, Nodes: 1, Free: 6, Sound: true}},
		{[]api.Step{add(1, 3, 4), {Kind: 8}, add(2, 3, 4), {Kind: 12}}, driver.Report{Steps: 4, Done: 4, Points: 1, Nodes: 1, Free: 6, Sound: true}},
		{[]api.Step{add(1, 3, 4), {Kind: 8}, {Kind: 12, A: 1}, {Kind: 4, A: 1}}, driver.Report{Steps: 4, Done: 2}},
		{[]api.Step{add(1, 3, 4), {Kind: 11}, {Kind: 8}, {Kind: 8}}, driver.Report{Steps: 4, Done: 2, Points: 1, Free: 6, Sound: true}},
	} {
		if got, e := driver.Main(g, octets(t, x.l...)); e != api.OK || got != x.want {
			t.Errorf("%d: %v, %d; want %v", i, got, e, x.want)
		}
	}
}

func TestP38_1Errors(t *testing.T) {
	sync := octets(t, api.Step{Kind: 8})
	var many []byte
	for range 257 {
		many = append(many, sync...)
	}
	for i, x := range []struct {
		g    api.Geometry
		b    []byte
		want api.Errno
	}{
		{g, []byte{1}, api.ErrSyntax}, {g, sync[:22], api.ErrSyntax}, {api.Geometry{}, sync[:22], api.ErrSyntax}, {g, many, api.ErrCount}, {api.Geometry{}, many, api.ErrCount},
		{api.Geometry{}, nil, api.ErrRange}, {api.Geometry{Segments: 5, Size: 8}, sync, api.ErrRange}, {api.Geometry{Segments: math.MaxInt, Size: math.MinInt}, sync, api.ErrRange},
	} {
		if got, e := driver.Main(x.g, x.b); e != x.want || got != (driver.Report{}) {
			t.Errorf("%d: %v, %d; want %d", i, got, e, x.want)
		}
	}
}

func TestP38_1AsTheWorld(t *testing.T) {
	r := rand.New(rand.NewPCG(38, 1))
	for range 60 {
		var l []api.Step
		for range r.IntN(120) {
			x := api.Step{Kind: 1 + r.IntN(13), A: r.IntN(30), X: r.Uint32(), Y: r.Uint32(), X1: r.Uint32(), Y1: r.Uint32()}
			for range r.IntN(9) {
				x.Fate = append(x.Fate, r.IntN(259))
			}
			if r.IntN(2) == 0 {
				x.Kind = 1
			}
			l = append(l, x)
		}
		w, _ := world.New(g)
		want := driver.Report{Steps: len(l)}
		for _, x := range l {
			if w.Do(x).Code == api.OK {
				want.Done++
			}
		}
		want.Lucky = w.Lucky()
		if s := w.Store(); s != nil {
			want.Points, want.Nodes, want.Free, want.Sound = len(s.Points()), len(nmap.Ids(s.Map())), s.Free(), true
		}
		if got, e := driver.Main(g, octets(t, l...)); e != api.OK || got != want {
			t.Fatalf("%v, %d; want %v", got, e, want)
		}
	}
}

func TestP38_1Line(t *testing.T) {
	for _, x := range []struct {
		r    driver.Report
		want string
	}{
		{driver.Report{}, "0 0 0 0 0 no no"}, {driver.Report{Steps: 12, Done: 3, Points: 4, Nodes: 5, Free: 6, Lucky: true}, "12 3 4 5 6 yes no"},
		{driver.Report{Steps: -1, Done: math.MaxInt64, Sound: true}, "-1 9223372036854775807 0 0 0 no yes"},
	} {
		if got := driver.Line(x.r); got != x.want {
			t.Errorf("Line(%v): %q", x.r, got)
		}
	}
}

func TestP38_2Memory(t *testing.T) {
	b := octets(t, add(1, 3, 4), api.Step{Kind: 8})
	x, _ := driver.Main(g, b)
	y, _ := driver.Main(g, b)
	if x != y || string(b) != string(octets(t, add(1, 3, 4), api.Step{Kind: 8})) {
		t.Error("asked twice, or what was handed in is changed")
	}
}
