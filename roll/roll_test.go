package roll_test

import (
	"math"
	"math/rand/v2"
	"testing"

	"croft/api"
	"croft/batch"
	"croft/disk"
	"croft/layout"
	"croft/mark"
	"croft/nmap"
	"croft/plan"
	"croft/roll"
	"croft/seglog"
)

var g = api.Geometry{Segments: 7, Size: 5}

func at(seg, off, next int) api.Place {
	return api.Place{Seg: seg, Off: off, Next: next}
}

func begin(p api.Place) mark.Mark {
	m := mark.Mark{Epoch: 3, Place: p}
	m.Map[9], m.Map[10] = 40, 41
	return m
}

func entries(l ...int) []api.Entry {
	var all []api.Entry
	for i := 0; i < len(l); i += 2 {
		all = append(all, api.Entry{Kind: l[i], Id: l[i+1]})
	}
	return all
}

// put writes a batch as told, wherever it may stand.
func put(t *testing.T, d *disk.Disk, seg, off, epoch, seq int, s batch.Summary) {
	t.Helper()
	var l []seglog.Item
	for _, x := range s.Entries {
		l = append(l, seglog.Item{Id: x.Id, Node: api.Node{Leaf: true}})
	}
	b, e := seglog.Sectors(s, epoch, seq, l)
	if e != api.OK || seglog.Write(d, 9+seg*5+off, b) != api.OK {
		t.Fatalf("a batch can't be written: %d", e)
	}
}

func sum(next int, last bool, l ...int) batch.Summary {
	return batch.Summary{Next: next, Last: last, Entries: entries(l...)}
}

func finds(t *testing.T, why string, d *disk.Disk, m mark.Mark, p api.Place, batches int, change map[int]int) {
	t.Helper()
	want := roll.Found{Map: m.Map, Place: p, Batches: batches}
	for id, sector := range change {
		want.Map[id] = sector
	}
	got, e := roll.Forward(d, g, m)
	if e != api.OK || got != want {
		t.Errorf("%s: %v, %d batches, %d; want %v, %d", why, got.Place, got.Batches, e, p, batches)
	}
}

func TestP20_1Nothing(t *testing.T) {
	for _, p := range []api.Place{at(0, 0, 1), at(2, 3, 1), at(2, 4, 6), at(2, 5, 6)} {
		finds(t, "an empty disk", disk.New(44), begin(p), p, 0, nil)
	}
}

func TestP20_1OneSegment(t *testing.T) {
	d := disk.New(44)
	put(t, d, 0, 0, 3, 0, sum(1, true, 1, 5, 2, 9))
	finds(t, "one batch", d, begin(at(0, 0, 1)), at(0, 2, 1), 1, map[int]int{5: 10, 9: 0})
	put(t, d, 0, 2, 3, 1, sum(1, true, 1, 6, 1, 5))
	finds(t, "two batches", d, begin(at(0, 0, 1)), at(0, 5, 1), 2, map[int]int{5: 13, 6: 12, 9: 0})
	finds(t, "from the middle on: Seq 0 is not there", d, begin(at(0, 2, 1)), at(0, 2, 1), 0, nil)
	finds(t, "another segment", d, begin(at(2, 0, 1)), at(2, 0, 1), 0, nil)
}

func TestP20_1NotTheLast(t *testing.T) {
	d := disk.New(44)
	put(t, d, 0, 0, 3, 0, sum(1, true, 1, 5))
	put(t, d, 0, 2, 3, 1, sum(1, false, 1, 6, 2, 5))
	finds(t, "the last one is missing", d, begin(at(0, 0, 1)), at(0, 2, 1), 1, map[int]int{5: 10})
	put(t, d, 0, 4, 3, 2, sum(1, true, 2, 9))
	finds(t, "the last one stands where none can", d, begin(at(0, 0, 1)), at(0, 2, 1), 1, map[int]int{5: 10})
	put(t, d, 1, 0, 3, 2, sum(4, true, 2, 9))
	finds(t, "the last one is there", d, begin(at(0, 0, 1)), at(1, 1, 4), 3, map[int]int{5: 0, 6: 12, 9: 0})
}

func TestP20_1NextSegment(t *testing.T) {
	for _, off := range []int{4, 5} {
		d := disk.New(44)
		put(t, d, 1, 0, 3, 0, sum(6, true, 1, 5))
		finds(t, "at the beginning of Next", d, begin(at(0, off, 1)), at(1, 2, 6), 1, map[int]int{5: 15})
	}
	d := disk.New(44)
	put(t, d, 1, 0, 3, 0, sum(6, true, 1, 5))
	finds(t, "two sectors are left: not at Next", d, begin(at(0, 3, 1)), at(0, 3, 1), 0, nil)
	put(t, d, 1, 2, 3, 1, sum(6, false, 1, 6, 1, 7))
	put(t, d, 6, 0, 3, 2, sum(0, true, 1, 8, 1, 20, 1, 21, 1, 22))
	put(t, d, 0, 0, 3, 3, sum(2, true, 2, 5))
	finds(t, "three segments", d, begin(at(0, 4, 1)), at(0, 1, 2), 4, map[int]int{5: 0, 6: 17, 7: 18, 8: 40, 20: 41, 21: 42, 22: 43})
}

func TestP20_1WrongNext(t *testing.T) {
	one := func(why string, p api.Place, seg, off int, s batch.Summary) {
		t.Helper()
		d := disk.New(44)
		put(t, d, seg, off, 3, 0, s)
		finds(t, why, d, begin(p), p, 0, nil)
	}
	one("another Next in the segment", at(0, 0, 1), 0, 0, sum(2, true, 1, 5))
	one("Next is its own", at(0, 5, 1), 1, 0, sum(1, true, 1, 5))
	one("Next is no segment", at(0, 5, 1), 1, 0, sum(7, true, 1, 5))
	one("Next is no segment", at(0, 5, 1), 1, 0, sum(31, true, 1, 5))
	d := disk.New(44)
	put(t, d, 1, 0, 3, 0, sum(4, true, 1, 5))
	put(t, d, 1, 2, 3, 1, sum(2, true, 1, 6))
	finds(t, "Next becomes another in the segment", d, begin(at(0, 5, 1)), at(1, 2, 4), 1, map[int]int{5: 15})
	d = disk.New(44)
	put(t, d, 1, 0, 3, 0, sum(0, true, 1, 5))
	finds(t, "Next is where it came from", d, begin(at(0, 5, 1)), at(1, 2, 0), 1, map[int]int{5: 15})
}

func TestP20_1WrongStamp(t *testing.T) {
	d := disk.New(44)
	put(t, d, 0, 0, 2, 0, sum(1, true, 1, 5))
	finds(t, "an older epoch", d, begin(at(0, 0, 1)), at(0, 0, 1), 0, nil)
	d = disk.New(44)
	put(t, d, 0, 0, 3, 1, sum(1, true, 1, 5))
	finds(t, "not Seq 0", d, begin(at(0, 0, 1)), at(0, 0, 1), 0, nil)
	d = disk.New(44)
	put(t, d, 0, 0, 3, 0, sum(1, true, 1, 5))
	put(t, d, 0, 2, 3, 2, sum(1, true, 1, 6))
	finds(t, "Seq 1 is missing", d, begin(at(0, 0, 1)), at(0, 2, 1), 1, map[int]int{5: 10})
	d = disk.New(44)
	put(t, d, 0, 3, 3, 0, sum(1, true, 1, 5, 1, 6))
	finds(t, "over the end of the segment", d, begin(at(0, 3, 1)), at(0, 3, 1), 0, nil)
}

func TestP20_1GoneAlone(t *testing.T) {
	d := disk.New(44)
	for seq := range 4 {
		put(t, d, 0, seq, 3, seq, sum(1, true, 2, 9+seq))
	}
	finds(t, "batches of one sector", d, begin(at(0, 0, 1)), at(0, 4, 1), 4, map[int]int{9: 0, 10: 0})
}

func TestP20_1Errors(t *testing.T) {
	good := begin(at(0, 0, 1))
	big := api.Geometry{Segments: 32, Size: 32}
	bad := good
	bad.Epoch = 0
	for i, x := range []struct {
		d    *disk.Disk
		g    api.Geometry
		m    mark.Mark
		want api.Errno
	}{
		{disk.New(44), api.Geometry{}, good, api.ErrRange}, {disk.New(44), api.Geometry{Segments: 5, Size: 5}, good, api.ErrRange}, {disk.New(44), api.Geometry{Segments: math.MaxInt, Size: math.MaxInt}, good, api.ErrRange},
		{disk.New(44), g, bad, api.ErrRange}, {disk.New(44), g, mark.Mark{}, api.ErrRange}, {disk.New(44), g, begin(at(1, 0, 1)), api.ErrRange},
		{disk.New(44), g, begin(at(7, 0, 1)), api.ErrRange}, {disk.New(44), g, begin(at(0, 0, 7)), api.ErrRange}, {disk.New(44), g, begin(at(0, 6, 1)), api.ErrRange},
		{disk.New(44), big, begin(at(31, 32, 1)), api.OK}, {disk.New(44), big, begin(at(31, 0, 1)), api.ErrRange}, {disk.New(0), g, good, api.ErrRange},
		{nil, g, good, api.ErrState}, {&disk.Disk{}, g, good, api.ErrState},
	} {
		got, e := roll.Forward(x.d, x.g, x.m)
		if e != x.want || e != api.OK && got != (roll.Found{}) {
			t.Errorf("%d: %v, %d; want %d", i, got.Place, e, x.want)
		}
	}
	d := disk.New(44)
	put(t, d, 0, 0, 3, 0, sum(1, true, 1, 5))
	for i := range 3 {
		d.Fail(i)
		if got, e := roll.Forward(d, g, good); e != api.ErrIO || got != (roll.Found{}) {
			t.Errorf("a disk that fails: %d", e)
		}
	}
	d.Power(nil)
	d.Cut(0, nil)
	if _, e := roll.Forward(d, g, good); e != api.ErrIO {
		t.Errorf("without power: %d", e)
	}
}

func TestP20_1AsPlanned(t *testing.T) {
	r := rand.New(rand.NewPCG(20, 1))
	for range 100 {
		g := api.Geometry{Segments: 6 + r.IntN(27), Size: 4 + r.IntN(29)}
		d := disk.New(layout.Sectors(g))
		p := at(2, r.IntN(g.Size+1), 0)
		m := begin(p)
		want := roll.Found{Map: m.Map, Place: p}
		free := []int{}
		for seg := range g.Segments {
			if seg != 2 && seg != 0 {
				free = append(free, seg)
			}
		}
		for range r.IntN(6) {
			var l []api.Entry
			var items []seglog.Item
			for range 1 + r.IntN(12) {
				l = append(l, api.Entry{Kind: 1 + r.IntN(2), Id: 1 + r.IntN(255)})
				items = append(items, seglog.Item{Id: l[len(l)-1].Id, Node: api.Node{Leaf: true}})
			}
			parts, then, left, e := plan.Parts(g, want.Place, free, l)
			if e != api.OK {
				break
			}
			for _, x := range parts {
				b, _ := seglog.Sectors(x.Summary, m.Epoch, want.Batches, items)
				first, _ := layout.Address(g, x.Place.Seg, x.Place.Off)
				seglog.Write(d, first, b)
				var sectors []int
				for i := range batch.Written(x.Summary) {
					sectors = append(sectors, first+1+i)
				}
				want.Map, _ = nmap.Apply(want.Map, x.Summary.Entries, sectors)
				want.Batches++
			}
			want.Place, free = then, left
		}
		got, e := roll.Forward(d, g, m)
		if e != api.OK || got != want {
			t.Fatalf("%v, %d, %d; want %v, %d", got.Place, got.Batches, e, want.Place, want.Batches)
		}
	}
}

func TestP20_2Memory(t *testing.T) {
	d := disk.New(44)
	put(t, d, 0, 0, 3, 0, sum(1, true, 1, 5, 2, 9))
	m := begin(at(0, 0, 1))
	a, _ := roll.Forward(d, g, m)
	b, _ := roll.Forward(d, g, m)
	if a != b || m != begin(at(0, 0, 1)) {
		t.Error("asked twice, or what was handed in is changed")
	}
}
