package inspect_test

import (
	"bytes"
	"slices"
	"testing"

	"croft/api"
	"croft/disk"
	"croft/inspect"
	"croft/layout"
	"croft/mark"
	"croft/nmap"
	"croft/seglog"
	"croft/store"
)

var g = api.Geometry{Segments: 16, Size: 16}

func fresh(t *testing.T) (*disk.Disk, *store.Store) {
	t.Helper()
	d := disk.New(layout.Sectors(g))
	if e := store.Format(d, g); e != api.OK {
		t.Fatalf("Format: %d", e)
	}
	s, e := store.Mount(d)
	if e != api.OK {
		t.Fatalf("Mount: %d", e)
	}
	return d, s
}

func content(d *disk.Disk) []byte {
	var all []byte
	for i := range d.Count() {
		b, _ := d.Read(i)
		all = append(all, b...)
	}
	return all
}

func spread(n int) []api.Point {
	var l []api.Point
	for i := range n {
		l = append(l, api.Point{Id: i + 1, X: uint32(i) * 2654435761, Y: uint32(i) * 40503 * 65599, Data: "d"})
	}
	return l
}

func TestP32_1Disk(t *testing.T) {
	d := disk.New(layout.Sectors(g))
	store.Format(d, g)
	f, l, e := inspect.Disk(d)
	if e != api.OK || f.Geometry != g || f.Epoch != 1 || f.Points != 0 || f.Live != 0 || f.Batches != 0 || len(l) != 0 {
		t.Errorf("of a formatted disk: %v, %v, %d", f, l, e)
	}
	d, s := fresh(t)
	for i, p := range spread(20) {
		s.Insert(p)
		if e := s.Sync(); e != api.OK {
			t.Fatalf("Sync: %d", e)
		}
		if i == 10 {
			s.Checkpoint()
		}
	}
	s.Insert(api.Point{Id: 99})
	before := content(d)
	look, _ := store.Examine(d)
	f, l, e = inspect.Disk(d)
	nodes := len(nmap.Ids(s.Map()))
	want := inspect.Finding{Geometry: g, Epoch: 3, Points: 20, Nodes: nodes, Live: nodes, Batches: look.Found.Batches}
	if e != api.OK || f != want || !slices.Equal(l, spread(20)) || f.Batches < 9 {
		t.Errorf("Disk: %v, %v, %d; want %v", f, l, e, want)
	}
	if !bytes.Equal(content(d), before) || d.Waits() != 0 {
		t.Error("something is written")
	}
}

func TestP32_1Errors(t *testing.T) {
	refused := func(why string, d *disk.Disk, want api.Errno) {
		t.Helper()
		if f, l, e := inspect.Disk(d); e != want || f != (inspect.Finding{}) || len(l) != 0 {
			t.Errorf("%s: %v, %d", why, f, e)
		}
	}
	refused("nil", nil, api.ErrCorrupt)
	refused("nobody's", &disk.Disk{}, api.ErrCorrupt)
	refused("no sectors", disk.New(0), api.ErrCorrupt)
	refused("empty", disk.New(layout.Sectors(g)), api.ErrCorrupt)
	d, s := fresh(t)
	s.Insert(api.Point{Id: 1})
	s.Sync()
	for after := range 10 {
		d.Fail(after)
		refused("a disk that fails", d, api.ErrIO)
	}
	d.Power(nil)
	s.Checkpoint()
	d.Write(s.Map()[1], make([]byte, 256))
	refused("a node is lost", d, api.ErrCorrupt)
}

func putMark(d *disk.Disk, epoch int) {
	m := mark.Mark{Epoch: epoch, Place: api.Place{Next: 1}}
	l, _ := mark.Body(m)
	h, _ := mark.Head(m)
	seglog.Write(d, layout.Region(epoch), append(l, h))
	d.Flush()
}

func TestP32_1LastEpoch(t *testing.T) {
	d, _ := fresh(t)
	putMark(d, 1<<32-1)
	f, _, e := inspect.Disk(d)
	if e != api.OK || f.Epoch != 1<<32-1 {
		t.Errorf("of the last epoch: %v, %d", f, e)
	}
}

func TestP32_1Marks(t *testing.T) {
	d := disk.New(9)
	if l := inspect.Marks(d); len(l) != 0 {
		t.Errorf("Marks of an empty disk: %v", l)
	}
	putMark(d, 6)
	if l := inspect.Marks(d); !slices.Equal(l, []int{6}) {
		t.Errorf("Marks: %v", l)
	}
	putMark(d, 9)
	if l := inspect.Marks(d); !slices.Equal(l, []int{9, 6}) {
		t.Errorf("Marks: %v", l)
	}
	putMark(d, 10)
	if l := inspect.Marks(d); !slices.Equal(l, []int{10, 9}) {
		t.Errorf("Marks: %v", l)
	}
	d.Fail(3)
	if l := inspect.Marks(d); len(l) != 0 {
		t.Errorf("Marks of a disk that fails: %v", l)
	}
	for _, d := range []*disk.Disk{nil, {}, disk.New(0), disk.New(5)} {
		if l := inspect.Marks(d); len(l) != 0 {
			t.Errorf("Marks of no disk: %v", l)
		}
	}
}

func TestP32_2Memory(t *testing.T) {
	d, s := fresh(t)
	s.Insert(api.Point{Id: 1})
	s.Sync()
	_, l, _ := inspect.Disk(d)
	l[0].Id = 9
	inspect.Marks(d)[0] = 9
	_, l, _ = inspect.Disk(d)
	if l[0].Id != 1 || inspect.Marks(d)[0] != 2 || s.Points()[0].Id != 1 {
		t.Error("answers share")
	}
}
