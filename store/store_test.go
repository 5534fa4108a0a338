package store_test

import (
	"bytes"
	"cmp"
	"math"
	"math/rand/v2"
	"slices"
	"strings"
	"testing"

	"croft/api"
	"croft/disk"
	"croft/frame"
	"croft/layout"
	"croft/mark"
	"croft/nmap"
	"croft/node"
	"croft/point"
	"croft/seglog"
	"croft/store"
	"croft/super"
	"croft/tree"
	"croft/usage"
	"croft/verify"
	"croft/wide"
)

var small = api.Geometry{Segments: 8, Size: 8}

func plane() api.Rect {
	return api.Rect{X1: math.MaxUint32, Y1: math.MaxUint32}
}

func is(t *testing.T, what string, got, want api.Errno) {
	t.Helper()
	if got != want {
		t.Fatalf("%s: %d, want %d", what, got, want)
	}
}

func formatted(t *testing.T, g api.Geometry) *disk.Disk {
	t.Helper()
	d := disk.New(layout.Sectors(g))
	is(t, "Format", store.Format(d, g), api.OK)
	return d
}

func mount(t *testing.T, d *disk.Disk) *store.Store {
	t.Helper()
	s, e := store.Mount(d)
	is(t, "Mount", e, api.OK)
	return s
}

func fresh(t *testing.T, g api.Geometry) (*disk.Disk, *store.Store) {
	t.Helper()
	d := formatted(t, g)
	return d, mount(t, d)
}

func at(id int, x, y uint32) api.Point {
	return api.Point{Id: id, X: x, Y: y, Data: strings.Repeat("d", id%5)}
}

func insert(t *testing.T, s *store.Store, l ...api.Point) {
	t.Helper()
	for _, p := range l {
		is(t, "Insert", s.Insert(p), api.OK)
	}
}

func has(t *testing.T, s *store.Store, want ...api.Point) {
	t.Helper()
	if got := s.Points(); !slices.Equal(got, point.Sort(want)) {
		t.Fatalf("Points: %v, want %v", got, want)
	}
}

func look(t *testing.T, d *disk.Disk) store.Look {
	t.Helper()
	l, e := store.Examine(d)
	is(t, "Examine", e, api.OK)
	return l
}

func spread(n int) []api.Point {
	var l []api.Point
	for i := range n {
		l = append(l, at(i+1, uint32(i)*2654435761, uint32(i)*40503*65599))
	}
	return l
}

func TestP28_1Format(t *testing.T) {
	for _, g := range []api.Geometry{{}, {Segments: 5, Size: 8}, {Segments: 8, Size: 33}, {Segments: math.MaxInt, Size: math.MinInt}} {
		is(t, "Format of no geometry", store.Format(disk.New(4000), g), api.ErrRange)
	}
	is(t, "Format of too few sectors", store.Format(disk.New(layout.Sectors(small)-1), small), api.ErrRange)
	is(t, "Format of nil", store.Format(nil, small), api.ErrRange)
	is(t, "Format of nobody's", store.Format(&disk.Disk{}, small), api.ErrRange)
	d := disk.New(layout.Sectors(small) + 9)
	is(t, "Format", store.Format(d, small), api.OK)
	if d.Waits() != 0 {
		t.Error("something waits behind Format")
	}
	d.Power(nil)
	head, _ := super.Put(small)
	if b, _ := d.Read(0); !bytes.Equal(b, head) {
		t.Error("sector 0 is not the head of all")
	}
	l, e := store.Marks(d)
	if e != api.OK || len(l) != 1 || l[0] != (mark.Mark{Epoch: 1, Place: api.Place{Next: 1}}) {
		t.Errorf("Marks: %v, %d", l, e)
	}
}

func TestP28_1FormatAgain(t *testing.T) {
	d, s := fresh(t, small)
	insert(t, s, spread(9)...)
	is(t, "Sync", s.Sync(), api.OK)
	for range 4 {
		is(t, "Checkpoint", s.Checkpoint(), api.OK)
		is(t, "Format", store.Format(d, small), api.OK)
		l, e := store.Marks(d)
		if e != api.OK || len(l) != 1 || l[0].Epoch != 1 {
			t.Fatalf("marks behind Format: %v, %d", l, e)
		}
		s = mount(t, d)
	}
}

func TestP28_1FormatErrors(t *testing.T) {
	for after := range 20 {
		d := disk.New(layout.Sectors(small))
		d.Fail(after)
		e := store.Format(d, small)
		if e == api.OK {
			if after < 6 {
				t.Errorf("only %d calls", after)
			}
			return
		}
		is(t, "Format on a disk that fails", e, api.ErrIO)
		d.Power(nil)
		_, e = store.Mount(d)
		is(t, "Mount of what was not formatted", e, api.ErrCorrupt)
	}
	t.Error("Format never ends")
}

func someMark(epoch int) mark.Mark {
	return mark.Mark{Epoch: epoch, Place: api.Place{Seg: 2, Off: 3, Next: 4}}
}

func putMark(t *testing.T, d *disk.Disk, region int, m mark.Mark) {
	t.Helper()
	l, e := mark.Body(m)
	is(t, "Body", e, api.OK)
	h, _ := mark.Head(m)
	is(t, "Write", seglog.Write(d, region, append(l, h)), api.OK)
	d.Flush()
}

func TestP28_2Marks(t *testing.T) {
	d := disk.New(9)
	if l, e := store.Marks(d); e != api.OK || len(l) != 0 {
		t.Errorf("Marks of an empty disk: %v, %d", l, e)
	}
	putMark(t, d, 1, someMark(6))
	putMark(t, d, 5, someMark(9))
	if l, e := store.Marks(d); e != api.OK || len(l) != 2 || l[0] != someMark(9) || l[1] != someMark(6) {
		t.Errorf("Marks: %v, %d", l, e)
	}
	putMark(t, d, 1, someMark(10))
	if l, e := store.Marks(d); e != api.OK || len(l) != 2 || l[0] != someMark(10) || l[1] != someMark(9) {
		t.Errorf("Marks: %v, %d", l, e)
	}
	putMark(t, d, 1, someMark(11))
	if l, e := store.Marks(d); e != api.OK || len(l) != 1 || l[0] != someMark(9) {
		t.Errorf("Marks in another's region: %v, %d", l, e)
	}
	d.Write(6, make([]byte, 256))
	if l, e := store.Marks(d); e != api.OK || len(l) != 0 {
		t.Errorf("Marks with a body torn: %v, %d", l, e)
	}
	for i := range 8 {
		d.Fail(i)
		if l, e := store.Marks(d); e != api.ErrIO || len(l) != 0 {
			t.Errorf("Marks of a disk that fails: %d", e)
		}
	}
	_, e := store.Marks(disk.New(8))
	is(t, "Marks of a small disk", e, api.ErrRange)
	_, e = store.Marks(nil)
	is(t, "Marks of nil", e, api.ErrState)
}

func TestP28_2ExamineErrors(t *testing.T) {
	refused := func(why string, d *disk.Disk, want api.Errno) {
		t.Helper()
		l, e := store.Examine(d)
		if e != want || l.Geometry != (api.Geometry{}) || l.Nodes != nil || l.Mark != (mark.Mark{}) {
			t.Errorf("Examine, %s: %d, want %d", why, e, want)
		}
		if s, e := store.Mount(d); e != want || s != nil {
			t.Errorf("Mount, %s: %d, want %d", why, e, want)
		}
	}
	refused("nil", nil, api.ErrCorrupt)
	refused("nobody's", &disk.Disk{}, api.ErrCorrupt)
	refused("no sectors", disk.New(0), api.ErrCorrupt)
	refused("octets 0", disk.New(73), api.ErrCorrupt)
	off := disk.New(0)
	off.Cut(0, nil)
	refused("no sectors, no power", off, api.ErrCorrupt)
	off = formatted(t, small)
	off.Cut(0, nil)
	refused("no power", off, api.ErrIO)
	change := func(why string, f func(d *disk.Disk)) {
		t.Helper()
		d := formatted(t, small)
		f(d)
		d.Flush()
		refused(why, d, api.ErrCorrupt)
	}
	change("no head", func(d *disk.Disk) { d.Write(0, make([]byte, 256)) })
	change("too few sectors", func(d *disk.Disk) {
		b, _ := super.Put(api.Geometry{Segments: 9, Size: 8})
		d.Write(0, b)
	})
	change("no mark", func(d *disk.Disk) { d.Write(8, make([]byte, 256)) })
	with := func(why string, f func(m *mark.Mark)) {
		t.Helper()
		change(why, func(d *disk.Disk) {
			m := mark.Mark{Epoch: 5, Place: api.Place{Seg: 2, Off: 3, Next: 4}}
			f(&m)
			putMark(t, d, 5, m)
		})
	}
	with("its Seg is not there", func(m *mark.Mark) { m.Place.Seg = 8 })
	with("its Next is not there", func(m *mark.Mark) { m.Place.Next = 31 })
	with("its Off is not there", func(m *mark.Mark) { m.Place.Off = 9 })
	with("a node in no segment", func(m *mark.Mark) { m.Map[1] = 8 })
	with("a node behind all", func(m *mark.Mark) { m.Map[1] = 73 })
	with("a node that is none", func(m *mark.Mark) { m.Map[1] = 9 })
}

// written answers a disk with nodes at the sectors of segment 0, and a mark that tells them.
func written(t *testing.T, nodes map[int]api.Node, f func(m *mark.Mark)) *disk.Disk {
	t.Helper()
	d := formatted(t, small)
	m := mark.Mark{Epoch: 3, Place: api.Place{Seg: 2, Off: 3, Next: 4}}
	sector := 9
	for _, id := range []int{1, 2, 3, 4, 255} {
		n, ok := nodes[id]
		if !ok {
			continue
		}
		octets, e := node.Put(n)
		is(t, "a node", e, api.OK)
		b, _ := frame.Seal(5, api.Stamp{Epoch: 9, Seq: 9, At: 9}, append([]byte{byte(id)}, octets...))
		d.Write(sector, b)
		m.Map[id] = sector
		sector++
	}
	f(&m)
	putMark(t, d, 5, m)
	return d
}

func five() map[int]api.Node {
	top := uint32(math.MaxUint32)
	return map[int]api.Node{
		1:   {Kids: [4]int{2, 3, 0, 255}, Counts: [4]int{2, 1, 0, 2}},
		2:   {Leaf: true, Points: []api.Point{at(4, 5, 5), at(6, 1, 1)}},
		3:   {Leaf: true, Points: []api.Point{at(5, top, 5)}},
		255: {Leaf: true, Points: []api.Point{at(1, top, top), at(2, top, top)}},
	}
}

func TestP28_2ExamineNodes(t *testing.T) {
	d := written(t, five(), func(m *mark.Mark) {})
	l := look(t, d)
	if l.Geometry != small || l.Mark.Epoch != 3 || l.Found.Batches != 0 || l.Found.Place != (api.Place{Seg: 2, Off: 3, Next: 4}) || l.Found.Map != l.Mark.Map || l.Mark.Map[255] != 12 {
		t.Errorf("Examine: %v", l)
	}
	for id, n := range five() {
		if got, ok := l.Nodes.Get(id); !ok || !node.Same(got, n) {
			t.Errorf("Examine: node %d: %v", id, got)
		}
	}
	if len(l.Nodes.Ids()) != 4 {
		t.Errorf("Examine: nodes %v", l.Nodes.Ids())
	}
	refused := func(why string, nodes map[int]api.Node, f func(m *mark.Mark)) {
		t.Helper()
		d := written(t, nodes, f)
		if l, e := store.Examine(d); e != api.ErrCorrupt || l.Nodes != nil {
			t.Errorf("%s: %d", why, e)
		}
	}
	without := five()
	delete(without, 3)
	refused("a node is missing", without, func(m *mark.Mark) {})
	more := five()
	more[4] = api.Node{Leaf: true}
	refused("a node too much", more, func(m *mark.Mark) {})
	refused("no root", map[int]api.Node{2: {Leaf: true}}, func(m *mark.Mark) {})
	refused("two nodes in one sector", five(), func(m *mark.Mark) { m.Map[3] = m.Map[2] })
	refused("another's sector", five(), func(m *mark.Mark) { m.Map[3], m.Map[2] = m.Map[2], m.Map[3] })
	wrong := five()
	wrong[3] = api.Node{Leaf: true, Points: []api.Point{at(5, 5, 5)}}
	refused("a point elsewhere", wrong, func(m *mark.Mark) {})
	d = written(t, five(), func(m *mark.Mark) {})
	for after := range 100 {
		d.Fail(after)
		l, e := store.Examine(d)
		if e == api.OK {
			if after < 13 {
				t.Errorf("only %d reads", after)
			}
			break
		}
		if e != api.ErrIO || l.Nodes != nil {
			t.Errorf("Examine of a disk that fails: %d", e)
		}
	}
}

func TestP28_2Examine(t *testing.T) {
	d := formatted(t, small)
	l := look(t, d)
	if l.Geometry != small || l.Mark.Epoch != 1 || l.Found.Batches != 0 || len(l.Nodes.Ids()) != 0 {
		t.Errorf("Examine of a formatted disk: %v", l)
	}
	if d.Waits() != 0 {
		t.Error("Examine writes")
	}
	s := mount(t, d)
	insert(t, s, spread(5)...)
	is(t, "Sync", s.Sync(), api.OK)
	insert(t, s, at(99, 5, 5))
	is(t, "Sync", s.Sync(), api.OK)
	l = look(t, d)
	if l.Mark.Epoch != 2 || l.Found.Batches < 2 || l.Found.Map != s.Map() || !slices.Equal(tree.Points(l.Nodes), s.Points()) {
		t.Errorf("Examine behind two syncs: %v", l)
	}
	if l.Mark.Map != ([api.Ids]int{}) {
		t.Error("the mark knows what was done since")
	}
}

func TestP28_2Mount(t *testing.T) {
	d := written(t, five(), func(m *mark.Mark) { m.Ages[2], m.Ages[3] = 1, 2 })
	before := look(t, d)
	s := mount(t, d)
	has(t, s, at(4, 5, 5), at(6, 1, 1), at(5, math.MaxUint32, 5), at(1, math.MaxUint32, math.MaxUint32), at(2, math.MaxUint32, math.MaxUint32))
	if s.Closed() || s.Map() != before.Found.Map || d.Waits() != 0 {
		t.Error("a store, mounted")
	}
	if got, want := s.Free(), len(usage.Free(small, s.Map(), before.Found.Place)); got != want || want != 5 {
		t.Errorf("Free: %d, want %d", got, want)
	}
	l, e := store.Marks(d)
	want := before.Mark
	want.Epoch, want.Ages[2] = 4, 4
	if e != api.OK || len(l) != 2 || l[0] != want || l[1] != before.Mark {
		t.Errorf("marks behind Mount: %v, %d", l, e)
	}
	d.Power(nil)
	has(t, mount(t, d), s.Points()...)
	_, empty := fresh(t, small)
	has(t, empty)
	if empty.Free() != 6 || empty.Map() != ([api.Ids]int{}) {
		t.Errorf("a formatted disk, mounted: %d free", empty.Free())
	}
}

func TestP28_2MountEpochs(t *testing.T) {
	for epoch, want := range map[int]api.Errno{1 << 31: api.OK, 1<<31 + 1: api.ErrCorrupt, 1<<31 - 1: api.OK, 1<<32 - 1: api.ErrCorrupt} {
		d := formatted(t, small)
		putMark(t, d, layout.Region(epoch), someMark(epoch))
		look(t, d)
		s, e := store.Mount(d)
		if e != want || (s == nil) == (want == api.OK) {
			t.Errorf("Mount of epoch %d: %d", epoch, e)
		}
	}
}

func TestP28_2MountErrors(t *testing.T) {
	d, s := fresh(t, small)
	insert(t, s, spread(9)...)
	is(t, "Sync", s.Sync(), api.OK)
	for after := range 100 {
		d.Fail(after)
		again, e := store.Mount(d)
		if e == api.OK {
			has(t, again, spread(9)...)
			return
		}
		if e != api.ErrIO || again != nil {
			t.Fatalf("Mount of a disk that fails: %d", e)
		}
		d.Power(nil)
	}
	t.Error("Mount never ends")
}

func TestP28_3Updates(t *testing.T) {
	_, s := fresh(t, small)
	insert(t, s, at(7, 1, 2))
	for i, x := range []struct {
		p    api.Point
		want api.Errno
	}{{api.Point{}, api.ErrRange}, {api.Point{Id: math.MaxInt}, api.ErrRange}, {api.Point{Id: 7, Data: strings.Repeat("x", 17)}, api.ErrLong}, {at(7, 9, 9), api.ErrTwice}} {
		if e := s.Insert(x.p); e != x.want {
			t.Errorf("Insert %d: %d", i, e)
		}
	}
	for _, id := range []int{0, -1, 8, math.MinInt, math.MaxInt} {
		if s.Delete(id) != api.ErrNone || s.Move(id, 1, 1) != api.ErrNone {
			t.Errorf("Delete or Move of %d", id)
		}
	}
	has(t, s, at(7, 1, 2))
	is(t, "Move", s.Move(7, math.MaxUint32, 0), api.OK)
	has(t, s, at(7, math.MaxUint32, 0))
	is(t, "Move to where it is", s.Move(7, math.MaxUint32, 0), api.OK)
	has(t, s, at(7, math.MaxUint32, 0))
	is(t, "Delete", s.Delete(7), api.OK)
	has(t, s)
	is(t, "Delete again", s.Delete(7), api.ErrNone)
}

func TestP28_3Full(t *testing.T) {
	_, s := fresh(t, small)
	var l []api.Point
	for i := range 892 {
		l = append(l, at(i+1, 5, 5))
	}
	insert(t, s, l...)
	is(t, "Insert into a full one", s.Insert(at(893, 5, 5)), api.ErrFull)
	is(t, "Insert elsewhere", s.Insert(at(893, 99, 5)), api.ErrFull)
	is(t, "Move elsewhere", s.Move(1, 5, 1<<31), api.ErrFull)
	is(t, "Move to no other place", s.Move(9, 5, 5), api.OK)
	is(t, "Insert of one that is there", s.Insert(at(9, 5, 5)), api.ErrTwice)
	has(t, s, l...)
	for id := 1; id <= 4; id++ {
		is(t, "Delete", s.Delete(id), api.OK)
	}
	is(t, "Move elsewhere", s.Move(5, 5, 1<<31), api.OK)
	is(t, "Move of another elsewhere", s.Move(6, 1<<31, 5), api.ErrFull)
	has(t, s, append(l[5:], at(5, 5, 1<<31))...)
}

func TestP28_4Questions(t *testing.T) {
	_, s := fresh(t, api.Geometry{Segments: 32, Size: 32})
	l := spread(60)
	insert(t, s, l...)
	check := func() {
		t.Helper()
		for _, p := range l {
			if got, ok := s.Get(p.Id); !ok || got != p {
				t.Errorf("Get(%d): %v", p.Id, got)
			}
		}
		if p, ok := s.Get(99); ok || p != (api.Point{}) {
			t.Errorf("Get of none: %v", p)
		}
		r := api.Rect{X0: 1 << 30, Y0: 1 << 29, X1: 1 << 31, Y1: 1 << 31}
		var in []api.Point
		for _, p := range l {
			if p.X >= r.X0 && p.X <= r.X1 && p.Y >= r.Y0 && p.Y <= r.Y1 {
				in = append(in, p)
			}
		}
		if !slices.Equal(s.Range(r), in) || s.Count(r) != len(in) || len(in) == 0 {
			t.Errorf("Range: %v, Count: %d", s.Range(r), s.Count(r))
		}
		near := slices.Clone(l)
		slices.SortFunc(near, func(a, b api.Point) int {
			return cmp.Or(wide.Cmp(wide.Between(7, 9, a.X, a.Y), wide.Between(7, 9, b.X, b.Y)), cmp.Compare(a.Id, b.Id))
		})
		if got := s.Near(7, 9, 5); !slices.Equal(got, near[:5]) {
			t.Errorf("Near: %v", got)
		}
		has(t, s, l...)
	}
	check()
	is(t, "Sync", s.Sync(), api.OK)
	check()
}

func TestP28_5Sync(t *testing.T) {
	d, s := fresh(t, small)
	insert(t, s, spread(5)...)
	if s.Map() != ([api.Ids]int{}) {
		t.Error("something is sure ahead of Sync")
	}
	is(t, "Sync", s.Sync(), api.OK)
	if d.Waits() != 0 {
		t.Error("something waits behind Sync")
	}
	m := s.Map()
	g, _ := tree.Build(spread(5))
	if n := len(nmap.Ids(m)); n != len(g.Ids()) {
		t.Errorf("%d nodes are sure, %d are needed", n, len(g.Ids()))
	}
	for _, id := range nmap.Ids(m) {
		if x, e := seglog.Load(d, m[id]); e != api.OK || x.Id != id {
			t.Errorf("node %d is not where it is told: %d", id, e)
		}
	}
	d.Fail(0)
	is(t, "Sync without changes", s.Sync(), api.OK)
	is(t, "the disk, that nobody asked", d.Flush(), api.ErrIO)
	insert(t, s, at(77, 1, 1))
	is(t, "Delete", s.Delete(77), api.OK)
	d.Power(nil)
	d.Power(nil)
	has(t, mount(t, d), spread(5)...)
}

func TestP28_5Example(t *testing.T) {
	d, s := fresh(t, small)
	insert(t, s, at(1, 3, 3))
	d.Power([]int{1, 1, 1, 1, 1})
	has(t, mount(t, d))
	s = mount(t, d)
	insert(t, s, at(1, 3, 3))
	is(t, "Sync", s.Sync(), api.OK)
	insert(t, s, at(2, 3, 3))
	d.Power(nil)
	has(t, mount(t, d), at(1, 3, 3))
}

func TestP28_5Reserve(t *testing.T) {
	d, s := fresh(t, api.Geometry{Segments: 6, Size: 4})
	insert(t, s, at(1, 3, 3))
	syncs := 0
	var e api.Errno
	for range 100 {
		is(t, "Move", s.Move(1, uint32(syncs)+9, 3), api.OK)
		if e = s.Sync(); e != api.OK {
			break
		}
		syncs++
		if s.Free() < 2 {
			t.Fatalf("%d segments are free", s.Free())
		}
	}
	is(t, "the last Sync", e, api.ErrFull)
	if s.Closed() || s.Free() != 2 {
		t.Errorf("behind ErrFull: closed %v, %d free", s.Closed(), s.Free())
	}
	now := s.Points()
	is(t, "Sync again", s.Sync(), api.ErrFull)
	has(t, s, now...)
	is(t, "Checkpoint", s.Checkpoint(), api.OK)
	if s.Free() < 3 {
		t.Errorf("%d free behind a mark", s.Free())
	}
	is(t, "Sync", s.Sync(), api.OK)
	d.Power(nil)
	has(t, mount(t, d), now...)
}

func closes(t *testing.T, what string, f func(s *store.Store) api.Errno) {
	t.Helper()
	for after := range 60 {
		d, s := fresh(t, small)
		insert(t, s, spread(9)...)
		is(t, "Sync", s.Sync(), api.OK)
		insert(t, s, at(99, 1, 1))
		before := s.Points()
		d.Fail(after)
		e := f(s)
		if e == api.OK {
			if after == 0 {
				t.Errorf("%s asks nothing of the disk", what)
			}
			return
		}
		is(t, what, e, api.ErrIO)
		if !s.Closed() {
			t.Fatalf("%s: not closed behind ErrIO", what)
		}
		d.Power([]int{0, 0, 0, 0, 0, 0, 0, 0, 0, 0, 0, 0, 0, 0})
		d.Fail(0)
		_, clean := s.Clean()
		if s.Insert(at(100, 1, 1)) != api.ErrRead || s.Insert(api.Point{}) != api.ErrRead || s.Delete(99) != api.ErrRead || s.Move(99, 1, 1) != api.ErrRead || s.Sync() != api.ErrRead || s.Checkpoint() != api.ErrRead || clean != api.ErrRead {
			t.Fatalf("%s: something is written behind ErrIO", what)
		}
		has(t, s, before...)
		if p, ok := s.Get(99); !ok || p != at(99, 1, 1) || s.Count(plane()) != 10 || len(s.Range(plane())) != 10 || len(s.Near(1, 1, 3)) != 3 {
			t.Fatalf("%s: questions are not answered behind ErrIO", what)
		}
		is(t, "the disk, that nobody asked", d.Flush(), api.ErrIO)
	}
	t.Errorf("%s never ends", what)
}

func TestP28_5ErrorsClose(t *testing.T) {
	closes(t, "Sync", (*store.Store).Sync)
	closes(t, "Checkpoint", (*store.Store).Checkpoint)
	closes(t, "Clean", func(s *store.Store) api.Errno {
		n, e := s.Clean()
		if e != api.OK && n != 0 {
			t.Errorf("Clean: %d beside an error", n)
		}
		return e
	})
}

func TestP28_5Checkpoint(t *testing.T) {
	d, s := fresh(t, small)
	insert(t, s, spread(7)...)
	is(t, "Sync", s.Sync(), api.OK)
	insert(t, s, at(99, 1, 1))
	where := look(t, d).Found.Place
	for i := range 3 {
		is(t, "Checkpoint", s.Checkpoint(), api.OK)
		l := look(t, d)
		if l.Mark.Epoch != 3+i || l.Mark.Map != s.Map() || l.Mark.Place != where || l.Found.Batches != 0 || d.Waits() != 0 {
			t.Errorf("behind Checkpoint: epoch %d, %d batches", l.Mark.Epoch, l.Found.Batches)
		}
		if l.Mark.Ages[0] != 2 {
			t.Errorf("Ages: %v", l.Mark.Ages)
		}
		if s.Free() != len(usage.Free(small, s.Map(), l.Mark.Place)) {
			t.Errorf("Free: %d", s.Free())
		}
	}
	has(t, s, append(spread(7), at(99, 1, 1))...)
	d.Power(nil)
	has(t, mount(t, d), spread(7)...)
}

func TestP28_6Clean(t *testing.T) {
	d, s := fresh(t, small)
	if n, e := s.Clean(); n != 0 || e != api.OK {
		t.Errorf("Clean of nothing: %d, %d", n, e)
	}
	if l := look(t, d); l.Mark.Epoch != 3 {
		t.Errorf("Clean of nothing sets no mark: epoch %d", l.Mark.Epoch)
	}
	insert(t, s, spread(20)...)
	r := rand.New(rand.NewPCG(28, 6))
	moved := 0
	for i := range 60 {
		is(t, "Move", s.Move(1+r.IntN(20), r.Uint32(), r.Uint32()), api.OK)
		if e := s.Sync(); e != api.OK && e != api.ErrFull {
			t.Fatalf("Sync: %d", e)
		}
		if i%3 > 0 {
			continue
		}
		insert(t, s, at(100, 1, 1))
		before, old, epoch, all := s.Points(), s.Map(), look(t, d).Mark.Epoch, len(nmap.Ids(s.Map()))
		n, e := s.Clean()
		is(t, "Clean", e, api.OK)
		now, other := s.Map(), 0
		for id := range now {
			if now[id] != old[id] {
				other++
			}
		}
		if n != other || len(nmap.Ids(now)) != all {
			t.Fatalf("Clean: %d went, %d stand elsewhere", n, other)
		}
		has(t, s, before...)
		l := look(t, d)
		if l.Mark.Epoch != epoch+1 || l.Mark.Map != now || l.Found.Batches != 0 || s.Free() < 2 {
			t.Fatalf("behind Clean: epoch %d, %d free", l.Mark.Epoch, s.Free())
		}
		is(t, "Delete", s.Delete(100), api.OK)
		moved += n
	}
	if moved == 0 {
		t.Error("Clean never moves a node")
	}
}

func TestP28_6Victim(t *testing.T) {
	// Segment 0 has four nodes, segment 5 one; both were written at once.
	build := func(ages map[int]int) *store.Store {
		sector, _ := layout.Address(small, 5, 2)
		d := written(t, five(), func(m *mark.Mark) {
			m.Map[3] = sector
			m.Epoch = 101
			for seg, age := range ages {
				m.Ages[seg] = age
			}
		})
		octets, _ := node.Put(five()[3])
		b, _ := frame.Seal(5, api.Stamp{Epoch: 9, Seq: 9, At: 9}, append([]byte{3}, octets...))
		d.Write(sector, b)
		d.Flush()
		return mount(t, d)
	}
	for _, x := range []struct {
		ages map[int]int
		want []int
	}{{nil, []int{3}}, {map[int]int{5: 100}, []int{1, 2, 255}}, {map[int]int{0: 100}, []int{3}}, {map[int]int{0: 101, 5: 101}, []int{3}}} {
		s := build(x.ages)
		old := s.Map()
		n, e := s.Clean()
		is(t, "Clean", e, api.OK)
		var went []int
		for id, sector := range s.Map() {
			if sector != old[id] {
				went = append(went, id)
			}
		}
		if n != len(x.want) || !slices.Equal(went, x.want) {
			t.Errorf("Ages %v: %v went, want %v", x.ages, went, x.want)
		}
	}
}

func TestP28_7Nobody(t *testing.T) {
	for _, s := range []*store.Store{nil, {}} {
		_, e := s.Clean()
		if s.Insert(at(1, 1, 1)) != api.ErrState || s.Insert(api.Point{}) != api.ErrState || s.Delete(1) != api.ErrState || s.Move(1, 1, 1) != api.ErrState || s.Sync() != api.ErrState || s.Checkpoint() != api.ErrState || e != api.ErrState {
			t.Error("of nobody's: not ErrState")
		}
		p, ok := s.Get(1)
		if ok || p != (api.Point{}) || len(s.Range(plane())) != 0 || s.Count(plane()) != 0 || len(s.Near(1, 1, 5)) != 0 || len(s.Points()) != 0 {
			t.Error("of nobody's: points")
		}
		if !s.Closed() || s.Free() != 0 || s.Map() != ([api.Ids]int{}) {
			t.Error("of nobody's: something")
		}
	}
}

// life is a store, and what may be there if it is mounted again.
type life struct {
	t     *testing.T
	r     *rand.Rand
	d     *disk.Disk
	s     *store.Store
	model map[int]api.Point
	may   [][]api.Point
}

func (w *life) points() []api.Point {
	var l []api.Point
	for _, p := range w.model {
		l = append(l, p)
	}
	return point.Sort(l)
}

func (w *life) update() {
	id := 1 + w.r.IntN(40)
	p := api.Point{Id: id, X: w.r.Uint32(), Y: w.r.Uint32()}
	if w.r.IntN(3) == 0 {
		p.X, p.Y = 7, 7
	}
	old, there := w.model[id]
	var e, want api.Errno
	switch w.r.IntN(3) {
	case 0:
		if e = w.s.Insert(p); there {
			want = api.ErrTwice
		}
	case 1:
		e, p.Data = w.s.Move(id, p.X, p.Y), old.Data
		if !there {
			want = api.ErrNone
		}
	case 2:
		if e = w.s.Delete(id); !there {
			want = api.ErrNone
		}
		p.Id = 0
	}
	if w.s.Closed() {
		want = api.ErrRead
	}
	is(w.t, "an update", e, want)
	if e == api.OK {
		delete(w.model, id)
		if p.Id != 0 {
			w.model[id] = p
		}
	}
}

// quiet does what changes no answer.
func (w *life) quiet() {
	before := w.s.Points()
	var e api.Errno
	switch w.r.IntN(3) {
	case 0:
		if e = w.s.Sync(); e == api.OK {
			w.may = [][]api.Point{w.points()}
		} else if e == api.ErrIO {
			w.may = append(w.may, w.points())
		}
	case 1:
		e = w.s.Checkpoint()
	case 2:
		_, e = w.s.Clean()
	}
	if e != api.OK && e != api.ErrFull && e != api.ErrIO && e != api.ErrRead {
		w.t.Fatalf("quiet work: %d", e)
	}
	has(w.t, w.s, before...)
	has(w.t, w.s, w.points()...)
	if w.s.Free() < 2 && !w.s.Closed() {
		w.t.Fatalf("%d segments are free", w.s.Free())
	}
}

func (w *life) fates() []int {
	var l []int
	for range w.r.IntN(30) {
		l = append(l, []int{0, 1, 1, 2 + w.r.IntN(256)}[w.r.IntN(4)])
	}
	return l
}

// again turns the power on till the store is mounted; now and then it goes meanwhile.
func (w *life) again() {
	for {
		w.d.Power(w.fates())
		if w.r.IntN(2) == 0 {
			w.d.Cut(1+w.r.IntN(9), w.fates())
		}
		s, e := store.Mount(w.d)
		if e == api.OK {
			w.s = s
			break
		}
		is(w.t, "Mount", e, api.ErrIO)
	}
	got := w.s.Points()
	if !slices.ContainsFunc(w.may, func(l []api.Point) bool { return slices.Equal(l, got) }) {
		w.t.Fatalf("mounted: %v, may be: %v", got, w.may)
	}
	w.may = [][]api.Point{got}
	w.model = map[int]api.Point{}
	for _, p := range got {
		w.model[p.Id] = p
	}
	l, e := store.Examine(w.d)
	if e == api.OK && len(l.Nodes.Ids()) > 0 && verify.Check(l.Nodes) != api.OK {
		w.t.Fatal("what is mounted is no tree")
	}
}

func TestP28_8QuietAndSure(t *testing.T) {
	for seed := range uint64(150) {
		r := rand.New(rand.NewPCG(28, seed))
		g := api.Geometry{Segments: 6 + r.IntN(10), Size: 4 + r.IntN(20)}
		d, s := fresh(t, g)
		w := &life{t, r, d, s, map[int]api.Point{}, [][]api.Point{nil}}
		for range 150 {
			switch n := r.IntN(20); {
			case n < 11:
				w.update()
			case n < 16:
				w.quiet()
			case n < 17:
				d.Cut(r.IntN(20), w.fates())
			case n < 18:
				d.Fail(r.IntN(20))
			default:
				w.again()
			}
		}
	}
}

func TestP28_8AnyDisk(t *testing.T) {
	r := rand.New(rand.NewPCG(28, 88))
	mounted := 0
	for range 300 {
		d, s := fresh(t, small)
		insert(t, s, spread(12)...)
		is(t, "Sync", s.Sync(), api.OK)
		if r.IntN(2) == 0 {
			is(t, "Checkpoint", s.Checkpoint(), api.OK)
		}
		insert(t, s, at(99, 1, 1))
		is(t, "Sync", s.Sync(), api.OK)
		var l [][]byte
		for i := range d.Count() {
			b, _ := d.Read(i)
			l = append(l, b)
		}
		for range 1 + r.IntN(3) {
			i := r.IntN(len(l))
			switch r.IntN(3) {
			case 0:
				l[i] = make([]byte, 256)
			case 1:
				l[i][r.IntN(256)] ^= 1 << r.IntN(8)
			case 2:
				l[i] = bytes.Clone(l[r.IntN(len(l))])
			}
		}
		d.Load(l)
		again, e := store.Mount(d)
		if e != api.OK {
			is(t, "Mount of any disk", e, api.ErrCorrupt)
			continue
		}
		mounted++
		g := look(t, d).Nodes
		if len(g.Ids()) > 0 && verify.Check(g) != api.OK || again.Count(plane()) != len(again.Points()) {
			t.Fatal("what is mounted is no tree")
		}
	}
	if mounted == 0 {
		t.Error("no disk is mounted")
	}
}

func TestP28_9Memory(t *testing.T) {
	_, s := fresh(t, small)
	insert(t, s, at(1, 1, 1), at(2, 2, 2))
	s.Points()[0].Id = 9
	s.Range(plane())[0].Id = 9
	s.Near(1, 1, 2)[0].Id = 9
	has(t, s, at(1, 1, 1), at(2, 2, 2))
	is(t, "Sync", s.Sync(), api.OK)
	d := formatted(t, small)
	l := look(t, d)
	l.Nodes.Put(1, api.Node{Leaf: true, Points: []api.Point{at(1, 1, 1)}})
	if len(look(t, d).Nodes.Ids()) != 0 {
		t.Error("two answers share")
	}
}
