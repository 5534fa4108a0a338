package seglog_test

import (
	"bytes"
	"math"
	"math/rand/v2"
	"testing"

	"croft/api"
	"croft/batch"
	"croft/disk"
	"croft/frame"
	"croft/node"
	"croft/seglog"
)

func entries(l ...int) []api.Entry {
	var all []api.Entry
	for i := 0; i < len(l); i += 2 {
		all = append(all, api.Entry{Kind: l[i], Id: l[i+1]})
	}
	return all
}

func leaf(ids ...int) api.Node {
	n := api.Node{Leaf: true}
	for _, id := range ids {
		n.Points = append(n.Points, api.Point{Id: id, Data: "data"})
	}
	return n
}

func other() api.Node {
	return api.Node{Kids: [4]int{0, 3}, Counts: [4]int{0, 9}}
}

func items() []seglog.Item {
	return []seglog.Item{{Id: 7, Node: leaf(1, 2)}, {Id: 8, Node: other()}, {Id: 7, Node: leaf(5)}, {Id: 255, Node: leaf()}, {Id: 9, Node: api.Node{Next: 4}}}
}

func some() batch.Summary {
	return batch.Summary{Next: 3, Last: true, Entries: entries(1, 8, 2, 4, 1, 7)}
}

func sectors(t *testing.T, s batch.Summary, epoch, seq int) [][]byte {
	t.Helper()
	l, e := seglog.Sectors(s, epoch, seq, items())
	if e != api.OK {
		t.Fatalf("Sectors: %d", e)
	}
	return l
}

func TestP19_1Sectors(t *testing.T) {
	l := sectors(t, some(), 6, 5)
	if len(l) != 3 {
		t.Fatalf("Sectors: %d", len(l))
	}
	text, _ := batch.Put(some())
	want, _ := frame.Seal(4, api.Stamp{Epoch: 6, Seq: 5}, text)
	if !bytes.Equal(l[0], want) {
		t.Errorf("the summary's sector: %q", l[0])
	}
	for i, id := range []int{8, 7} {
		n := map[int]api.Node{8: other(), 7: leaf(1, 2)}[id]
		octets, _ := node.Put(n)
		want, _ := frame.Seal(5, api.Stamp{Epoch: 6, Seq: 5, At: i + 1}, append([]byte{byte(id)}, octets...))
		if !bytes.Equal(l[i+1], want) {
			t.Errorf("the sector of node %d: %q", id, l[i+1])
		}
		if x, e := seglog.Node(l[i+1]); e != api.OK || x.Id != id || !node.Same(x.Node, n) {
			t.Errorf("Node: %v, %d", x, e)
		}
	}
	if l := sectors(t, batch.Summary{}, 0, 0); len(l) != 1 {
		t.Errorf("Sectors of nothing: %d", len(l))
	}
	if l := sectors(t, batch.Summary{Entries: entries(1, 255, 1, 255)}, 1<<32-1, 1<<32-1); len(l) != 3 {
		t.Errorf("Sectors at the limits: %d", len(l))
	}
}

func TestP19_1SectorsErrors(t *testing.T) {
	for i, x := range []struct {
		s          batch.Summary
		epoch, seq int
		want       api.Errno
	}{
		{batch.Summary{Next: -1, Entries: entries(1, 99)}, -1, 0, api.ErrRange}, {batch.Summary{Entries: make([]api.Entry, 65)}, -1, 0, api.ErrCount}, {batch.Summary{Entries: entries(1, 99, 3, 1)}, 0, 0, api.ErrKind},
		{batch.Summary{Entries: entries(2, 4, 1, 99, 1, 9)}, -1, 0, api.ErrNone}, {batch.Summary{Entries: entries(1, 9, 1, 99)}, -1, 0, api.ErrState},
		{batch.Summary{Entries: entries(1, 7, 1, 99)}, -1, 0, api.ErrRange}, {batch.Summary{Entries: entries(1, 7, 1, 9)}, 1, 1 << 32, api.ErrRange}, {batch.Summary{Entries: entries(1, 7, 1, 9)}, 1, 1, api.ErrState},
		{batch.Summary{Entries: entries(2, 99)}, 1 << 32, 0, api.ErrRange}, {batch.Summary{}, 0, -1, api.ErrRange}, {batch.Summary{}, math.MinInt, math.MaxInt, api.ErrRange}, {batch.Summary{Entries: entries(2, 99)}, 1, 1, api.OK},
	} {
		l, e := seglog.Sectors(x.s, x.epoch, x.seq, items())
		if e != x.want || e != api.OK && len(l) != 0 {
			t.Errorf("%d: %d sectors, %d; want %d", i, len(l), e, x.want)
		}
	}
	if l, e := seglog.Sectors(some(), 1, 1, nil); e != api.ErrNone || len(l) != 0 {
		t.Errorf("without items: %d", e)
	}
}

func TestP19_1NodeOfNone(t *testing.T) {
	sealed := func(kind int, text string) []byte {
		b, _ := frame.Seal(kind, api.Stamp{Epoch: 1, Seq: 2, At: 3}, []byte(text))
		return b
	}
	if x, e := seglog.Node(sealed(5, "\x07\x01\x00\x00")); e != api.OK || x.Id != 7 || !node.Same(x.Node, leaf()) {
		t.Fatalf("Node: %v, %d", x, e)
	}
	good := sealed(5, "\x07\x01\x00\x00")
	for i, b := range [][]byte{nil, {}, make([]byte, 256), good[:255], append(bytes.Clone(good), 0), sealed(4, "\x07\x01\x00\x00"), sealed(0, "\x07\x01\x00\x00"), sealed(5, ""), sealed(5, "\x07"), sealed(5, "\x07\x01\x00"), sealed(5, "\x07\x01\x00\x00\x00"), sealed(5, "\x07\x02\x00\x00")} {
		if x, e := seglog.Node(b); e != api.ErrCorrupt || x.Id != 0 || !node.Same(x.Node, api.Node{}) {
			t.Errorf("Node of %d: %v, %d", i, x, e)
		}
	}
}

func TestP19_1Load(t *testing.T) {
	d := disk.New(12)
	l := sectors(t, some(), 6, 5)
	if e := seglog.Write(d, 3, l); e != api.OK {
		t.Fatalf("Write: %d", e)
	}
	for i, b := range l {
		if got, _ := d.Read(3 + i); !bytes.Equal(got, b) {
			t.Errorf("Write: sector %d", i)
		}
	}
	if x, e := seglog.Load(d, 5); e != api.OK || x.Id != 7 || !node.Same(x.Node, leaf(1, 2)) {
		t.Errorf("Load: %v, %d", x, e)
	}
	for at, want := range map[int]api.Errno{3: api.ErrCorrupt, 0: api.ErrCorrupt, 12: api.ErrRange, -1: api.ErrRange, math.MaxInt: api.ErrRange} {
		if x, e := seglog.Load(d, at); e != want || x.Id != 0 {
			t.Errorf("Load(%d): %d", at, e)
		}
	}
	if _, e := seglog.Load(nil, 0); e != api.ErrState {
		t.Errorf("Load of nil: %d", e)
	}
	d.Fail(0)
	if _, e := seglog.Load(d, 5); e != api.ErrIO {
		t.Errorf("Load that fails: %d", e)
	}
}

func TestP19_1Write(t *testing.T) {
	l := sectors(t, some(), 6, 5)
	d := disk.New(12)
	d.Fail(1)
	if e := seglog.Write(d, 3, l); e != api.ErrIO || d.Waits() != 1 {
		t.Errorf("Write that fails: %d, %d wait", e, d.Waits())
	}
	d = disk.New(12)
	if e := seglog.Write(d, 10, l); e != api.ErrRange || d.Waits() != 2 {
		t.Errorf("Write over the end: %d, %d wait", e, d.Waits())
	}
	d = disk.New(12)
	if e := seglog.Write(d, 3, [][]byte{l[0], nil, l[2]}); e != api.ErrLong || d.Waits() != 1 {
		t.Errorf("Write of no sector: %d, %d wait", e, d.Waits())
	}
	if e := seglog.Write(d, math.MaxInt, l); e != api.ErrRange {
		t.Errorf("Write far away: %d", e)
	}
	if e := seglog.Write(d, 3, nil); e != api.OK {
		t.Errorf("Write of nothing: %d", e)
	}
	if e := seglog.Write(nil, 3, l); e != api.ErrState {
		t.Errorf("Write to nil: %d", e)
	}
}

func noBatch(t *testing.T, why string, d *disk.Disk, at, left, epoch, seq int, want api.Errno) {
	t.Helper()
	s, ok, e := seglog.Batch(d, at, left, epoch, seq)
	if ok || e != want || !batch.Same(s, batch.Summary{}) {
		t.Errorf("%s: %v, %v, %d", why, s, ok, e)
	}
}

func TestP19_1Batch(t *testing.T) {
	d := disk.New(6)
	noBatch(t, "of an empty disk", d, 0, 6, 6, 5, api.OK)
	seglog.Write(d, 2, sectors(t, some(), 6, 5))
	for _, left := range []int{3, 4, math.MaxInt} {
		if s, ok, e := seglog.Batch(d, 2, left, 6, 5); !ok || e != api.OK || !batch.Same(s, some()) {
			t.Errorf("Batch: %v, %v, %d", s, ok, e)
		}
	}
	noBatch(t, "too few left", d, 2, 2, 6, 5, api.OK)
	noBatch(t, "none left", d, 2, 0, 6, 5, api.OK)
	noBatch(t, "less than none left", d, 2, math.MinInt, 6, 5, api.OK)
	noBatch(t, "another epoch", d, 2, 4, 7, 5, api.OK)
	noBatch(t, "another Seq", d, 2, 4, 6, 4, api.OK)
	noBatch(t, "numbers of any size", d, 2, 4, math.MinInt, math.MaxInt, api.OK)
	noBatch(t, "a node's sector", d, 3, 4, 6, 5, api.OK)
	noBatch(t, "nowhere", d, 6, 4, 6, 5, api.ErrRange)
	noBatch(t, "nowhere", d, -1, 4, 6, 5, api.ErrRange)
	noBatch(t, "nil", nil, 2, 4, 6, 5, api.ErrState)
	for i := range 3 {
		d.Fail(i)
		noBatch(t, "a disk that fails", d, 2, 4, 6, 5, api.ErrIO)
	}
	d = disk.New(4)
	seglog.Write(d, 2, sectors(t, some(), 6, 5)[:2])
	noBatch(t, "over the end of the disk", d, 2, 3, 6, 5, api.ErrRange)
}

func TestP19_1BatchOfGoneAlone(t *testing.T) {
	d := disk.New(3)
	s := batch.Summary{Next: 1, Entries: entries(2, 4, 2, 5)}
	seglog.Write(d, 2, sectors(t, s, 1, 0))
	if got, ok, e := seglog.Batch(d, 2, 1, 1, 0); !ok || e != api.OK || !batch.Same(got, s) {
		t.Errorf("Batch: %v, %v, %d", got, ok, e)
	}
}

func TestP19_1BatchWithAWrongSector(t *testing.T) {
	good := sectors(t, some(), 6, 5)
	with := func(why string, at int, b []byte) {
		t.Helper()
		d := disk.New(6)
		seglog.Write(d, 2, good)
		d.Write(2+at, b)
		noBatch(t, why, d, 2, 4, 6, 5, api.OK)
	}
	sealed := func(kind int, s api.Stamp, text string) []byte {
		b, _ := frame.Seal(kind, s, []byte(text))
		return b
	}
	d := disk.New(6)
	seglog.Write(d, 2, good)
	d.Write(4, sealed(5, api.Stamp{Epoch: 6, Seq: 5, At: 2}, "\x07\x01\x00\x00"))
	if _, ok, _ := seglog.Batch(d, 2, 4, 6, 5); !ok {
		t.Error("another node of that Id is not of the batch")
	}
	for at := range 3 {
		with("octets 0", at, make([]byte, 256))
		torn := bytes.Clone(good[at])
		torn[20] ^= 1
		with("a wrong sum", at, torn)
		with("an older one", at, sectors(t, some(), 6, 4)[at])
		with("one of another epoch", at, sectors(t, some(), 5, 5)[at])
	}
	with("another Id", 2, sealed(5, api.Stamp{Epoch: 6, Seq: 5, At: 2}, "\x08\x01\x00\x00"))
	with("another place", 2, sealed(5, api.Stamp{Epoch: 6, Seq: 5, At: 1}, "\x07\x01\x00\x00"))
	with("another kind", 2, sealed(4, api.Stamp{Epoch: 6, Seq: 5, At: 2}, "\x07\x01\x00\x00"))
	with("no node", 2, sealed(5, api.Stamp{Epoch: 6, Seq: 5, At: 2}, "\x07\x01\x00"))
	text, _ := batch.Put(some())
	with("a summary of another kind", 0, sealed(5, api.Stamp{Epoch: 6, Seq: 5}, string(text)))
	with("a summary at another place", 0, sealed(4, api.Stamp{Epoch: 6, Seq: 5, At: 1}, string(text)))
	with("no summary", 0, sealed(4, api.Stamp{Epoch: 6, Seq: 5}, string(text)+"x"))
}

func TestP19_2Written(t *testing.T) {
	r := rand.New(rand.NewPCG(19, 2))
	for range 100 {
		s := batch.Summary{Next: r.IntN(32), Last: r.IntN(2) == 0}
		var l []seglog.Item
		for range r.IntN(30) {
			id := 1 + r.IntN(255)
			s.Entries = append(s.Entries, api.Entry{Kind: 1 + r.IntN(2), Id: id})
			l = append(l, seglog.Item{Id: id, Node: leaf(1+r.IntN(9), 10+r.IntN(9))})
		}
		epoch, seq := int(r.Uint32()), int(r.Uint32())
		sectors, e := seglog.Sectors(s, epoch, seq, l)
		if e != api.OK || len(sectors) != 1+batch.Written(s) {
			t.Fatalf("Sectors: %d, %d", len(sectors), e)
		}
		d := disk.New(50)
		at := r.IntN(20)
		if e := seglog.Write(d, at, sectors); e != api.OK {
			t.Fatalf("Write: %d", e)
		}
		if got, ok, e := seglog.Batch(d, at, len(sectors), epoch, seq); !ok || e != api.OK || !batch.Same(got, s) {
			t.Fatalf("what was written is no batch: %v, %d", ok, e)
		}
	}
}

func TestP19_3Memory(t *testing.T) {
	l := items()
	a, _ := seglog.Sectors(some(), 6, 5, l)
	b, _ := seglog.Sectors(some(), 6, 5, l)
	clear(a[1])
	clear(a[0])
	x, _ := seglog.Node(b[2])
	y, _ := seglog.Node(b[2])
	x.Node.Points[0].Id = 99
	if y.Node.Points[0].Id != 1 || l[0].Node.Points[0].Id != 1 {
		t.Error("answers share")
	}
	d := disk.New(9)
	seglog.Write(d, 0, b)
	clear(b[0])
	s, ok, _ := seglog.Batch(d, 0, 9, 6, 5)
	if !ok {
		t.Fatal("Write keeps what was handed in")
	}
	s.Entries[0].Id = 99
	if s, _, _ := seglog.Batch(d, 0, 9, 6, 5); s.Entries[0].Id != 8 {
		t.Error("answers of Batch share")
	}
}
