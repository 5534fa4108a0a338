package mark_test

import (
	"bytes"
	"math"
	"math/rand/v2"
	"testing"

	"croft/api"
	"croft/frame"
	"croft/mark"
)

func some(r *rand.Rand) mark.Mark {
	m := mark.Mark{Epoch: 1 + r.IntN(1<<32-1), Place: api.Place{Seg: r.IntN(32), Off: r.IntN(33)}}
	m.Place.Next = (m.Place.Seg + 1 + r.IntN(31)) % 32
	for i := range m.Ages {
		m.Ages[i] = r.IntN(1 << 32)
	}
	for i := 1; i < len(m.Map); i++ {
		m.Map[i] = r.IntN(65536)
	}
	return m
}

func sectors(t *testing.T, m mark.Mark) [][]byte {
	t.Helper()
	l, e := mark.Body(m)
	if e != api.OK || len(l) != 3 {
		t.Fatalf("Body: %d sectors, %d", len(l), e)
	}
	h, e := mark.Head(m)
	if e != api.OK {
		t.Fatalf("Head: %d", e)
	}
	return append(l, h)
}

func changed(f func(m *mark.Mark)) mark.Mark {
	m := mark.Mark{Epoch: 7, Place: api.Place{Seg: 2, Off: 3, Next: 4}}
	f(&m)
	return m
}

func TestP13_1Check(t *testing.T) {
	good := []mark.Mark{
		changed(func(m *mark.Mark) {}), changed(func(m *mark.Mark) { m.Epoch = 1 }), changed(func(m *mark.Mark) { m.Epoch = 1<<32 - 1 }),
		changed(func(m *mark.Mark) { m.Place = api.Place{Seg: 31, Off: 32, Next: 0} }), changed(func(m *mark.Mark) { m.Place = api.Place{Seg: 0, Off: 0, Next: 31} }),
		changed(func(m *mark.Mark) { m.Ages[0], m.Ages[31] = 1<<32-1, 1<<32-1 }), changed(func(m *mark.Mark) { m.Map[1], m.Map[255] = 65535, 65535 }),
	}
	for _, m := range good {
		if e := mark.Check(m); e != api.OK {
			t.Errorf("Check(%v): %d", m, e)
		}
	}
	bad := []func(m *mark.Mark){
		func(m *mark.Mark) { m.Epoch = 0 }, func(m *mark.Mark) { m.Epoch = -1 }, func(m *mark.Mark) { m.Epoch = 1 << 32 }, func(m *mark.Mark) { m.Epoch = math.MaxInt },
		func(m *mark.Mark) { m.Place.Seg = -1 }, func(m *mark.Mark) { m.Place.Seg = 32 }, func(m *mark.Mark) { m.Place.Next = -1 }, func(m *mark.Mark) { m.Place.Next = 32 },
		func(m *mark.Mark) { m.Place.Off = -1 }, func(m *mark.Mark) { m.Place.Off = 33 }, func(m *mark.Mark) { m.Place.Seg = 4 },
		func(m *mark.Mark) { m.Ages[0] = -1 }, func(m *mark.Mark) { m.Ages[31] = 1 << 32 }, func(m *mark.Mark) { m.Map[0] = 1 },
		func(m *mark.Mark) { m.Map[1] = -1 }, func(m *mark.Mark) { m.Map[255] = 65536 }, func(m *mark.Mark) { m.Map[9] = math.MinInt }, func(m *mark.Mark) { *m = mark.Mark{} },
	}
	for i, f := range bad {
		m := changed(f)
		if e := mark.Check(m); e != api.ErrRange {
			t.Errorf("Check of %d: %d", i, e)
		}
		if l, e := mark.Body(m); e != api.ErrRange || len(l) != 0 {
			t.Errorf("Body of %d: %d", i, e)
		}
		if b, e := mark.Head(m); e != api.ErrRange || len(b) != 0 {
			t.Errorf("Head of %d: %d", i, e)
		}
	}
}

func TestP13_1Octets(t *testing.T) {
	m := changed(func(m *mark.Mark) {
		m.Ages[0], m.Ages[31] = 258, 1<<32-1
		m.Map[1], m.Map[85], m.Map[86], m.Map[171], m.Map[172], m.Map[255] = 1, 2, 3, 4, 5, 258
	})
	text := [3][]byte{make([]byte, 172), make([]byte, 172), make([]byte, 168)}
	text[0][2], text[0][170], text[1][0], text[1][170], text[2][0], text[2][166], text[2][167] = 1, 2, 3, 4, 5, 2, 1
	l := sectors(t, m)
	for i := range 3 {
		want, _ := frame.Seal(3, api.Stamp{Epoch: 7, At: i}, text[i])
		if !bytes.Equal(l[i], want) {
			t.Errorf("Body, sector %d: %q", i, l[i])
		}
	}
	head := make([]byte, 131)
	copy(head, "\x02\x03\x04\x02\x01")
	copy(head[127:], "\xff\xff\xff\xff")
	want, _ := frame.Seal(2, api.Stamp{Epoch: 7, At: 3}, head)
	if !bytes.Equal(l[3], want) {
		t.Errorf("Head: %q", l[3])
	}
}

func TestP13_1ReadOfNone(t *testing.T) {
	refused := func(why string, l [][]byte) {
		t.Helper()
		if m, e := mark.Read(l); e != api.ErrSyntax || m != (mark.Mark{}) {
			t.Errorf("%s: %d", why, e)
		}
	}
	m := changed(func(m *mark.Mark) {})
	l := sectors(t, m)
	other := sectors(t, changed(func(m *mark.Mark) { m.Epoch = 8 }))
	refused("nothing", nil)
	refused("too few", l[:3])
	refused("too many", append(append([][]byte{}, l...), l[3]))
	refused("nils", make([][]byte, 4))
	refused("the head ahead", [][]byte{l[3], l[0], l[1], l[2]})
	refused("another order", [][]byte{l[1], l[0], l[2], l[3]})
	for i := range l {
		mixed := append([][]byte{}, l...)
		mixed[i] = other[i]
		refused("two epochs", mixed)
		mixed[i] = make([]byte, 256)
		refused("octets 0", mixed)
		mixed[i] = bytes.Clone(l[i])
		mixed[i][40] ^= 1
		refused("a wrong sum", mixed)
	}
	with := func(at, kind int, s api.Stamp, text []byte) [][]byte {
		b, _ := frame.Seal(kind, s, text)
		mixed := append([][]byte{}, l...)
		mixed[at] = b
		return mixed
	}
	head := make([]byte, 131)
	copy(head, "\x02\x03\x04")
	if _, e := mark.Read(with(3, 2, api.Stamp{Epoch: 7, At: 3}, head)); e != api.OK {
		t.Fatalf("Read of a head as told: %d", e)
	}
	refused("a head of a wrong kind", with(3, 3, api.Stamp{Epoch: 7, At: 3}, head))
	refused("a head with Seq", with(3, 2, api.Stamp{Epoch: 7, Seq: 1, At: 3}, head))
	refused("a head at a wrong place", with(3, 2, api.Stamp{Epoch: 7, At: 2}, head))
	refused("a short head", with(3, 2, api.Stamp{Epoch: 7, At: 3}, head[:130]))
	refused("a long head", with(3, 2, api.Stamp{Epoch: 7, At: 3}, append(bytes.Clone(head), 0)))
	refused("Seg that is Next", with(3, 2, api.Stamp{Epoch: 7, At: 3}, append([]byte("\x04"), head[1:]...)))
	refused("Off too great", with(3, 2, api.Stamp{Epoch: 7, At: 3}, append([]byte("\x02\x21"), head[2:]...)))
	refused("a short body", with(2, 3, api.Stamp{Epoch: 7, At: 2}, make([]byte, 166)))
	refused("a long body", with(2, 3, api.Stamp{Epoch: 7, At: 2}, make([]byte, 172)))
	refused("a body with Seq", with(1, 3, api.Stamp{Epoch: 7, Seq: 2, At: 1}, make([]byte, 172)))
	refused("a body of a wrong kind", with(1, 4, api.Stamp{Epoch: 7, At: 1}, make([]byte, 172)))
	refused("node 0 somewhere", with(0, 3, api.Stamp{Epoch: 7}, append([]byte{1}, make([]byte, 171)...)))
}

func TestP13_2ComeBack(t *testing.T) {
	r := rand.New(rand.NewPCG(13, 2))
	for range 100 {
		m := some(r)
		if got, e := mark.Read(sectors(t, m)); e != api.OK || got != m {
			t.Fatalf("%v became %v, %d", m, got, e)
		}
	}
}

func TestP13_3Memory(t *testing.T) {
	m := changed(func(m *mark.Mark) { m.Map[3] = 5 })
	a, b := sectors(t, m), sectors(t, m)
	for i := range a {
		clear(a[i])
	}
	if got, e := mark.Read(b); e != api.OK || got != m {
		t.Error("two answers share")
	}
	b[0], b[1] = b[1], b[0]
	if m.Map[3] != 5 {
		t.Error("what was handed in is changed")
	}
}
