package frame_test

import (
	"bytes"
	"hash/crc32"
	"math"
	"math/rand/v2"
	"testing"

	"croft/api"
	"croft/frame"
)

func summed(b []byte) []byte {
	b = bytes.Clone(b[:252])
	n := crc32.ChecksumIEEE(b)
	return append(b, byte(n), byte(n>>8), byte(n>>16), byte(n>>24))
}

func TestP9_1Seal(t *testing.T) {
	b, e := frame.Seal(5, api.Stamp{Epoch: 258, Seq: 1 << 24, At: 772}, []byte("hello"))
	want := make([]byte, 252)
	copy(want, "CR\x05\x02\x01\x00\x00\x00\x00\x00\x01\x04\x03\x05hello")
	if e != api.OK || !bytes.Equal(b, summed(want)) {
		t.Errorf("Seal: %q, %d", b, e)
	}
	if !frame.Sound(b) || !frame.Is(b, 5, api.Stamp{Epoch: 258, Seq: 1 << 24, At: 772}) {
		t.Error("a sealed sector is not sound, or not what it is")
	}
}

func TestP9_1SealErrors(t *testing.T) {
	long := make([]byte, 239)
	for _, x := range []struct {
		kind int
		s    api.Stamp
		text []byte
		want api.Errno
	}{
		{0, api.Stamp{}, nil, api.OK}, {255, api.Stamp{Epoch: 1<<32 - 1, Seq: 1<<32 - 1, At: 65535}, long[:238], api.OK},
		{-1, api.Stamp{}, nil, api.ErrRange}, {256, api.Stamp{}, nil, api.ErrRange}, {math.MaxInt, api.Stamp{}, long, api.ErrRange},
		{1, api.Stamp{Epoch: -1}, nil, api.ErrRange}, {1, api.Stamp{Epoch: 1 << 32}, nil, api.ErrRange},
		{1, api.Stamp{Seq: -1}, nil, api.ErrRange}, {1, api.Stamp{Seq: 1 << 32}, nil, api.ErrRange},
		{1, api.Stamp{At: -1}, nil, api.ErrRange}, {1, api.Stamp{At: 65536}, long, api.ErrRange}, {1, api.Stamp{At: math.MinInt}, nil, api.ErrRange},
		{1, api.Stamp{}, long, api.ErrLong}, {1, api.Stamp{}, make([]byte, 1000), api.ErrLong},
	} {
		b, e := frame.Seal(x.kind, x.s, x.text)
		if e != x.want || e != api.OK && len(b) != 0 || e == api.OK && len(b) != 256 {
			t.Errorf("Seal(%d, %v, %d octets): %d octets, %d", x.kind, x.s, len(x.text), len(b), e)
		}
	}
}

func refused(t *testing.T, why string, b []byte) {
	t.Helper()
	kind, s, text, e := frame.Open(b)
	if e != api.ErrSyntax || kind != 0 || s != (api.Stamp{}) || len(text) != 0 {
		t.Errorf("%s: %d, %v, %q, %d", why, kind, s, text, e)
	}
}

func TestP9_1OpenOfNone(t *testing.T) {
	b, _ := frame.Seal(4, api.Stamp{Epoch: 7, Seq: 8, At: 9}, []byte("text"))
	refused(t, "nil", nil)
	refused(t, "no octets", []byte{})
	refused(t, "too short", b[:255])
	refused(t, "too long", append(bytes.Clone(b), 0))
	refused(t, "octets 0", make([]byte, 256))
	for i := range b {
		c := bytes.Clone(b)
		c[i] ^= 1 << (i % 8)
		refused(t, "an octet is unlike", c)
		if frame.Sound(c) || frame.Is(c, 4, api.Stamp{Epoch: 7, Seq: 8, At: 9}) {
			t.Errorf("octet %d unlike, and sound", i)
		}
	}
	for _, x := range []struct {
		at int
		to byte
	}{{0, 'D'}, {1, 'r'}, {13, 3}, {13, 239}, {13, 255}, {18, 1}, {251, 9}} {
		c := bytes.Clone(b)
		c[x.at] = x.to
		c = summed(c)
		refused(t, "a right sum, but no sector", c)
		if !frame.Sound(c) {
			t.Error("Sound asks for more than octets and sum")
		}
	}
}

func TestP9_1Sound(t *testing.T) {
	b := summed(make([]byte, 252))
	if !frame.Sound(b) {
		t.Error("a right sum is not sound")
	}
	if frame.Sound(nil) || frame.Sound(b[:255]) || frame.Sound(append(bytes.Clone(b), 0)) || frame.Sound(make([]byte, 256)) {
		t.Error("sound without a right sum")
	}
}

func TestP9_1Is(t *testing.T) {
	s := api.Stamp{Epoch: 7, Seq: 8, At: 9}
	b, _ := frame.Seal(4, s, nil)
	if !frame.Is(b, 4, s) || frame.Is(b, 5, s) || frame.Is(b, 4, api.Stamp{Epoch: 8, Seq: 8, At: 9}) || frame.Is(b, 4, api.Stamp{Epoch: 7, Seq: 7, At: 9}) || frame.Is(b, 4, api.Stamp{Epoch: 7, Seq: 8, At: 8}) {
		t.Error("Is")
	}
	if frame.Is(nil, 0, api.Stamp{}) || frame.Is(make([]byte, 256), 0, api.Stamp{}) || frame.Is(b, 4+256, s) {
		t.Error("Is of what is none")
	}
}

func TestP9_2Opened(t *testing.T) {
	r := rand.New(rand.NewPCG(9, 2))
	for range 300 {
		kind, s := r.IntN(256), api.Stamp{Epoch: int(r.Uint32()), Seq: int(r.Uint32()), At: r.IntN(65536)}
		text := make([]byte, r.IntN(239))
		for i := range text {
			text[i] = byte(r.IntN(256))
		}
		b, e := frame.Seal(kind, s, text)
		if e != api.OK || len(b) != 256 {
			t.Fatalf("Seal: %d", e)
		}
		k, stamp, got, e := frame.Open(b)
		if e != api.OK || k != kind || stamp != s || !bytes.Equal(got, text) {
			t.Fatalf("%d, %v, %q became %d, %v, %q", kind, s, text, k, stamp, got)
		}
	}
}

func TestP9_3Memory(t *testing.T) {
	text := []byte("abc")
	b, _ := frame.Seal(1, api.Stamp{}, text)
	text[0] = 'z'
	_, _, x, _ := frame.Open(b)
	_, _, y, _ := frame.Open(b)
	if string(x) != "abc" {
		t.Error("Seal keeps its text")
	}
	x[0] = 'y'
	if string(y) != "abc" || !frame.Sound(b) {
		t.Error("answers share")
	}
}
