package super_test

import (
	"bytes"
	"math"
	"testing"

	"croft/api"
	"croft/frame"
	"croft/super"
)

func sealed(kind int, s api.Stamp, text string) []byte {
	b, _ := frame.Seal(kind, s, []byte(text))
	return b
}

func TestP12_1Put(t *testing.T) {
	b, e := super.Put(api.Geometry{Segments: 7, Size: 32})
	if e != api.OK || !bytes.Equal(b, sealed(1, api.Stamp{}, "\x07\x20")) {
		t.Errorf("Put: %q, %d", b, e)
	}
	for _, g := range []api.Geometry{{Segments: 5, Size: 4}, {}, {Segments: 33, Size: 4}, {Segments: 6, Size: 3}, {Segments: 6, Size: 33}, {Segments: math.MaxInt, Size: math.MinInt}, {Segments: 6 + 256, Size: 4}} {
		if b, e := super.Put(g); e != api.ErrRange || len(b) != 0 {
			t.Errorf("Put(%v): %q, %d", g, b, e)
		}
	}
}

func TestP12_1ReadOfNone(t *testing.T) {
	good := sealed(1, api.Stamp{}, "\x07\x20")
	for i, b := range [][]byte{
		nil, {}, make([]byte, 256), good[:255], append(bytes.Clone(good), 0),
		sealed(2, api.Stamp{}, "\x07\x20"), sealed(0, api.Stamp{}, "\x07\x20"), sealed(1, api.Stamp{Epoch: 1}, "\x07\x20"), sealed(1, api.Stamp{Seq: 1}, "\x07\x20"), sealed(1, api.Stamp{At: 1}, "\x07\x20"),
		sealed(1, api.Stamp{}, "\x07"), sealed(1, api.Stamp{}, ""), sealed(1, api.Stamp{}, "\x07\x20\x00"),
		sealed(1, api.Stamp{}, "\x05\x04"), sealed(1, api.Stamp{}, "\x21\x04"), sealed(1, api.Stamp{}, "\x06\x03"), sealed(1, api.Stamp{}, "\x06\x21"),
	} {
		if g, e := super.Read(b); e != api.ErrSyntax || g != (api.Geometry{}) {
			t.Errorf("Read of %d: %v, %d", i, g, e)
		}
	}
	for i := range good {
		b := bytes.Clone(good)
		b[i] ^= 4
		if g, e := super.Read(b); e != api.ErrSyntax {
			t.Errorf("Read with octet %d unlike: %v", i, g)
		}
	}
}

func TestP12_2ComeBack(t *testing.T) {
	for segs := 6; segs <= 32; segs++ {
		for size := 4; size <= 32; size++ {
			g := api.Geometry{Segments: segs, Size: size}
			b, e := super.Put(g)
			if e != api.OK || len(b) != 256 {
				t.Fatalf("Put(%v): %d", g, e)
			}
			if got, e := super.Read(b); e != api.OK || got != g {
				t.Errorf("%v became %v, %d", g, got, e)
			}
		}
	}
}

func TestP12_3Memory(t *testing.T) {
	g := api.Geometry{Segments: 7, Size: 32}
	a, _ := super.Put(g)
	b, _ := super.Put(g)
	a[0] = 0
	if _, e := super.Read(b); e != api.OK {
		t.Error("two answers share")
	}
}
