package crc_test

import (
	"hash/crc32"
	"math/rand/v2"
	"testing"

	"croft/crc"
)

func TestP2_1Table(t *testing.T) {
	got := crc.Table()
	for i := range uint32(256) {
		n := i
		for range 8 {
			odd := n & 1
			n /= 2
			if odd == 1 {
				n ^= 0xEDB88320
			}
		}
		if got[i] != n {
			t.Errorf("entry %d: %x, want %x", i, got[i], n)
		}
	}
}

func TestP2_1Example(t *testing.T) {
	b := []byte("123456789")
	if n := crc.Of(b); n != 0xCBF43926 {
		t.Errorf("Of: %X", n)
	}
	if n := crc.Sum(crc.Table(), b); n != 0xCBF43926 {
		t.Errorf("Sum: %X", n)
	}
	if n := crc.Of([]byte("12"), nil, []byte("3456"), []byte{}, []byte("789")); n != 0xCBF43926 {
		t.Errorf("Of parts: %X", n)
	}
}

func TestP2_1Nothing(t *testing.T) {
	if crc.Of() != 0 || crc.Of(nil) != 0 || crc.Of(nil, []byte{}) != 0 || crc.Sum(crc.Table(), nil) != 0 {
		t.Error("the sum of nothing is not 0")
	}
}

func TestP2_1AnyTable(t *testing.T) {
	r := rand.New(rand.NewPCG(2, 1))
	for range 50 {
		var table [256]uint32
		for i := range table {
			table[i] = r.Uint32()
		}
		b := make([]byte, r.IntN(40))
		for i := range b {
			b[i] = byte(r.Uint32())
		}
		want := uint32(0xFFFFFFFF)
		for _, x := range b {
			want = table[uint32(x)^want&0xFF] ^ want>>8
		}
		if got := crc.Sum(table, b); got != ^want {
			t.Errorf("Sum by a table of chance: %x, want %x", got, ^want)
		}
	}
}

func TestP2_1Long(t *testing.T) {
	r := rand.New(rand.NewPCG(2, 2))
	for range 50 {
		b := make([]byte, r.IntN(3000))
		for i := range b {
			b[i] = byte(r.Uint32())
		}
		k := r.IntN(len(b) + 1)
		if got, want := crc.Of(b[:k], b[k:]), crc32.ChecksumIEEE(b); got != want {
			t.Errorf("Of: %x, want %x", got, want)
		}
	}
}

func TestP2_2Memory(t *testing.T) {
	b := []byte("abc")
	table := crc.Table()
	crc.Of(b, b)
	crc.Sum(table, b)
	if string(b) != "abc" || table != crc.Table() {
		t.Error("what was handed in is changed")
	}
}
