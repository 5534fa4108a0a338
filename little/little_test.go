package little_test

import (
	"bytes"
	"math"
	"strings"
	"testing"

	"croft/api"
	"croft/little"
)

func done(t *testing.T, w *little.Out, want string) {
	t.Helper()
	b, e := w.Done()
	if e != api.OK || string(b) != want {
		t.Errorf("Done: %q, %d; want %q", b, e, want)
	}
}

func failed(t *testing.T, w *little.Out, want api.Errno) {
	t.Helper()
	b, e := w.Done()
	if e != want || len(b) != 0 {
		t.Errorf("Done: %q, %d; want nothing, %d", b, e, want)
	}
}

func TestP1_1Writes(t *testing.T) {
	w := little.New(9)
	done(t, w, "")
	w.Num(258, 3)
	done(t, w, "\x02\x01\x00")
	w.Text("ab")
	w.Text("")
	w.Pad(4)
	w.Pad(5)
	w.Pad(-3)
	done(t, w, "\x02\x01\x00ab")
	w.Pad(7)
	done(t, w, "\x02\x01\x00ab\x00\x00")
	w.Text("xy")
	done(t, w, "\x02\x01\x00ab\x00\x00xy")
	w.Pad(9)
	w.Text("")
	done(t, w, "\x02\x01\x00ab\x00\x00xy")
	w.Pad(10)
	failed(t, w, api.ErrFull)
}

func TestP1_1Sizes(t *testing.T) {
	w := little.New(100)
	w.Num(255, 0)
	w.Num(254, -7)
	w.Num(1<<48-1, 6)
	w.Num(3, 7)
	w.Num(0, math.MaxInt)
	w.Num(65535, 2)
	done(t, w, "\xff\xfe\xff\xff\xff\xff\xff\xff\x03\x00\x00\x00\x00\x00\x00\x00\x00\x00\x00\x00\xff\xff")
}

func TestP1_1Errors(t *testing.T) {
	for _, x := range []struct{ n, size int }{{-1, 4}, {math.MinInt, 6}, {256, 1}, {256, 0}, {65536, 2}, {1 << 48, 6}, {math.MaxInt, 9}} {
		w := little.New(20)
		w.Num(x.n, x.size)
		failed(t, w, api.ErrRange)
		w.Num(1, 1)
		w.Text(strings.Repeat("x", 30))
		failed(t, w, api.ErrRange)
	}
	w := little.New(2)
	w.Num(1, 3)
	failed(t, w, api.ErrFull)
	w.Num(-1, 1)
	w.Num(1, 1)
	failed(t, w, api.ErrFull)
	w = little.New(2)
	w.Num(-1, 3)
	failed(t, w, api.ErrRange)
	w = little.New(2)
	w.Text("abc")
	failed(t, w, api.ErrFull)
	w = little.New(2)
	w.Pad(math.MaxInt)
	failed(t, w, api.ErrFull)
}

func TestP1_1Room(t *testing.T) {
	for _, room := range []int{0, -1, math.MinInt} {
		w := little.New(room)
		w.Text("")
		done(t, w, "")
		w.Text("a")
		failed(t, w, api.ErrFull)
	}
	for _, room := range []int{1 << 16, 1<<16 + 1, math.MaxInt} {
		w := little.New(room)
		w.Pad(1 << 16)
		done(t, w, strings.Repeat("\x00", 1<<16))
		w.Num(0, 1)
		failed(t, w, api.ErrFull)
	}
}

func TestP1_1Nobody(t *testing.T) {
	for _, w := range []*little.Out{nil, {}, new(little.Out)} {
		w.Num(1, 1)
		w.Num(-1, 1)
		w.Text("a")
		w.Pad(3)
		failed(t, w, api.ErrState)
	}
}

func TestP1_2Reads(t *testing.T) {
	r := little.Open([]byte("\x02\x01\x00abc\x07\xff\xff\xff\xff\xff\xff"))
	if n := r.Left(); n != 13 {
		t.Errorf("Left: %d", n)
	}
	if n := r.Num(3); n != 258 {
		t.Errorf("Num: %d", n)
	}
	if s := r.Text(-5) + r.Text(0) + r.Text(math.MinInt); s != "" {
		t.Errorf("Text of none: %q", s)
	}
	if s := r.Text(3); s != "abc" {
		t.Errorf("Text: %q", s)
	}
	if n := r.Num(-2); n != 7 || r.Left() != 6 {
		t.Errorf("Num: %d, left %d", n, r.Left())
	}
	if n := r.Num(99); n != 1<<48-1 || r.Left() != 0 || r.Err() != api.OK {
		t.Errorf("Num: %d, left %d, %d", n, r.Left(), r.Err())
	}
	if n := r.Num(1); n != 0 || r.Err() != api.ErrSyntax {
		t.Errorf("Num at the end: %d, %d", n, r.Err())
	}
}

func TestP1_2Errors(t *testing.T) {
	for _, f := range []func(*little.In){
		func(r *little.In) { r.Num(4) },
		func(r *little.In) { r.Text(4) },
		func(r *little.In) { r.Text(math.MaxInt) },
		func(r *little.In) { r.Num(6) },
	} {
		r := little.Open([]byte{1, 2, 3})
		f(r)
		if r.Err() != api.ErrSyntax || r.Left() != 0 || r.Num(1) != 0 || r.Text(1) != "" || r.Text(0) != "" || r.Err() != api.ErrSyntax {
			t.Error("reading goes on behind an error")
		}
	}
	for _, b := range [][]byte{nil, {}} {
		r := little.Open(b)
		if r.Err() != api.OK || r.Left() != 0 || r.Text(0) != "" || r.Err() != api.OK {
			t.Error("nothing, opened, is an error")
		}
	}
}

func TestP1_2Nobody(t *testing.T) {
	for _, r := range []*little.In{nil, {}, new(little.In)} {
		if r.Num(1) != 0 || r.Text(1) != "" || r.Text(0) != "" || r.Left() != 0 || r.Err() != api.ErrState {
			t.Error("of nobody's: something")
		}
	}
}

func TestP1_3WrittenIsRead(t *testing.T) {
	for size := 1; size <= 6; size++ {
		for _, n := range []int{0, 1, 127, 128, 255, 1<<(8*size) - 1, 1 << (8*size - 1), 0x123456789abc & (1<<(8*size) - 1)} {
			w := little.New(40)
			w.Num(n, size)
			w.Text("\x00tail\xff")
			w.Num(5, 2)
			b, _ := w.Done()
			r := little.Open(b)
			if got := r.Num(size); got != n {
				t.Errorf("size %d: %d became %d", size, n, got)
			}
			if s := r.Text(6); s != "\x00tail\xff" || r.Num(2) != 5 || r.Left() != 0 || r.Err() != api.OK {
				t.Errorf("size %d: text %q", size, s)
			}
		}
	}
}

func TestP1_4Memory(t *testing.T) {
	w := little.New(10)
	w.Text("abc")
	a, _ := w.Done()
	b, _ := w.Done()
	a[0] = 'x'
	_ = append(a[:1], 'y', 'y')
	if string(b) != "abc" {
		t.Errorf("two answers share: %q", b)
	}
	w.Text("d")
	if c, _ := w.Done(); string(c) != "abcd" {
		t.Errorf("an answer shares with the object: %q", c)
	}
	in := []byte("abc")
	r := little.Open(in)
	in[0] = 'z'
	if s := r.Text(3); s != "abc" || !bytes.Equal(in, []byte("zbc")) {
		t.Errorf("Open keeps what was handed in: %q, %q", s, in)
	}
}
