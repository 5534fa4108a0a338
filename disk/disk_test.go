package disk_test

import (
	"bytes"
	"math"
	"math/rand/v2"
	"slices"
	"testing"

	"croft/api"
	"croft/disk"
)

func full(x byte) []byte {
	return bytes.Repeat([]byte{x}, 256)
}

func half(k int, x, y byte) []byte {
	return append(bytes.Repeat([]byte{x}, k), bytes.Repeat([]byte{y}, 256-k)...)
}

func write(t *testing.T, d *disk.Disk, at int, x byte) {
	t.Helper()
	if e := d.Write(at, full(x)); e != api.OK {
		t.Fatalf("Write(%d): %d", at, e)
	}
}

func reads(t *testing.T, d *disk.Disk, at int, want []byte) {
	t.Helper()
	if b, e := d.Read(at); e != api.OK || !bytes.Equal(b, want) {
		t.Errorf("Read(%d): %v, %d", at, b, e)
	}
}

func is(t *testing.T, what string, got, want api.Errno) {
	t.Helper()
	if got != want {
		t.Errorf("%s: %d, want %d", what, got, want)
	}
}

func odd(t *testing.T, d *disk.Disk, want ...int) {
	t.Helper()
	if got := d.Odd(); !slices.Equal(got, want) {
		t.Errorf("Odd: %v, want %v", got, want)
	}
}

func TestP14_1New(t *testing.T) {
	for n, want := range map[int]int{0: 0, 1: 1, 33: 33, 4096: 4096, 4097: 4096, math.MaxInt: 4096, -1: 0, math.MinInt: 0} {
		if got := disk.New(n).Count(); got != want {
			t.Errorf("New(%d): %d sectors", n, got)
		}
	}
	d := disk.New(3)
	for at := range 3 {
		reads(t, d, at, full(0))
	}
	odd(t, d)
}

func TestP14_1Errors(t *testing.T) {
	d := disk.New(3)
	for _, at := range []int{-1, 3, math.MinInt, math.MaxInt} {
		b, e := d.Read(at)
		is(t, "Read", e, api.ErrRange)
		if len(b) != 0 {
			t.Error("an answer beside an error")
		}
		is(t, "Write", d.Write(at, full(1)), api.ErrRange)
		is(t, "Write of nothing nowhere", d.Write(at, nil), api.ErrRange)
	}
	for _, b := range [][]byte{nil, {}, full(1)[:255], append(full(1), 1)} {
		is(t, "Write", d.Write(0, b), api.ErrLong)
	}
	if d.Waits() != 0 {
		t.Error("what was refused waits")
	}
}

func TestP14_1Nobody(t *testing.T) {
	for _, d := range []*disk.Disk{nil, {}} {
		d.Cut(0, nil)
		d.Cut(5, []int{1})
		d.Fail(0)
		d.Power(nil)
		d.Load([][]byte{full(1)})
		b, e := d.Read(0)
		is(t, "Read", e, api.ErrState)
		is(t, "Write", d.Write(0, full(1)), api.ErrState)
		is(t, "Flush", d.Flush(), api.ErrState)
		if len(b) != 0 || d.Count() != 0 || d.Waits() != 0 || len(d.Odd()) != 0 {
			t.Error("of nobody's: something")
		}
	}
}

func TestP14_1Waits(t *testing.T) {
	d := disk.New(4)
	write(t, d, 1, 7)
	write(t, d, 1, 8)
	write(t, d, 2, 9)
	if d.Waits() != 3 {
		t.Errorf("Waits: %d", d.Waits())
	}
	reads(t, d, 1, full(8))
	is(t, "Flush", d.Flush(), api.OK)
	if d.Waits() != 0 {
		t.Errorf("Waits behind Flush: %d", d.Waits())
	}
	d.Power(nil)
	reads(t, d, 0, full(0))
	reads(t, d, 1, full(8))
	reads(t, d, 2, full(9))
}

func TestP14_1Fates(t *testing.T) {
	for _, x := range []struct {
		fates []int
		want  []byte
		odd   bool
	}{
		{nil, full(1), false}, {[]int{0}, full(1), false}, {[]int{-1}, full(1), false}, {[]int{math.MinInt}, full(1), false}, {[]int{1}, full(2), false}, {[]int{1, 1, 1, 1}, full(2), false},
		{[]int{2}, full(1), false}, {[]int{3}, half(1, 2, 1), true}, {[]int{2 + 255}, half(255, 2, 1), true}, {[]int{2 + 256}, full(1), false}, {[]int{2 + 256 + 9}, half(9, 2, 1), true},
		{[]int{math.MaxInt}, half((math.MaxInt-2)%256, 2, 1), true},
	} {
		d := disk.New(2)
		write(t, d, 1, 1)
		d.Flush()
		write(t, d, 1, 2)
		d.Power(x.fates)
		reads(t, d, 1, x.want)
		reads(t, d, 0, full(0))
		if x.odd {
			odd(t, d, 1)
		} else {
			odd(t, d)
		}
		if d.Waits() != 0 {
			t.Error("something waits behind Power")
		}
	}
}

func TestP14_1FatesInOrder(t *testing.T) {
	d := disk.New(3)
	write(t, d, 2, 1)
	write(t, d, 0, 2)
	write(t, d, 2, 3)
	write(t, d, 2, 4)
	write(t, d, 1, 5)
	d.Power([]int{2 + 200, 0, 2 + 100, 2 + 50})
	want := slices.Concat(half(50, 4, 3)[:100], half(100, 1, 0)[:100], full(0)[:56])
	reads(t, d, 2, want)
	reads(t, d, 0, full(0))
	reads(t, d, 1, full(0))
	odd(t, d, 2)
}

func TestP14_1Odd(t *testing.T) {
	d := disk.New(5)
	torn := func(at int, x byte, k int) {
		write(t, d, at, x)
		d.Power([]int{2 + k})
	}
	torn(3, 1, 10)
	torn(1, 1, 10)
	odd(t, d, 1, 3)
	torn(1, 0, 10)
	odd(t, d, 3)
	torn(1, 1, 10)
	odd(t, d, 1, 3)
	write(t, d, 1, 9)
	d.Power([]int{0})
	odd(t, d, 1, 3)
	write(t, d, 1, 9)
	d.Power([]int{1})
	odd(t, d, 3)
	write(t, d, 3, 9)
	d.Flush()
	odd(t, d)
	torn(2, 5, 30)
	odd(t, d, 2)
	b := half(40, 5, 0)
	d.Write(2, b)
	d.Power([]int{2 + 40})
	reads(t, d, 2, b)
	odd(t, d)
	torn(0, 5, 30)
	write(t, d, 0, 6)
	d.Cut(0, []int{2 + 3})
	odd(t, d, 0)
	d.Power(nil)
	odd(t, d, 0)
	got := d.Odd()
	got[0] = 77
	odd(t, d, 0)
}

func allOff(t *testing.T, d *disk.Disk) {
	t.Helper()
	_, e := d.Read(0)
	is(t, "Read without power", e, api.ErrIO)
	_, e = d.Read(-1)
	is(t, "Read of no sector without power", e, api.ErrIO)
	is(t, "Write without power", d.Write(0, full(9)), api.ErrIO)
	is(t, "Write of nothing without power", d.Write(-1, nil), api.ErrIO)
	is(t, "Flush without power", d.Flush(), api.ErrIO)
	if d.Waits() != 0 {
		t.Error("something waits without power")
	}
}

func TestP14_1Cut(t *testing.T) {
	for _, after := range []int{0, -1, math.MinInt} {
		d := disk.New(2)
		write(t, d, 0, 1)
		write(t, d, 1, 2)
		d.Cut(after, []int{1})
		allOff(t, d)
		d.Power([]int{1, 1, 1})
		reads(t, d, 0, full(1))
		reads(t, d, 1, full(0))
		is(t, "Flush with power again", d.Flush(), api.OK)
	}
	d := disk.New(3)
	write(t, d, 0, 1)
	fates := []int{0, 1, 2 + 5}
	d.Cut(3, fates)
	fates[1] = 0
	write(t, d, 1, 2)
	d.Read(0)
	is(t, "Write nowhere", d.Write(9, full(1)), api.ErrRange)
	is(t, "Write of nothing", d.Write(0, nil), api.ErrLong)
	write(t, d, 2, 3)
	reads(t, d, 2, full(3))
	write(t, d, 0, 4)
	allOff(t, d)
	d.Power(nil)
	reads(t, d, 0, full(0))
	reads(t, d, 1, full(2))
	reads(t, d, 2, half(5, 3, 0))
	odd(t, d, 2)
	d.Cut(1, nil)
	is(t, "Flush", d.Flush(), api.OK)
	allOff(t, d)
	d.Power(nil)
	d.Cut(1, nil)
	d.Cut(2, nil)
	is(t, "Flush", d.Flush(), api.OK)
	is(t, "Flush", d.Flush(), api.OK)
	allOff(t, d)
}

func TestP14_1FlushAtTheCut(t *testing.T) {
	d := disk.New(1)
	d.Cut(2, []int{0})
	write(t, d, 0, 1)
	is(t, "the last Flush", d.Flush(), api.OK)
	allOff(t, d)
	d.Power(nil)
	reads(t, d, 0, full(1))
}

func TestP14_1PowerForgets(t *testing.T) {
	d := disk.New(1)
	d.Cut(1, nil)
	d.Fail(0)
	d.Power(nil)
	for range 3 {
		write(t, d, 0, 1)
		is(t, "Flush", d.Flush(), api.OK)
	}
}

func TestP14_1Fail(t *testing.T) {
	for _, after := range []int{0, -5, math.MinInt} {
		d := disk.New(1)
		d.Fail(after)
		is(t, "Write that fails", d.Write(0, full(1)), api.ErrIO)
		reads(t, d, 0, full(0))
		if d.Waits() != 0 {
			t.Error("what failed waits")
		}
		write(t, d, 0, 1)
	}
	d := disk.New(1)
	d.Fail(3)
	reads(t, d, 0, full(0))
	write(t, d, 0, 1)
	is(t, "Write nowhere", d.Write(7, full(1)), api.ErrRange)
	is(t, "Flush that fails", d.Flush(), api.ErrIO)
	if d.Waits() != 1 {
		t.Error("a Flush that failed did something")
	}
	is(t, "Flush", d.Flush(), api.OK)
	d.Fail(1)
	is(t, "Flush", d.Flush(), api.OK)
	b, e := d.Read(5)
	is(t, "Read that fails", e, api.ErrIO)
	if len(b) != 0 {
		t.Error("an answer beside an error")
	}
	_, e = d.Read(5)
	is(t, "Read behind", e, api.ErrRange)
}

func TestP14_1FailIsNotDone(t *testing.T) {
	d := disk.New(1)
	d.Cut(2, []int{1})
	d.Fail(1)
	write(t, d, 0, 1)
	is(t, "Write that fails", d.Write(0, full(2)), api.ErrIO)
	reads(t, d, 0, full(1))
	write(t, d, 0, 3)
	allOff(t, d)
	d.Power(nil)
	reads(t, d, 0, full(1))
}

func TestP14_1Load(t *testing.T) {
	d := disk.New(4)
	write(t, d, 3, 9)
	d.Flush()
	write(t, d, 0, 1)
	write(t, d, 1, 1)
	d.Power([]int{2 + 9, 2 + 9})
	write(t, d, 0, 4)
	in := [][]byte{full(5), full(6)[:3], nil}
	d.Load(in)
	if d.Waits() != 0 {
		t.Error("something waits behind Load")
	}
	odd(t, d)
	clear(in[0])
	reads(t, d, 0, full(5))
	reads(t, d, 1, half(3, 6, 0))
	reads(t, d, 2, full(0))
	reads(t, d, 3, full(9))
	d.Power([]int{0})
	reads(t, d, 0, full(5))
	d.Load([][]byte{append(full(1), 2, 2, 2)})
	reads(t, d, 0, full(1))
	d.Load([][]byte{full(2), full(2), full(2), full(2), full(3), full(3)})
	reads(t, d, 3, full(2))
	d.Load(nil)
	reads(t, d, 3, full(2))
	disk.New(0).Load([][]byte{full(1)})
}

func TestP14_2SureLasts(t *testing.T) {
	r := rand.New(rand.NewPCG(14, 2))
	for range 200 {
		d := disk.New(6)
		sure := make([][]byte, 6)
		for at := range 6 {
			sure[at] = full(0)
		}
		for range 20 {
			touched := map[int][]byte{}
			for range r.IntN(5) {
				at, x := r.IntN(3), byte(r.IntN(256))
				write(t, d, at, x)
				touched[at] = full(x)
			}
			if r.IntN(2) == 0 {
				is(t, "Flush", d.Flush(), api.OK)
				for at, b := range touched {
					sure[at] = b
				}
				touched = nil
			}
			fates := []int{r.IntN(600), r.IntN(3), r.IntN(600) - 300}
			if r.IntN(2) == 0 {
				d.Power(fates)
			} else {
				d.Cut(0, fates)
				d.Power(nil)
			}
			for at := range 6 {
				b, e := d.Read(at)
				is(t, "Read", e, api.OK)
				if touched[at] == nil && !bytes.Equal(b, sure[at]) {
					t.Fatalf("sector %d was sure, and is lost", at)
				}
				sure[at] = b
			}
		}
	}
}

func TestP14_3Memory(t *testing.T) {
	d := disk.New(1)
	b := full(1)
	d.Write(0, b)
	clear(b)
	x, _ := d.Read(0)
	clear(x)
	reads(t, d, 0, full(1))
	d.Flush()
	x, _ = d.Read(0)
	clear(x)
	reads(t, d, 0, full(1))
	fates := []int{1}
	d.Power(fates)
	if fates[0] != 1 {
		t.Error("what was handed in is changed")
	}
}
