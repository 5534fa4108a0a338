// Package little tells numbers and texts as octets, the lowest octet first, and reads them again.
package little

import (
	"slices"

	"croft/api"
)

const (
	maxRoom = 1 << 16
	maxSize = 6
)

// Out takes what is written, up to its room.
type Out struct {
	made bool
	room int
	all  []byte
	err  api.Errno
}

// In is read from its beginning to its end.
type In struct {
	made bool
	rest []byte
	err  api.Errno
}

// New makes an Out with that many octets of room.
func New(room int) *Out {
	return &Out{made: true, room: nearest(room, 0, maxRoom)}
}

// Num writes n in size octets.
func (w *Out) Num(n int, size int) {
	size = nearest(size, 1, maxSize)
	if n < 0 || n>>(8*size) != 0 {
		w.fail(api.ErrRange)
		return
	}
	b, ok := w.lend(size)
	if !ok {
		return
	}
	for i := range size {
		b[i] = byte(n >> (8 * i))
	}
}

// Text writes the octets of s.
func (w *Out) Text(s string) {
	if b, ok := w.lend(len(s)); ok {
		copy(b, s)
	}
}

// Pad writes octets 0, up to size of all.
func (w *Out) Pad(size int) {
	if w != nil && size > len(w.all) {
		w.lend(size - len(w.all))
	}
}

// Done answers all that was written, or the first error.
func (w *Out) Done() ([]byte, api.Errno) {
	if w == nil || !w.made {
		return nil, api.ErrState
	}
	if w.err != api.OK {
		return nil, w.err
	}
	return slices.Clone(w.all), api.OK
}

func (w *Out) fail(e api.Errno) {
	if w != nil && w.err == api.OK {
		w.err = e
	}
}

// lend hands out the next size octets, all 0, closed behind so that no writer reaches past its own.
func (w *Out) lend(size int) ([]byte, bool) {
	if w == nil || !w.made || w.err != api.OK {
		return nil, false
	}
	at := len(w.all)
	if size > w.room-at {
		w.fail(api.ErrFull)
		return nil, false
	}
	w.all = append(w.all, make([]byte, size)...)
	return w.all[at : at+size : at+size], true
}

// Open reads a copy of b.
func Open(b []byte) *In {
	return &In{made: true, rest: slices.Clone(b)}
}

// Num reads the number in the next size octets.
func (r *In) Num(size int) int {
	size = nearest(size, 1, maxSize)
	b, ok := r.take(size)
	if !ok {
		return 0
	}
	n := 0
	for i := range size {
		n |= int(b[i]) << (8 * i)
	}
	return n
}

// Text reads the next size octets.
func (r *In) Text(size int) string {
	b, _ := r.take(max(size, 0))
	return string(b)
}

// Left tells how many octets were not read yet.
func (r *In) Left() int {
	if r == nil {
		return 0
	}
	return len(r.rest)
}

// Err tells the first error.
func (r *In) Err() api.Errno {
	if r == nil || !r.made {
		return api.ErrState
	}
	return r.err
}

// take hands out the next size octets, closed behind like those of lend; too few end all reading.
func (r *In) take(size int) ([]byte, bool) {
	if r == nil || !r.made || r.err != api.OK {
		return nil, false
	}
	if size > len(r.rest) {
		r.err, r.rest = api.ErrSyntax, nil
		return nil, false
	}
	b := r.rest[:size:size]
	r.rest = r.rest[size:]
	return b, true
}

func nearest(n, low, high int) int {
	return min(max(n, low), high)
}
