// Package octet is layer 2: see shared/doc/02-octet.md.
package octet

import "plumbob/api"

const (
	maxNum     = 8 // bytes of the greatest number
	lengthSize = 2 // bytes of a text's length
)

// Writer of numbers and texts.
type Writer struct {
	last *piece
	size int // of all pieces
	err  api.Errno
}

// A piece is never changed: what is written to a copy of a Writer leaves the
// Writer as it is, which pieces in one list with spare room wouldn't grant.
type piece struct {
	ahead *piece
	text  string
}

// Num in so many bytes.
func (w *Writer) Num(n uint64, size int) *Writer {
	if !numMayBe(size) || n>>(8*(size-1)) > 0xFF {
		return w.fail(api.ErrRange)
	}
	return w.put(number(n, size))
}

// Text with its length ahead.
func (w *Writer) Text(s string) *Writer {
	if len(s) > api.MaxText {
		return w.fail(api.ErrLong)
	}
	return w.put(number(uint64(len(s)), lengthSize)).put(s)
}

// Fixed text, of so many bytes.
func (w *Writer) Fixed(s string, size int) *Writer {
	if len(s) != size {
		return w.fail(api.ErrRange)
	}
	return w.put(s)
}

// Bytes of what was written.
func (w *Writer) Bytes() (string, api.Errno) {
	if w == nil {
		return "", api.ErrArg
	}
	if w.err != api.OK {
		return "", w.err
	}
	all := make([]byte, w.size)
	end := w.size
	for p := w.last; p != nil; p = p.ahead {
		end -= len(p.text)
		copy(all[end:], p.text)
	}
	return string(all), api.OK
}

func (w *Writer) put(s string) *Writer {
	if w != nil && w.err == api.OK {
		w.last = &piece{ahead: w.last, text: s}
		w.size += len(s)
	}
	return w
}

// fail keeps the first error alone.
func (w *Writer) fail(e api.Errno) *Writer {
	if w != nil && w.err == api.OK {
		w.err = e
	}
	return w
}

// Reader of numbers and texts.
type Reader struct {
	rest string // what wasn't read
	err  api.Errno
}

// Read a text.
func Read(s string) *Reader { return &Reader{rest: s} }

// Num of so many bytes.
func (r *Reader) Num(size int) uint64 {
	if !numMayBe(size) {
		r.fail(api.ErrForm)
		return 0
	}
	s := r.Fixed(size)
	n := uint64(0)
	for i := range len(s) {
		n = n<<8 | uint64(s[i])
	}
	return n
}

// Text with its length ahead.
func (r *Reader) Text() string {
	size := r.Num(lengthSize)
	if size > api.MaxText {
		r.fail(api.ErrForm)
		return ""
	}
	return r.Fixed(int(size))
}

// Fixed text, of so many bytes.
func (r *Reader) Fixed(size int) string {
	if r == nil || r.err != api.OK {
		return ""
	}
	if size < 0 {
		r.fail(api.ErrForm)
		return ""
	}
	if size > len(r.rest) {
		r.fail(api.ErrShort)
		return ""
	}
	s := r.rest[:size]
	r.rest = r.rest[size:]
	return s
}

// Left: how many bytes.
func (r *Reader) Left() int {
	if r == nil {
		return 0
	}
	return len(r.rest)
}

// End: was all there, and no more?
func (r *Reader) End() api.Errno {
	if r == nil {
		return api.ErrArg
	}
	if r.err == api.OK && r.rest != "" {
		return api.ErrLong
	}
	return r.err
}

// fail keeps the first error alone.
func (r *Reader) fail(e api.Errno) {
	if r != nil && r.err == api.OK {
		r.err = e
	}
}

func numMayBe(size int) bool {
	return size >= 1 && size <= maxNum
}

// number in so many bytes, the highest first.
func number(n uint64, size int) string {
	b := make([]byte, size)
	for i := range size {
		b[size-1-i] = byte(n >> (8 * i))
	}
	return string(b)
}
