package octet_test

import (
	"math"
	"strings"
	"testing"

	"plumbob/api"
	"plumbob/octet"
)

// written tells what a Writer has, once f wrote to it.
func written(f func(w *octet.Writer)) (string, api.Errno) {
	var w octet.Writer
	f(&w)
	return w.Bytes()
}

func wantBytes(t *testing.T, want string, f func(w *octet.Writer)) {
	t.Helper()
	if s, e := written(f); s != want || e != api.OK {
		t.Errorf("%x %d, want %x", s, e, want)
	}
}

func wantErr(t *testing.T, want api.Errno, f func(w *octet.Writer)) {
	t.Helper()
	if s, e := written(f); s != "" || e != want {
		t.Errorf("%x %d, want the error %d", s, e, want)
	}
}

// P2.1

func TestWriter(t *testing.T) {
	wantBytes(t, "", func(w *octet.Writer) {})
	wantBytes(t, "\x01\x02\x00\x01a", func(w *octet.Writer) { w.Num(258, 2).Text("a") })
	wantBytes(t, "\x00\x01ab\xff\xff", func(w *octet.Writer) { w.Text("a").Fixed("b", 1).Num(65535, 2) })
	wantBytes(t, "\x00\x00", func(w *octet.Writer) { w.Text("") })
	wantBytes(t, "", func(w *octet.Writer) { w.Fixed("", 0) })
	wantBytes(t, "ж\xff\x00", func(w *octet.Writer) { w.Fixed("ж\xff\x00", 4) })
	wantBytes(t, "\x00\x03ж\xff", func(w *octet.Writer) { w.Text("ж\xff") })
	long := strings.Repeat("x", api.MaxText)
	wantBytes(t, "\x10\x00"+long, func(w *octet.Writer) { w.Text(long) })
	wantBytes(t, long+"y", func(w *octet.Writer) { w.Fixed(long+"y", api.MaxText+1) })
}

func TestWriterNum(t *testing.T) {
	n := uint64(0x0102030405060708)
	for size := 1; size <= 8; size++ {
		top := uint64(math.MaxUint64)
		if size < 8 {
			top = 1<<(8*size) - 1
			wantErr(t, api.ErrRange, func(w *octet.Writer) { w.Num(top+1, size) })
			wantErr(t, api.ErrRange, func(w *octet.Writer) { w.Num(math.MaxUint64, size) })
		}
		wantBytes(t, strings.Repeat("\xff", size), func(w *octet.Writer) { w.Num(top, size) })
		wantBytes(t, strings.Repeat("\x00", size), func(w *octet.Writer) { w.Num(0, size) })
		wantBytes(t, "\x01\x02\x03\x04\x05\x06\x07\x08"[:size], func(w *octet.Writer) { w.Num(n>>(64-8*size), size) })
	}
	for _, size := range []int{0, -1, 9, 16, 64, math.MaxInt, math.MinInt} {
		wantErr(t, api.ErrRange, func(w *octet.Writer) { w.Num(0, size) })
		wantErr(t, api.ErrRange, func(w *octet.Writer) { w.Num(1, size) })
	}
}

func TestWriterFixedAndTextErrors(t *testing.T) {
	for _, size := range []int{-1, 0, 1, 3, math.MaxInt, math.MinInt} {
		wantErr(t, api.ErrRange, func(w *octet.Writer) { w.Fixed("ab", size) })
	}
	wantErr(t, api.ErrRange, func(w *octet.Writer) { w.Fixed("", 1) })
	wantErr(t, api.ErrRange, func(w *octet.Writer) { w.Fixed("", -1) })
	wantErr(t, api.ErrRange, func(w *octet.Writer) { w.Fixed("ж", 1) })
	wantErr(t, api.ErrLong, func(w *octet.Writer) { w.Text(strings.Repeat("x", api.MaxText+1)) })
	wantErr(t, api.ErrLong, func(w *octet.Writer) { w.Text(strings.Repeat("x", 1<<16)) })
	wantErr(t, api.ErrLong, func(w *octet.Writer) { w.Text(strings.Repeat("x", 1<<16+1)) })
}

func TestWriterKeepsItsFirstError(t *testing.T) {
	long := strings.Repeat("x", api.MaxText+1)
	wantErr(t, api.ErrRange, func(w *octet.Writer) { w.Num(256, 1).Text(long) })
	wantErr(t, api.ErrRange, func(w *octet.Writer) { w.Fixed("a", 2).Text(long).Num(1, 1) })
	wantErr(t, api.ErrLong, func(w *octet.Writer) { w.Text(long).Num(256, 1) })
	wantErr(t, api.ErrLong, func(w *octet.Writer) { w.Num(1, 1).Text(long).Fixed("a", 2) })
	wantErr(t, api.ErrLong, func(w *octet.Writer) { w.Text(long); w.Bytes(); w.Num(1, 0).Text("a") })
}

func TestWriterIsTheSame(t *testing.T) {
	var w octet.Writer
	if w.Num(1, 1) != &w || w.Text("a") != &w || w.Fixed("b", 1) != &w {
		t.Error("another Writer")
	}
	if w.Num(1, 9) != &w || w.Text("a") != &w || w.Fixed("b", 1) != &w || w.Num(1, 1) != &w {
		t.Error("another Writer, behind an error")
	}
}

func TestWriterGoesOnBehindBytes(t *testing.T) {
	var w octet.Writer
	for i := range 300 {
		s, e := w.Num(uint64(i), 2).Bytes()
		again, _ := w.Bytes()
		if e != api.OK || len(s) != 2*(i+1) || s != again || s[2*i] != byte(i>>8) || s[2*i+1] != byte(i) {
			t.Fatalf("%d: %x %d", i, s, e)
		}
	}
}

func TestWriterOfMuch(t *testing.T) {
	var w octet.Writer
	for i := range 200000 {
		w.Num(uint64(i%251), 1).Fixed("ab", 2)
	}
	s, e := w.Bytes()
	if e != api.OK || len(s) != 600000 || s[:4] != "\x00ab\x01" || s[599996:] != "b\xcbab" {
		t.Error(len(s), e)
	}
}

func TestNilWriter(t *testing.T) {
	var w *octet.Writer
	if w.Num(1, 1) != nil || w.Num(1, 9) != nil || w.Text("a") != nil || w.Text(strings.Repeat("a", 5000)) != nil || w.Fixed("a", 1) != nil || w.Fixed("a", 2) != nil {
		t.Error("not nil")
	}
	if s, e := w.Bytes(); s != "" || e != api.ErrArg {
		t.Error(s, e)
	}
}

// P2.2

func wantEnd(t *testing.T, r *octet.Reader, left int, want api.Errno) {
	t.Helper()
	if r.Left() != left || r.End() != want {
		t.Errorf("Left %d, End %d, want %d, %d", r.Left(), r.End(), left, want)
	}
}

func TestReader(t *testing.T) {
	r := octet.Read("\x01\x02\x00\x01abc\x00\x00\xff")
	wantEnd(t, r, 10, api.ErrLong)
	if n := r.Num(2); n != 258 {
		t.Error(n)
	}
	wantEnd(t, r, 8, api.ErrLong)
	if s := r.Text(); s != "a" {
		t.Error(s)
	}
	wantEnd(t, r, 5, api.ErrLong)
	if s := r.Fixed(0) + r.Fixed(2); s != "bc" {
		t.Error(s)
	}
	if s := r.Text(); s != "" {
		t.Error(s)
	}
	wantEnd(t, r, 1, api.ErrLong)
	if n := r.Num(1); n != 255 {
		t.Error(n)
	}
	wantEnd(t, r, 0, api.OK)
	if s := r.Fixed(0); s != "" {
		t.Error(s)
	}
	wantEnd(t, r, 0, api.OK)
	wantEnd(t, octet.Read(""), 0, api.OK)
}

func TestReaderNum(t *testing.T) {
	all := "\xf1\x02\x03\x04\x05\x06\x07\x08"
	for size := 1; size <= 8; size++ {
		r := octet.Read(all[:size])
		if n := r.Num(size); n != uint64(0xf102030405060708)>>(64-8*size) {
			t.Errorf("%d: %x", size, n)
		}
		wantEnd(t, r, 0, api.OK)
		r = octet.Read(all[:size-1])
		if n := r.Num(size); n != 0 {
			t.Errorf("%d: %x", size, n)
		}
		wantEnd(t, r, size-1, api.ErrShort)
	}
	for _, size := range []int{0, -1, 9, 64, math.MaxInt, math.MinInt} {
		r := octet.Read(strings.Repeat("\x01", 100))
		if n := r.Num(size); n != 0 {
			t.Errorf("%d: %x", size, n)
		}
		if r.End() != api.ErrForm || r.Num(1) != 0 {
			t.Error(size, r.End())
		}
	}
}

func TestReaderFixed(t *testing.T) {
	for _, size := range []int{4, 5, math.MaxInt} {
		r := octet.Read("abc")
		if s := r.Fixed(size); s != "" {
			t.Error(size, s)
		}
		wantEnd(t, r, 3, api.ErrShort)
	}
	for _, size := range []int{-1, -3, math.MinInt} {
		r := octet.Read("abc")
		if s := r.Fixed(size); s != "" {
			t.Error(size, s)
		}
		wantEnd(t, r, 3, api.ErrForm)
	}
	long := strings.Repeat("x", 5000)
	r := octet.Read(long)
	if s := r.Fixed(5000); s != long {
		t.Error(len(s))
	}
	wantEnd(t, r, 0, api.OK)
}

func TestReaderText(t *testing.T) {
	long := strings.Repeat("x", 1<<16)
	for s, want := range map[string]api.Errno{
		"":                           api.ErrShort,
		"\x00":                       api.ErrShort,
		"\xff":                       api.ErrShort,
		"\x00\x01":                   api.ErrShort,
		"\x00\x03ab":                 api.ErrShort,
		"\x10\x00" + long[:4095]:     api.ErrShort,
		"\x10\x01":                   api.ErrForm,
		"\x10\x01" + long[:4097]:     api.ErrForm,
		"\x10\x01" + long[:5000]:     api.ErrForm,
		"\xff\xff":                   api.ErrForm,
		"\xff\xff" + long[:1<<16-1]:  api.ErrForm,
		"\xff\xff" + long:            api.ErrForm,
		"\x80\x00" + long[:1<<15]:    api.ErrForm,
		"\x10\x01" + "\x00\x01a":     api.ErrForm,
		"\x20\x00" + long[:1<<13-1]:  api.ErrForm,
		"\x11\x00\x00\x01a\x00\x01b": api.ErrForm,
	} {
		r := octet.Read(s)
		if got := r.Text(); got != "" || r.End() != want {
			t.Errorf("%.10x (%d bytes): %q %d, want %d", s, len(s), got, r.End(), want)
		}
	}
	r := octet.Read("\x10\x00" + long[:4096] + "\x00\x02\xffb")
	if a, b := r.Text(), r.Text(); a != long[:4096] || b != "\xffb" {
		t.Error(len(a), b)
	}
	wantEnd(t, r, 0, api.OK)
}

// TestReaderStops has something wrong first, and what could be read behind it.
func TestReaderStops(t *testing.T) {
	stop := func(want api.Errno, s string, wrong func(r *octet.Reader)) {
		t.Helper()
		r := octet.Read(s)
		wrong(r)
		left := r.Left()
		if r.Num(1) != 0 || r.Text() != "" || r.Fixed(1) != "" || r.Num(0) != 0 || r.Fixed(-1) != "" || r.Num(8) != 0 || r.Fixed(100) != "" {
			t.Error("something is read")
		}
		wantEnd(t, r, left, want)
	}
	stop(api.ErrShort, "\x01\x01a", func(r *octet.Reader) { r.Num(4) })
	stop(api.ErrShort, "\x01\x01a", func(r *octet.Reader) { r.Fixed(4) })
	stop(api.ErrShort, "\x01\x00\x01a\x01", func(r *octet.Reader) { r.Num(1); r.Text(); r.Num(2) })
	stop(api.ErrShort, "\x00\x09\x00\x01a\x01", func(r *octet.Reader) { r.Text() })
	stop(api.ErrForm, "\x01\x00\x01a\x01\x01\x01\x01\x01\x01", func(r *octet.Reader) { r.Num(9) })
	stop(api.ErrForm, "\x01\x00\x01a", func(r *octet.Reader) { r.Num(0) })
	stop(api.ErrForm, "\x01\x00\x01a", func(r *octet.Reader) { r.Fixed(-1) })
	stop(api.ErrForm, "\x20\x00\x00\x01a", func(r *octet.Reader) { r.Text() })
}

func TestReadersAreTheirOwn(t *testing.T) {
	a, b := octet.Read("ab"), octet.Read("ab")
	a.Fixed(2)
	a.Num(1)
	if b.Left() != 2 || b.Fixed(1) != "a" {
		t.Error("another Reader was read from")
	}
}

func TestNilReader(t *testing.T) {
	var r *octet.Reader
	if r.Num(1) != 0 || r.Num(9) != 0 || r.Text() != "" || r.Fixed(0) != "" || r.Fixed(1) != "" || r.Fixed(-1) != "" || r.Left() != 0 || r.End() != api.ErrArg {
		t.Error("nil")
	}
}

// TestThereAndBack reads what was written.
func TestThereAndBack(t *testing.T) {
	for _, text := range []string{"", "a", "\x00\xff", strings.Repeat("ж", 2048)} {
		for size := 1; size <= 8; size++ {
			n := uint64(math.MaxUint64-5) >> (64 - 8*size)
			s, _ := written(func(w *octet.Writer) { w.Text(text).Num(n, size).Fixed(text, len(text)).Text(text) })
			r := octet.Read(s)
			if r.Text() != text || r.Num(size) != n || r.Fixed(len(text)) != text || r.Text() != text || r.End() != api.OK {
				t.Errorf("%.10q %d", text, size)
			}
		}
	}
}
