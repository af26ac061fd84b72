package logbook_test

import (
	"crypto/sha256"
	"encoding/binary"
	"slices"
	"strings"
	"testing"

	"plumbob/api"
	"plumbob/logbook"
	"plumbob/sector"
)

// tagged by the library of Go's own: its first eight bytes.
func tagged(tag byte, l ...string) string {
	b := []byte{tag}
	for _, s := range l {
		b = binary.BigEndian.AppendUint32(b, uint32(len(s)))
		b = append(b, s...)
	}
	d := sha256.Sum256(b)
	return string(d[:8])
}

func four(n uint32) string { return string(binary.BigEndian.AppendUint32(nil, n)) }

func two(n int) string { return string(binary.BigEndian.AppendUint16(nil, uint16(n))) }

// part of a record: what its sector has.
type part struct {
	turn           uint32
	number, at, of int
	name, bytes    string
	size           int
	behind         byte // in place of a nought
}

// summed: a sector of what it has ahead of the sum.
func summed(s string) string { return s + tagged(8, s) }

func (p part) sector() string {
	s := four(p.turn) + two(p.number) + string([]byte{byte(p.at), byte(p.of), byte(p.size)}) + p.name + p.bytes
	for len(s) < 56 {
		s += string([]byte{p.behind})
	}
	return summed(s)
}

// partsOf a record by the chapter's words.
func partsOf(turn uint32, number int, s string) []part {
	name := tagged(7, four(turn), two(number), s)
	var l []part
	for first := true; first || s != ""; first = false {
		n := min(len(s), 39)
		l = append(l, part{turn: turn, number: number, at: len(l), name: name, bytes: s[:n], size: n})
		s = s[n:]
	}
	for i := range l {
		l[i].of = len(l)
	}
	return l
}

func sectorsOf(parts ...part) []string {
	var l []string
	for _, p := range parts {
		l = append(l, p.sector())
	}
	return l
}

// halfOf records, of one turn.
func halfOf(turn uint32, records ...string) []string {
	var l []string
	for i, s := range records {
		l = append(l, sectorsOf(partsOf(turn, i, s)...)...)
	}
	return l
}

func disk(t *testing.T, count int) *sector.Disk {
	t.Helper()
	d, e := sector.New(count)
	if e != api.OK {
		t.Fatal(count, e)
	}
	return d
}

// lay sectors on a disk, by hand.
func lay(t *testing.T, d *sector.Disk, at int, sectors []string) {
	t.Helper()
	for i, s := range sectors {
		if e := d.Write(at+i, s); e != api.OK {
			t.Fatal(at+i, e)
		}
	}
	if e := d.Sync(); e != api.OK {
		t.Fatal(e)
	}
}

func open(t *testing.T, d *sector.Disk, first, count int) *logbook.Book {
	t.Helper()
	b, e := logbook.Open(d, first, count)
	if e != api.OK || b == nil {
		t.Fatal(first, count, e)
	}
	return b
}

func put(t *testing.T, b *logbook.Book, l ...string) {
	t.Helper()
	for _, s := range l {
		if e := b.Put(s); e != api.OK {
			t.Fatalf("%.20q: %d", s, e)
		}
	}
}

func compact(t *testing.T, b *logbook.Book, s string) {
	t.Helper()
	if e := b.Compact(s); e != api.OK {
		t.Fatalf("%.20q: %d", s, e)
	}
}

func has(t *testing.T, b *logbook.Book, left int, want ...string) {
	t.Helper()
	if l := b.Records(); !slices.Equal(l, want) || b.Left() != left {
		t.Errorf("%d left, %.60q, want %d, %.60q", b.Left(), l, left, want)
	}
}

// lies: from a sector on the disk has these, and noughts behind them, up to another one.
func lies(t *testing.T, d *sector.Disk, at, end int, want []string) {
	t.Helper()
	for i := at; i < end; i++ {
		w := noughts(64)
		if i-at < len(want) {
			w = want[i-at]
		}
		if s, e := d.Read(i); s != w || e != api.OK {
			t.Errorf("sector %d: %q %d, want %q", i, s, e, w)
		}
	}
}

func noughts(n int) string { return strings.Repeat("\x00", n) }

// text of so many bytes, each another one than the one ahead of it.
func text(n int) string {
	b := make([]byte, n)
	for i := range b {
		b[i] = byte(i*7 + i/256 + n)
	}
	return string(b)
}
