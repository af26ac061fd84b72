package signer_test

import (
	"crypto/sha256"
	"encoding/binary"
	"slices"
	"strings"
	"testing"

	"plumbob/api"
	"plumbob/logbook"
	"plumbob/sector"
	"plumbob/signer"
	"plumbob/xmss"
)

func two(n int) string { return string([]byte{byte(n >> 8), byte(n)}) }

func disk(t *testing.T, count int) *sector.Disk {
	t.Helper()
	d, e := sector.New(count)
	if e != api.OK {
		t.Fatal(e)
	}
	return d
}

// on: a signer of a seed on the sectors 3 to 10, which are two halves of 4.
func on(t *testing.T, d *sector.Disk, height int) *signer.Signer {
	t.Helper()
	s, e := signer.Open(d, 3, 8, "seed", height)
	if e != api.OK || s == nil {
		t.Fatal(e)
	}
	return s
}

func bookOn(t *testing.T, d *sector.Disk) *logbook.Book {
	t.Helper()
	b, e := logbook.Open(d, 3, 8)
	if e != api.OK {
		t.Fatal(e)
	}
	return b
}

// booked: a disk on whose book are these records.
func booked(t *testing.T, records ...string) *sector.Disk {
	t.Helper()
	d := disk(t, 40)
	b, e := logbook.Open(d, 3, 30)
	if e != api.OK {
		t.Fatal(e)
	}
	for _, s := range records {
		if e := b.Put(s); e != api.OK {
			t.Fatal(e)
		}
	}
	return d
}

func keyOf(t *testing.T, seed string, height int) *xmss.Key {
	t.Helper()
	k, e := xmss.New(seed, height)
	if e != api.OK {
		t.Fatal(e)
	}
	return k
}

// signs a message, and by the index and the key that are wanted.
func signs(t *testing.T, s *signer.Signer, message string, k *xmss.Key, index int) {
	t.Helper()
	x, e := s.Sign(message)
	want, _ := k.Sign(index, message)
	if e != api.OK || !same(x, want) || !s.Public().Verify(message, x) || s.Next() != index+1 {
		t.Fatal(index, x.Index, s.Next(), e)
	}
}

// refuses to sign, and has the next index that it had.
func refuses(t *testing.T, s *signer.Signer, want api.Errno) {
	t.Helper()
	next := s.Next()
	if x, e := s.Sign("refused"); !isZero(x) || e != want || s.Next() != next {
		t.Fatal(x.Index, e, want, next, s.Next())
	}
}

func same(a, b xmss.Sig) bool {
	return a.Index == b.Index && slices.Equal(a.Chains, b.Chains) && slices.Equal(a.Path, b.Path)
}

func isZero(s xmss.Sig) bool { return s.Index == 0 && len(s.Chains) == 0 && len(s.Path) == 0 }

// sectors of a disk, as they lie there.
func sectors(t *testing.T, d *sector.Disk) []string {
	t.Helper()
	var l []string
	for i := range d.Count() {
		s, e := d.Read(i)
		if e != api.OK {
			t.Fatal(e)
		}
		l = append(l, s)
	}
	return l
}

// tagged by the library of Go's own: its first eight bytes.
func tagged(tag byte, l ...string) string {
	b := []byte{tag}
	for _, s := range l {
		b = binary.BigEndian.AppendUint32(b, uint32(len(s)))
		b = append(b, s...)
	}
	d := sha256.Sum256(b)
	return string(d[:8])
}

// lastTurn: a disk whose book has its first half full of these four records, of the last turn that there is.
func lastTurn(t *testing.T, records [4]string) *sector.Disk {
	t.Helper()
	d := disk(t, 20)
	turn := "\xff\xff\xff\xff"
	for i, r := range records {
		s := turn + two(i) + string([]byte{0, 1, byte(len(r))}) + tagged(7, turn, two(i), r) + r
		s += strings.Repeat("\x00", 56-len(s))
		if e := d.Write(3+i, s+tagged(8, s)); e != api.OK {
			t.Fatal(e)
		}
	}
	if e := d.Sync(); e != api.OK {
		t.Fatal(e)
	}
	if b := bookOn(t, d); !slices.Equal(b.Records(), records[:]) || b.Left() != 0 {
		t.Fatal(b.Records(), b.Left())
	}
	return d
}
