package signer_test

import (
	"math"
	"slices"
	"strings"
	"testing"

	"plumbob/api"
	"plumbob/logbook"
	"plumbob/sector"
	"plumbob/signer"
	"plumbob/xmss"
)

var wrongHeights = []int{-1, -2, -64, math.MinInt, 7, 8, 32, 64, 256, math.MaxInt}

func opensNone(t *testing.T, d *sector.Disk, first, count, height int, want api.Errno) {
	t.Helper()
	if s, e := signer.Open(d, first, count, "seed", height); s != nil || e != want {
		t.Error(first, count, height, e, want)
	}
}

// P11.1

func TestOpen(t *testing.T) {
	for height := 0; height <= api.MaxHeight; height++ {
		s := on(t, disk(t, 20), height)
		if s.Public() != keyOf(t, "seed", height).Public() || s.Next() != 0 {
			t.Error(height, s.Next())
		}
	}
	for _, seed := range []string{"", "a", "\x00", "\xff\xfe", strings.Repeat("long", 300)} {
		s, e := signer.Open(disk(t, 8), 0, 8, seed, 1)
		if e != api.OK || s.Public() != keyOf(t, seed, 1).Public() || s.Next() != 0 {
			t.Errorf("%.10q: %d", seed, e)
		}
	}
}

func TestOpenOfNoHeight(t *testing.T) {
	d, off := disk(t, 20), disk(t, 20)
	off.Cut()
	for _, height := range wrongHeights {
		opensNone(t, d, 3, 8, height, api.ErrArg)
		opensNone(t, off, 3, 8, height, api.ErrArg) // ahead of ErrPower
		opensNone(t, nil, 3, 8, height, api.ErrArg)
		opensNone(t, booked(t, "abc"), 3, 30, height, api.ErrArg) // ahead of ErrForm
	}
	on(t, d, 0)
	on(t, d, 6)
}

func TestOpenWhereNoBookMayBe(t *testing.T) {
	d, off := disk(t, 20), disk(t, 20)
	off.Cut()
	for _, x := range [][2]int{{0, 7}, {0, 0}, {0, -1}, {-1, 8}, {-8, 8}, {0, 21}, {13, 8}, {20, 8}, {math.MaxInt, 8}, {math.MinInt, 8}, {0, math.MaxInt}, {math.MaxInt, math.MaxInt}, {0, math.MinInt}} {
		opensNone(t, d, x[0], x[1], 2, api.ErrArg)
		opensNone(t, off, x[0], x[1], 2, api.ErrArg)
	}
	opensNone(t, nil, 0, 8, 2, api.ErrArg)
	opensNone(t, off, 0, 8, 2, api.ErrPower)
	opensNone(t, off, 12, 8, 0, api.ErrPower)
	off.Start()
	if _, e := signer.Open(off, 12, 8, "seed", 2); e != api.OK {
		t.Error(e)
	}
}

func TestOpenOfABookThatIsNoSigners(t *testing.T) {
	for _, last := range []string{"", "\x00", "\x01", "abc", "\x00\x00\x00", "\x00\x00\x00\x01", strings.Repeat("x", 39), strings.Repeat("x", 258)} {
		for _, records := range [][]string{{last}, {two(1), last}, {"abc", two(2), last}} {
			d := booked(t, records...)
			d.Fuse(0)
			opensNone(t, d, 3, 30, 2, api.ErrForm)
			if !d.On() {
				t.Error("written")
			}
		}
		d := booked(t, last, two(2)) // the last one alone is asked
		s, e := signer.Open(d, 3, 30, "seed", 2)
		if e != api.OK || s.Next() != 2 {
			t.Error(e)
		}
	}
}

func TestNextByTheLastRecord(t *testing.T) {
	for _, next := range []int{0, 1, 2, 3, 4, 63, 64, 65, 255, 256, 257, 258, 512, 0x7fff, 0x8000, 0xff00, 0xffff} {
		for _, records := range [][]string{{two(next)}, {two(7), two(next)}, {two(0xffff), two(0), two(next)}} {
			s, e := signer.Open(booked(t, records...), 3, 30, "seed", 1)
			if e != api.OK || s.Next() != next {
				t.Error(next, e)
			}
		}
	}
}

// What was asked leaves the sectors, and the answers, as they are.
func TestOpenPublicAndNextWriteNothing(t *testing.T) {
	d := disk(t, 20)
	k := keyOf(t, "seed", 2)
	signs(t, on(t, d, 2), "a", k, 0)
	was := sectors(t, d)
	d.Fuse(0)
	s := on(t, d, 2)
	for range 3 {
		if s.Public() != k.Public() || s.Next() != 1 {
			t.Error(s.Next())
		}
	}
	if !d.On() || !slices.Equal(sectors(t, d), was) {
		t.Error("written")
	}
}

func TestNil(t *testing.T) {
	var s *signer.Signer
	if s.Public() != (xmss.Public{}) || s.Next() != 0 {
		t.Error(s.Public(), s.Next())
	}
	for _, m := range []string{"", "hello", strings.Repeat("long", 3000)} {
		if x, e := s.Sign(m); !isZero(x) || e != api.ErrArg {
			t.Error(x, e)
		}
	}
}

// P11.2

func TestSignTillItIsSpent(t *testing.T) {
	for height := 0; height <= api.MaxHeight; height++ {
		d := disk(t, 20)
		s, k := on(t, d, height), keyOf(t, "seed", height)
		for i := range k.Count() {
			signs(t, s, "hello", k, i)
		}
		d.Fuse(0)
		for range 3 {
			refuses(t, s, api.ErrSpent)
			refuses(t, on(t, d, height), api.ErrSpent)
		}
		if !d.On() || s.Next() != k.Count() || on(t, d, height).Next() != k.Count() {
			t.Error(height, "a spent one writes")
		}
	}
}

func TestSignAnyMessage(t *testing.T) {
	messages := []string{"", "hello", "\x00", "\xff\xfe", "ж", "hello", strings.Repeat("long", 5000), two(1)}
	s, k := on(t, disk(t, 20), 3), keyOf(t, "seed", 3)
	for i, m := range messages {
		signs(t, s, m, k, i)
	}
	refuses(t, s, api.ErrSpent)
}

// What a signer writes is what a book would, of the same records.
func TestWhatIsPut(t *testing.T) {
	d, e := disk(t, 20), disk(t, 20)
	s, k, b := on(t, d, 6), keyOf(t, "seed", 6), bookOn(t, e)
	for i := range k.Count() {
		full := b.Left() == 0
		if full {
			if e := b.Compact(two(i + 1)); e != api.OK {
				t.Fatal(e)
			}
		} else if e := b.Put(two(i + 1)); e != api.OK {
			t.Fatal(e)
		}
		if full != (i > 0 && i%4 == 0) {
			t.Fatal(i, "compacted elsewhere")
		}
		signs(t, s, "hello", k, i)
		d.Cut() // it lasts
		d.Start()
		if !slices.Equal(sectors(t, d), sectors(t, e)) || !slices.Equal(bookOn(t, d).Records(), b.Records()) {
			t.Fatal(i, bookOn(t, d).Records(), b.Records())
		}
	}
}

// Behind any records whose last one is a next index; those ahead stay there till the book is compacted.
func TestSignBehindWhatIsThere(t *testing.T) {
	k := keyOf(t, "seed", 3)
	d := disk(t, 20)
	b := bookOn(t, d)
	for _, r := range []string{"not a signer's", "", two(5)} {
		if e := b.Put(r); e != api.OK {
			t.Fatal(e)
		}
	}
	s := on(t, d, 3)
	signs(t, s, "a", k, 5)
	if l := bookOn(t, d).Records(); !slices.Equal(l, []string{"not a signer's", "", two(5), two(6)}) {
		t.Errorf("%q", l)
	}
	signs(t, s, "b", k, 6)
	if l := bookOn(t, d).Records(); !slices.Equal(l, []string{two(7)}) {
		t.Errorf("%q", l)
	}
	signs(t, on(t, d, 3), "c", k, 7)
	refuses(t, on(t, d, 3), api.ErrSpent)
}

func TestSpentByItsRecord(t *testing.T) {
	for height, next := range map[int][]int{0: {1, 2, 256, 0xffff}, 1: {2, 3, 258, 0xffff}, 6: {64, 65, 0x0100, 0x8000, 0xffff}} {
		for _, n := range next {
			d := booked(t, two(n))
			s, e := signer.Open(d, 3, 30, "seed", height)
			if e != api.OK || s.Next() != n {
				t.Fatal(e)
			}
			was := sectors(t, d)
			refuses(t, s, api.ErrSpent)
			if !slices.Equal(sectors(t, d), was) {
				t.Error(height, n, "written")
			}
			d.Cut()
			refuses(t, s, api.ErrSpent) // ahead of layer 10's
		}
	}
	s, e := signer.Open(booked(t, two(63)), 3, 30, "seed", 6)
	if e != api.OK {
		t.Fatal(e)
	}
	signs(t, s, "the last one", keyOf(t, "seed", 6), 63)
	refuses(t, s, api.ErrSpent)
}

// A signer whose book had an error doesn't sign any more; another one does.
func TestSignWithoutPower(t *testing.T) {
	for before := range 6 { // behind the 4th the book is compacted
		d, k := disk(t, 20), keyOf(t, "seed", 3)
		s := on(t, d, 3)
		for i := range before {
			signs(t, s, "a", k, i)
		}
		d.Cut()
		refuses(t, s, api.ErrPower)
		refuses(t, s, api.ErrState)
		d.Start()
		refuses(t, s, api.ErrState)
		signs(t, on(t, d, 3), "b", k, before)
		refuses(t, s, api.ErrState)
	}
}

func TestThePowerComesBackBetween(t *testing.T) {
	d, k := disk(t, 20), keyOf(t, "seed", 2)
	s := on(t, d, 2)
	for i := range 4 {
		d.Cut(64, 64)
		d.Start()
		signs(t, s, "a", k, i)
	}
}

func TestThePowerFailsUnderWay(t *testing.T) {
	for before := range 6 {
		for fuse := range 2 { // the Write, the Sync
			d, k := disk(t, 20), keyOf(t, "seed", 3)
			s := on(t, d, 3)
			for i := range before {
				signs(t, s, "a", k, i)
			}
			d.Fuse(fuse)
			refuses(t, s, api.ErrPower)
			d.Start()
			refuses(t, s, api.ErrState)
			d.Fuse(2) // no more calls than these
			signs(t, on(t, d, 3), "b", k, before)
			if !d.On() {
				t.Error(before, fuse, "more than a Write and a Sync")
			}
		}
	}
}

// Where the book can't be compacted either.
func TestFull(t *testing.T) {
	d := lastTurn(t, [4]string{two(0), "x", "", two(2)})
	was := sectors(t, d)
	s := on(t, d, 2)
	for range 3 {
		refuses(t, s, api.ErrFull)
	}
	if !slices.Equal(sectors(t, d), was) || on(t, d, 2).Next() != 2 {
		t.Error("written")
	}
	refuses(t, on(t, d, 1), api.ErrSpent) // ahead of it
	d.Cut()
	refuses(t, s, api.ErrFull)
}

func TestASignatureIsItsOwn(t *testing.T) {
	s, k := on(t, disk(t, 20), 2), keyOf(t, "seed", 2)
	x, e := s.Sign("a")
	if e != api.OK {
		t.Fatal(e)
	}
	for i := range x.Chains {
		x.Chains[i] = "x"
	}
	for i := range x.Path {
		x.Path[i] = "x"
	}
	_ = append(x.Path, "x")
	for i := 1; i < 4; i++ {
		signs(t, s, "a", k, i)
	}
	if s.Public() != k.Public() {
		t.Error("another key")
	}
}

// Signers on other sectors of a disk go on alone.
func TestSignersBesideOneAnother(t *testing.T) {
	d := disk(t, 24)
	l := make([]*signer.Signer, 3)
	keys := make([]*xmss.Key, 3)
	for i, seed := range []string{"a", "b", "a"} {
		s, e := signer.Open(d, 8*i, 8, seed, 3)
		if e != api.OK {
			t.Fatal(e)
		}
		l[i], keys[i] = s, keyOf(t, seed, 3)
	}
	for index := range 8 {
		for i, s := range l {
			signs(t, s, "hello", keys[i], index)
		}
	}
	for _, s := range l {
		refuses(t, s, api.ErrSpent)
	}
	for i := range 3 {
		if b, e := logbook.Open(d, 8*i, 8); e != api.OK || !slices.Equal(b.Records(), []string{two(5), two(6), two(7), two(8)}) {
			t.Error(i, e)
		}
	}
}
