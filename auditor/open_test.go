package auditor_test

import (
	"math"
	"slices"
	"strings"
	"testing"

	"plumbob/api"
	"plumbob/auditor"
	"plumbob/header"
	"plumbob/logbook"
	"plumbob/sector"
	"plumbob/signer"
	"plumbob/trans"
	"plumbob/xmss"
)

// P25.1

func TestAFreshAuditor(t *testing.T) {
	for height := range 5 {
		for _, count := range []int{16, 17, 40} {
			m := newModel(t, count, height)
			m.is(t, on(t, disk(t, 50), count, height))
		}
	}
}

func TestKeysOfOtherSeedsAndHeights(t *testing.T) {
	d := disk(t, 16)
	for _, seed := range []string{"", "seed", "another seed"} {
		for _, height := range []int{0, 1, 6} {
			k, _ := xmss.New(seed, height)
			a, e := auditor.Open(d, 0, 16, seed, height)
			if e != api.OK || a.Public() != k.Public() || a.Left() != k.Count() {
				t.Error(seed, height, e, a.Left())
			}
		}
	}
}

// refused: Open answers an error, and no auditor.
func refused(t *testing.T, d *sector.Disk, first, count, height int, want api.Errno) {
	t.Helper()
	if a, e := auditor.Open(d, first, count, "seed", height); a != nil || e != want {
		t.Errorf("%d %d %d: %d, want %d", first, count, height, e, want)
	}
}

func TestOpenOfWrongArguments(t *testing.T) {
	d := disk(t, 40)
	for _, height := range []int{-1, 7, math.MinInt, math.MaxInt} {
		refused(t, d, 0, 40, height, api.ErrArg)
	}
	refused(t, nil, 0, 40, 1, api.ErrArg)
	for _, count := range []int{0, 7, 8, 9, 15, -1, -8, math.MinInt, math.MinInt + 7, math.MinInt + 8, math.MaxInt, 41} {
		refused(t, d, 0, count, 1, api.ErrArg)
	}
	for _, first := range []int{-1, -8, 1, 33, 40, 41, math.MinInt, math.MaxInt, math.MaxInt - 8} {
		refused(t, d, first, 40, 1, api.ErrArg)
	}
	for _, first := range []int{-1, 25, 32, 40} {
		refused(t, d, first, 16, 1, api.ErrArg)
	}
	for _, first := range []int{0, 1, 24} {
		if a, e := auditor.Open(d, first, 16, "seed", 1); e != api.OK || a == nil {
			t.Error(first, e)
		}
	}
}

func TestOpenWithoutPower(t *testing.T) {
	d := disk(t, 40)
	d.Cut()
	refused(t, d, 0, 40, 1, api.ErrPower)
	refused(t, d, 0, 40, 7, api.ErrArg)
	refused(t, d, 25, 16, 1, api.ErrPower) // the signer's error is ahead
	refused(t, d, 33, 40, 1, api.ErrArg)
	d.Start()
	on(t, d, 37, 1)
}

// booked: a disk with these records in the signer's book, and in that of the marks.
func booked(t *testing.T, of []string, marks []string) *sector.Disk {
	t.Helper()
	d := disk(t, 60)
	for _, x := range []struct {
		first, count int
		records      []string
	}{{3, 8, of}, {11, 40, marks}} {
		b, e := logbook.Open(d, x.first, x.count)
		if e != api.OK {
			t.Fatal(e)
		}
		for _, s := range x.records {
			if e := b.Put(s); e != api.OK {
				t.Fatal(e)
			}
		}
	}
	return d
}

func TestOpenOfRecordsOfAnotherForm(t *testing.T) {
	right := record(1, 0, keyOf("h"))
	for _, s := range []string{"", "a", right[:5], right[:20], right + "a", right + right} {
		for _, l := range [][]string{{s}, {right, s}, {s, right}, {right, s, right}} {
			refused(t, booked(t, nil, l), 3, 48, 1, api.ErrForm)
			refused(t, booked(t, nil, l), 3, 48, 7, api.ErrArg)
		}
	}
	for _, s := range []string{"", "a", "abc", right} {
		refused(t, booked(t, []string{s}, nil), 3, 48, 1, api.ErrForm)
		refused(t, booked(t, []string{s}, nil), 3, 15, 1, api.ErrForm) // the signer's error is ahead
	}
	on(t, booked(t, []string{"\x00\x01"}, []string{right}), 48, 1)
}

// The last mark of an epoch and a band counts; one epoch's and band's isn't another one's.
func TestMarksThatAreThere(t *testing.T) {
	one, two, three := keyOf("one"), keyOf("two"), strings.Repeat("\x00", 16)
	a := on(t, booked(t, []string{"\x00\x03"}, []string{
		record(1, 0, one), record(1, 1, two), record(256, 0, three), record(1, 0, two), record(math.MaxUint32, 255, one), record(1, 1, three),
	}), 48, 2)
	for _, x := range []struct {
		epoch  uint64
		band   int
		digest string
		ok     bool
	}{
		{1, 0, two, true}, {1, 1, three, true}, {256, 0, three, true}, {math.MaxUint32, 255, one, true},
		{0, 0, "", false}, {0, 1, "", false}, {2, 0, "", false}, {1, 2, "", false}, {256, 1, "", false}, {1, 256, "", false}, {1, -1, "", false},
		{1 << 32, 0, "", false}, {1<<32 + 1, 0, "", false}, {math.MaxUint64, 0, "", false}, {math.MaxUint32, -1, "", false}, {math.MaxUint32, math.MaxInt, "", false},
	} {
		if s, ok := a.Marked(x.epoch, x.band); s != x.digest || ok != x.ok {
			t.Errorf("%d %d: %x %t", x.epoch, x.band, s, ok)
		}
	}
	if a.Left() != 1 {
		t.Error(a.Left())
	}
}

// The signer is layer 11's, on the first 8 sectors; the marks are records on all the others, and on no sector but theirs.
func TestWhereTheRecordsAre(t *testing.T) {
	for _, count := range []int{16, 19, 40} {
		d := disk(t, 50)
		g := genesis(t, 2)
		h, l := g.next(t, "value", "a", "d", "e", "f")
		m, a := newModel(t, count, 3), on(t, d, count, 3)
		was := sectors(t, d)
		for _, x := range l[:3] {
			m.asked(t, a, 5, g.h, h.h, x)
			m.asked(t, a, 5, g.h, h.h, x)
		}
		s, e := signer.Open(d, 3, 8, "seed", 3)
		if e != api.OK || s.Next() != 6 || s.Public() != a.Public() {
			t.Fatal(e)
		}
		want := []string{record(1, 0, h.h.Digest()), record(1, 1, h.h.Digest()), record(1, 2, h.h.Digest())}
		b := bookOn(t, d, count)
		if !slices.Equal(b.Records(), want) || b.Left() != (count-8)/2-3 {
			t.Fatalf("%q", b.Records())
		}
		d.Cut()
		d.Start()
		now := sectors(t, d)
		if !slices.Equal(was[:3], now[:3]) || !slices.Equal(was[3+count:], now[3+count:]) {
			t.Error("written beyond its sectors")
		}
		m.is(t, on(t, d, count, 3))
	}
}

// Behind a key of more leaves the next index may be above Count.
func TestLeftOfAKeyOfFewerLeaves(t *testing.T) {
	a := on(t, booked(t, []string{"\x01\x03"}, nil), 48, 2)
	if a.Left() != 4-259 {
		t.Error(a.Left())
	}
	g := genesis(t, 0)
	h, l := g.next(t, "value", "a")
	if x, e := a.Attest(0, g.h, h.h, l[0]); e != api.ErrSpent || !isZero(x) {
		t.Error(e)
	}
}

func TestOfNil(t *testing.T) {
	var a *auditor.Auditor
	if a.Public() != (xmss.Public{}) || a.Left() != 0 {
		t.Error("nil")
	}
	if s, ok := a.Marked(1, 0); s != "" || ok {
		t.Error(s, ok)
	}
	g := genesis(t, 0)
	h, l := g.next(t, "value", "a")
	if x, e := a.Attest(0, g.h, h.h, l[0]); e != api.ErrArg || !isZero(x) {
		t.Error(e)
	}
	if x, e := a.Attest(-1, header.Header{}, header.Header{}, trans.Transition{}); e != api.ErrArg || !isZero(x) {
		t.Error(e)
	}
}
