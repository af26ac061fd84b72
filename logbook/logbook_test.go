package logbook_test

import (
	"math"
	"slices"
	"testing"

	"plumbob/api"
	"plumbob/logbook"
	"plumbob/sector"
)

// P10.1

func TestParts(t *testing.T) {
	for n, want := range map[int]int{
		-1: 1, -39: 1, -40: 1, math.MinInt: 1, 0: 1, 1: 1, 38: 1, 39: 1, 40: 2, 77: 2, 78: 2, 79: 3, 897: 23, 898: 24, 900: 24, 901: 24,
		936: 24, 937: 25, 39 << 40: 1 << 40, 39<<40 + 1: 1<<40 + 1, math.MaxInt: math.MaxInt/39 + 1,
	} {
		if p := logbook.Parts(n); p != want {
			t.Error(n, p, want)
		}
	}
	for n := range 1000 {
		if p := logbook.Parts(n); p != len(partsOf(1, 0, text(n))) {
			t.Error(n, p)
		}
	}
}

func TestOpenWhereNoneMayBe(t *testing.T) {
	on, off := disk(t, 20), disk(t, 20)
	off.Cut()
	for _, x := range [][2]int{
		{0, 7}, {0, 0}, {0, -1}, {0, -8}, {5, 4}, {0, math.MinInt}, // too few
		{-1, 8}, {-1, 20}, {-8, 8}, {-8, 16}, {math.MinInt, 8}, {math.MinInt, math.MaxInt}, {-math.MaxInt, math.MaxInt}, // ahead of the disk
		{0, 21}, {1, 20}, {12, 9}, {13, 8}, {19, 8}, {20, 8}, {21, 8}, {0, math.MaxInt}, {math.MaxInt, 8}, {math.MaxInt, math.MaxInt}, {math.MaxInt - 7, 8}, // behind it
	} {
		for _, d := range []*sector.Disk{on, off} { // ErrArg is ahead of ErrPower
			if b, e := logbook.Open(d, x[0], x[1]); b != nil || e != api.ErrArg {
				t.Error(x, b, e)
			}
		}
	}
	small := disk(t, 4)
	for _, x := range [][2]int{{0, 4}, {0, 8}, {-4, 8}} {
		if b, e := logbook.Open(small, x[0], x[1]); b != nil || e != api.ErrArg {
			t.Error(x, b, e)
		}
	}
	for _, d := range []*sector.Disk{nil, {}} {
		if b, e := logbook.Open(d, 0, 8); b != nil || e != api.ErrArg {
			t.Error(b, e)
		}
	}
	for _, x := range [][2]int{{0, 8}, {0, 20}, {12, 8}} {
		if b, e := logbook.Open(off, x[0], x[1]); b != nil || e != api.ErrPower {
			t.Error(x, b, e)
		}
		if b, e := logbook.Open(on, x[0], x[1]); b == nil || e != api.OK {
			t.Error(x, b, e)
		}
	}
}

func TestOpenOfNewSectors(t *testing.T) {
	d := disk(t, 1024)
	for _, count := range []int{8, 9, 10, 11, 100, 101, 1023, 1024} {
		has(t, open(t, d, 1024-count, count), count/2)
	}
}

// An Open writes nothing.
func TestOpenLeavesTheDisk(t *testing.T) {
	d := disk(t, 10)
	put(t, open(t, d, 0, 10), "a", "b")
	d.Fuse(0)
	has(t, open(t, d, 0, 10), 3, "a", "b")
	if !d.On() {
		t.Error("written")
	}
	lies(t, d, 0, 10, halfOf(1, "a", "b"))
}

func TestNil(t *testing.T) {
	var b *logbook.Book
	if len(b.Records()) != 0 || b.Left() != 0 {
		t.Error(b.Records(), b.Left())
	}
	for _, n := range []int{0, 1, 900, 901} {
		if e := b.Put(text(n)); e != api.ErrArg {
			t.Error(n, e)
		}
		if e := b.Compact(text(n)); e != api.ErrArg {
			t.Error(n, e)
		}
	}
}

func TestRecordsAreTheirOwn(t *testing.T) {
	d := disk(t, 20)
	b := open(t, d, 0, 20)
	put(t, b, "a", "b", "c")
	l := b.Records()
	l[0] = "x"
	_ = append(l, "y")
	put(t, b, "d")
	_ = append(l, "z")
	has(t, b, 6, "a", "b", "c", "d")
	if !slices.Equal(l, []string{"x", "b", "c"}) {
		t.Error(l)
	}
}

// opens: with these sectors in both halves (of 26) a book has that.
func opens(t *testing.T, why string, first, second []string, left int, want ...string) {
	t.Helper()
	d := disk(t, 60)
	lay(t, d, 3, first)
	lay(t, d, 29, second)
	b := open(t, d, 3, 53)
	if l := b.Records(); !slices.Equal(l, want) || b.Left() != left {
		t.Errorf("%s: %d left, %.60q, want %d, %.60q", why, b.Left(), l, left, want)
	}
}

func TestWhichHalfCounts(t *testing.T) {
	none := [][]string{
		nil,
		halfOf(0, "of the turn 0", "too"),
		halfOf(9, text(100))[1:],
		halfOf(math.MaxUint32, text(100))[:2],
		{summed(noughts(56))},
	}
	turns := []uint32{1, 2, 3, 255, 256, 257, 65535, 65536, 1<<24 - 1, 1 << 24, 1<<31 - 1, 1 << 31, math.MaxUint32 - 1, math.MaxUint32}
	for i, x := range turns {
		for k, y := range turns {
			a, b := halfOf(x, "a", "b", text(50)), halfOf(y, "c")
			if k > i {
				opens(t, "the second is greater", a, b, 25, "c")
			} else {
				opens(t, "the second isn't greater", a, b, 22, "a", "b", text(50))
			}
		}
		for _, n := range none {
			opens(t, "the first alone", halfOf(x, "a", "b"), n, 24, "a", "b")
			opens(t, "the second alone", n, halfOf(x, "a", "b"), 24, "a", "b")
		}
	}
	for _, n := range none {
		for _, m := range none {
			opens(t, "none", n, m, 26)
		}
	}
}

func TestRecordsByHand(t *testing.T) {
	for n := range 901 {
		opens(t, "of any length", halfOf(5, text(n)), nil, 26-logbook.Parts(n), text(n))
	}
	for n := 901; n <= 39*26; n++ {
		opens(t, "above MaxRecord", halfOf(5, text(n)), halfOf(4, "a"), 25, "a")
	}
	opens(t, "some", nil, halfOf(5, "", text(39), "", text(40), text(78), "a", "a"), 17, "", text(39), "", text(40), text(78), "a", "a")
	full := halfOf(5, text(900), text(78))
	opens(t, "a full half", full, nil, 0, text(900), text(78))
	opens(t, "a full half with the next record in the other one", full, sectorsOf(partsOf(5, 2, "c")...), 0, text(900), text(78))
	opens(t, "a full half whose last record isn't whole", halfOf(5, text(900), text(79)), nil, 2, text(900))
	opens(t, "whose last record's part begins the other half", halfOf(5, text(900), text(79))[:26], halfOf(5, text(900), text(79))[26:], 2, text(900))
	small := disk(t, 8)
	lay(t, small, 0, halfOf(5, text(150))) // four parts
	lay(t, small, 4, halfOf(6, text(900))[:4])
	has(t, open(t, small, 0, 8), 0, text(150))
}

// Of what stands behind a half's records nothing counts, nor does it itself.
func TestWhatIsNotTheNextPart(t *testing.T) {
	next := partsOf(5, 2, text(100))
	for why, behind := range map[string][]part{
		"noughts":                nil,
		"no first part":          next[1:],
		"no second part":         {next[0], next[2]},
		"no last part":           next[:2],
		"the parts are turned":   {next[0], next[2], next[1]},
		"a part twice":           {next[0], next[0], next[1], next[2]},
		"two records' parts":     {next[0], partsOf(5, 2, text(101))[1], next[2]},
		"the next record's part": {next[0], next[1], partsOf(5, 3, "x")[0]},
		"a record's number less": partsOf(5, 1, text(100)),
		"a number more":          partsOf(5, 3, text(100)),
		"number 0":               partsOf(5, 0, text(100)),
		"number 256 more":        partsOf(5, 258, text(100)),
		"a turn less":            partsOf(4, 2, text(100)),
		"a turn more":            partsOf(6, 2, text(100)),
		"a turn 256 more":        partsOf(5+256, 2, text(100)),
		"a turn 2^31 more":       partsOf(5+1<<31, 2, text(100)),
		"turn 0":                 partsOf(0, 2, text(100)),
	} {
		l := append(halfOf(5, "a", text(40)), sectorsOf(behind...)...)
		l = l[:min(len(l), 26)]
		opens(t, why, l, nil, 23, "a", text(40))
		opens(t, why, nil, l, 23, "a", text(40))
		if l = append(slices.Clone(l), sectorsOf(partsOf(5, 3, "behind")...)...); len(l) <= 26 {
			opens(t, why+", and a record behind", l, nil, 23, "a", text(40))
		}
	}
	opens(t, "as it is", append(halfOf(5, "a", text(40)), sectorsOf(next...)...), nil, 20, "a", text(40), text(100))
}

// changed: all of a record's parts, with a change to one of them; the sums are right.
func changed(s string, at int, change func(p *part)) []string {
	l := partsOf(5, 0, s)
	change(&l[at])
	return sectorsOf(l...)
}

func TestPartsThatAreWrong(t *testing.T) {
	s := text(100) // 39, 39, 22 bytes
	for at := range 3 {
		for why, change := range map[string]func(p *part){
			"turn":           func(p *part) { p.turn = 6 },
			"number":         func(p *part) { p.number = 1 },
			"high number":    func(p *part) { p.number = 256 },
			"part":           func(p *part) { p.at++ },
			"part less":      func(p *part) { p.at += 255 },
			"more parts":     func(p *part) { p.of++ },
			"fewer parts":    func(p *part) { p.of-- },
			"one part":       func(p *part) { p.of = 1 },
			"no parts":       func(p *part) { p.of = 0 },
			"many parts":     func(p *part) { p.of = 255 },
			"more bytes":     func(p *part) { p.size++ },
			"fewer bytes":    func(p *part) { p.size-- },
			"no bytes":       func(p *part) { p.size = 0 },
			"many bytes":     func(p *part) { p.size = 255 },
			"40 bytes":       func(p *part) { p.size = 40 },
			"name":           func(p *part) { p.name = tagged(7, four(5), two(0), s+"x") },
			"name's end":     func(p *part) { p.name = p.name[:7] + string([]byte{p.name[7] ^ 1}) },
			"no name":        func(p *part) { p.name = noughts(8) },
			"another's name": func(p *part) { p.name = tagged(7, four(5), two(1), s) },
			"bytes":          func(p *part) { p.bytes = "x" + p.bytes[1:] },
			"last byte":      func(p *part) { p.bytes = p.bytes[:len(p.bytes)-1] + string([]byte{p.bytes[len(p.bytes)-1] ^ 128}) },
		} {
			opens(t, why, changed(s, at, change), nil, 26)
			opens(t, why, nil, changed(s, at, change), 26)
		}
	}
	for n := range 256 {
		for _, at := range []int{0, 1, 2} {
			if n != len(partsOf(5, 0, s)[at].bytes) {
				opens(t, "any size", changed(s, at, func(p *part) { p.size = n }), nil, 26)
			}
			if n != 3 {
				opens(t, "any parts", changed(s, at, func(p *part) { p.of = n }), nil, 26)
			}
		}
	}
	opens(t, "no noughts behind", changed(s, 2, func(p *part) { p.behind = 1 }), nil, 26)
	opens(t, "no noughts behind none", changed("", 0, func(p *part) { p.behind = 1 }), nil, 26)
	opens(t, "as it is", changed(s, 1, func(p *part) {}), nil, 23, s)
}

// Wholes that have their name, but other parts than 39 bytes each.
func TestOtherParts(t *testing.T) {
	cut := func(s string, sizes ...int) []string {
		name := tagged(7, four(5), two(0), s)
		var l []part
		for i, n := range sizes {
			l = append(l, part{turn: 5, at: i, of: len(sizes), name: name, bytes: s[:n], size: n})
			s = s[n:]
		}
		return sectorsOf(l...)
	}
	s := text(60)
	opens(t, "39, 21", cut(s, 39, 21), nil, 24, s)
	for _, sizes := range [][]int{{38, 22}, {21, 39}, {30, 30}, {39, 20, 1}, {39, 21, 0}, {39, 0, 21}, {0, 39, 21}} {
		opens(t, "other sizes", cut(s, sizes...), nil, 26)
	}
	opens(t, "the empty one", cut("", 0), nil, 25, "")
	opens(t, "the empty one in two parts", cut("", 0, 0), nil, 26)
	opens(t, "39", cut(text(39), 39), nil, 25, text(39))
	opens(t, "39, and an empty part", cut(text(39), 39, 0), nil, 26)
}

// Each bit of a part's sector counts.
func TestAnyBit(t *testing.T) {
	l := halfOf(5, text(50))
	for at := range l {
		for bit := range 64 * 8 {
			b := []byte(l[at])
			b[bit/8] ^= 1 << (bit % 8)
			wrong := slices.Clone(l)
			wrong[at] = string(b)
			opens(t, "a bit", wrong, halfOf(4, "other"), 25, "other")
		}
	}
}

// P10.2

func TestPut(t *testing.T) {
	d := disk(t, 70)
	b := open(t, d, 3, 61)
	records := []string{"", "a", text(39), text(40), "", text(900 - 39*20), "a", "жук", "\x00"}
	left := 30
	for i, s := range records {
		put(t, b, s)
		left -= logbook.Parts(len(s))
		has(t, b, left, records[:i+1]...)
		has(t, open(t, d, 3, 61), left, records[:i+1]...)
		lies(t, d, 0, 3, nil)
		lies(t, d, 3, 70, halfOf(1, records[:i+1]...))
	}
	d.Cut() // nothing waits
	d.Start()
	lies(t, d, 3, 70, halfOf(1, records...))
}

func TestPutOfAnyLength(t *testing.T) {
	for n := range 901 {
		d := disk(t, 51)
		b := open(t, d, 0, 51)
		put(t, b, text(n))
		lies(t, d, 0, 51, halfOf(1, text(n)))
		compact(t, b, text(n))
		lies(t, d, 25, 51, halfOf(2, text(n)))
		has(t, open(t, d, 0, 51), 25-logbook.Parts(n), text(n))
	}
}

func TestPutOfManyRecords(t *testing.T) {
	d := disk(t, 1024)
	b := open(t, d, 0, 1024)
	var l []string
	for i := range 512 {
		l = append(l, text(i%40))
		put(t, b, l[i])
	}
	if e := b.Put(""); e != api.ErrFull {
		t.Error(e)
	}
	has(t, b, 0, l...)
	has(t, open(t, d, 0, 1024), 0, l...)
	lies(t, d, 0, 512, halfOf(1, l...))
}

func TestPutBehindWhatIsThere(t *testing.T) {
	for _, turn := range []uint32{1, 2, 7, 256, 1 << 31, math.MaxUint32} {
		d := disk(t, 20)
		lay(t, d, 10, halfOf(turn, "a", text(50)))
		b := open(t, d, 0, 20)
		put(t, b, "b", text(79))
		lies(t, d, 0, 10, nil)
		lies(t, d, 10, 20, halfOf(turn, "a", text(50), "b", text(79)))
		has(t, open(t, d, 0, 20), 3, "a", text(50), "b", text(79))
	}
}

func TestPutFull(t *testing.T) {
	for left := range 4 {
		d := disk(t, 8)
		b := open(t, d, 0, 8)
		put(t, b, []string{"a", "b", "c", "d"}[left:]...)
		records := b.Records()
		for n := 39*left + 1; n <= 900; n++ {
			if e := b.Put(text(n)); e != api.ErrFull {
				t.Error(left, n, e)
			}
		}
		has(t, b, left, records...)
		lies(t, d, 0, 8, halfOf(1, records...))
		if left > 0 {
			put(t, b, text(39*left))
			has(t, b, 0, append(records, text(39*left))...)
		}
		if b.Put("") != api.ErrFull || b.Put(text(900)) != api.ErrFull || b.Put(text(901)) != api.ErrLong {
			t.Error("full")
		}
	}
}

func TestCompact(t *testing.T) {
	d := disk(t, 30)
	b := open(t, d, 3, 21)
	put(t, b, "a", text(200), "b")
	was := halfOf(1, "a", text(200), "b")
	compact(t, b, text(100))
	has(t, b, 7, text(100))
	has(t, open(t, d, 3, 21), 7, text(100))
	lies(t, d, 3, 13, was) // as it was
	lies(t, d, 13, 23, halfOf(2, text(100)))
	put(t, b, "c", text(40))
	lies(t, d, 13, 23, halfOf(2, text(100), "c", text(40)))
	compact(t, b, "d")
	has(t, b, 9, "d")
	has(t, open(t, d, 3, 21), 9, "d")
	lies(t, d, 3, 13, append(halfOf(3, "d"), was[1:]...))
	lies(t, d, 13, 23, halfOf(2, text(100), "c", text(40)))
	put(t, b, "e", text(60))
	lies(t, d, 3, 13, append(halfOf(3, "d", "e", text(60)), was[4:]...))
	has(t, open(t, d, 3, 21), 6, "d", "e", text(60))
	compact(t, b, "")
	compact(t, b, "f")
	has(t, open(t, d, 3, 21), 9, "f")
	lies(t, d, 0, 3, nil)
	lies(t, d, 3, 13, append(halfOf(5, "f"), append(halfOf(3, "d", "e", text(60)), was[4:]...)[1:]...))
	lies(t, d, 23, 30, nil)
	d.Cut()
	d.Start()
	has(t, open(t, d, 3, 21), 9, "f")
}

// Where there are none, the first half has them all, and no turn: the other one's is 1.
func TestCompactOfNone(t *testing.T) {
	d := disk(t, 8)
	b := open(t, d, 0, 8)
	compact(t, b, text(156))
	has(t, b, 0, text(156))
	lies(t, d, 0, 4, nil)
	lies(t, d, 4, 8, halfOf(1, text(156)))
	has(t, open(t, d, 0, 8), 0, text(156))
	compact(t, b, "a")
	put(t, b, "b")
	lies(t, d, 0, 4, halfOf(2, "a", "b"))
	has(t, open(t, d, 0, 8), 2, "a", "b")
}

func TestCompactFull(t *testing.T) {
	for _, count := range []int{8, 9, 20, 46, 47, 48} {
		d := disk(t, count)
		b := open(t, d, 0, count)
		put(t, b, "a")
		room := 39 * (count / 2)
		for n := room + 1; n <= 900; n++ {
			if e := b.Compact(text(n)); e != api.ErrFull {
				t.Error(count, n, e)
			}
		}
		has(t, b, count/2-1, "a")
		lies(t, d, 0, count, halfOf(1, "a"))
		compact(t, b, text(min(room, 900)))
		compact(t, b, text(min(room, 900))) // Left has nothing to do with it
		has(t, open(t, d, 0, count), count/2-logbook.Parts(min(room, 900)), text(min(room, 900)))
	}
}

func TestCompactOfTheLastTurn(t *testing.T) {
	d := disk(t, 20)
	lay(t, d, 0, halfOf(math.MaxUint32-1, "a"))
	b := open(t, d, 0, 20)
	compact(t, b, "b")
	lies(t, d, 10, 20, halfOf(math.MaxUint32, "b"))
	for _, b := range []*logbook.Book{b, open(t, d, 0, 20)} {
		if b.Compact("c") != api.ErrFull || b.Compact(text(900)) != api.ErrFull || b.Compact(text(901)) != api.ErrLong {
			t.Error("beyond the last turn")
		}
		has(t, b, 9, "b")
	}
	put(t, b, "c")
	has(t, open(t, d, 0, 20), 8, "b", "c")
}

func TestTooLong(t *testing.T) {
	d := disk(t, 100)
	b := open(t, d, 0, 100)
	put(t, b, "a")
	for _, n := range []int{901, 936, 937, 39 * 256, 65536} {
		if b.Put(text(n)) != api.ErrLong || b.Compact(text(n)) != api.ErrLong {
			t.Error(n)
		}
	}
	lies(t, d, 0, 100, halfOf(1, "a"))
	put(t, b, text(900))
	compact(t, b, text(900))
	has(t, b, 26, text(900))
}

// What is refused changes nothing, and isn't an error of layer 9's.
func TestRefusedIsNotFailed(t *testing.T) {
	d := disk(t, 8)
	b := open(t, d, 0, 8)
	d.Fuse(2)
	for range 5 {
		if b.Put(text(901)) != api.ErrLong || b.Put(text(157)) != api.ErrFull || b.Compact(text(901)) != api.ErrLong || b.Compact(text(157)) != api.ErrFull {
			t.Error("not refused")
		}
	}
	put(t, b, "a")
	has(t, b, 3, "a")
}

// failed: a book tells so, and has what it had.
func failed(t *testing.T, b *logbook.Book, left int, want ...string) {
	t.Helper()
	for range 2 {
		for _, n := range []int{0, 1, 39, 900} { // ErrState is ahead of ErrFull
			if b.Put(text(n)) != api.ErrState || b.Compact(text(n)) != api.ErrState {
				t.Error(n, "no ErrState")
			}
		}
		if b.Put(text(901)) != api.ErrLong || b.Compact(text(901)) != api.ErrLong { // ErrLong is ahead of ErrState
			t.Error("no ErrLong")
		}
		has(t, b, left, want...)
	}
}

func TestFailed(t *testing.T) {
	for fuse := range 4 {
		for _, call := range []func(b *logbook.Book) api.Errno{
			func(b *logbook.Book) api.Errno { return b.Put(text(100)) },
			func(b *logbook.Book) api.Errno { return b.Compact(text(100)) },
		} {
			d := disk(t, 12)
			b := open(t, d, 0, 12)
			put(t, b, "a", "b")
			d.Fuse(fuse)
			if e := call(b); e != api.ErrPower {
				t.Error(fuse, e)
			}
			failed(t, b, 4, "a", "b")
			d.Start()
			failed(t, b, 4, "a", "b")
			lies(t, d, 0, 12, halfOf(1, "a", "b"))
			again := open(t, d, 0, 12)
			put(t, again, text(100))
			has(t, again, 1, "a", "b", text(100))
			failed(t, b, 4, "a", "b")
		}
	}
}

func TestFailedWhileOff(t *testing.T) {
	for _, compacts := range []bool{false, true} {
		d := disk(t, 12)
		b := open(t, d, 0, 12)
		put(t, b, "a")
		d.Cut()
		if b.Put(text(900)) != api.ErrFull || b.Compact(text(900)) != api.ErrFull { // ahead of ErrPower
			t.Error("not full")
		}
		call := b.Put
		if compacts {
			call = b.Compact
		}
		if e := call("b"); e != api.ErrPower {
			t.Error(e)
		}
		failed(t, b, 5, "a")
	}
}

// A power failure between a book's calls leaves it as it is.
func TestPowerFailsBetweenCalls(t *testing.T) {
	d := disk(t, 12)
	b := open(t, d, 0, 12)
	put(t, b, "a")
	d.Cut()
	has(t, b, 5, "a")
	d.Start()
	put(t, b, "b")
	d.Cut(64)
	d.Start()
	compact(t, b, "c")
	has(t, open(t, d, 0, 12), 5, "c")
}

func TestBooksBesideOneAnother(t *testing.T) {
	d := disk(t, 30)
	a, b := open(t, d, 0, 11), open(t, d, 11, 19) // the last of 11 is left, and of 19
	put(t, a, "a", "aa")
	put(t, b, "b")
	compact(t, a, "aaa")
	put(t, b, text(39*8))
	compact(t, b, text(39*9))
	put(t, a, text(39*4))
	has(t, open(t, d, 0, 11), 0, "aaa", text(39*4))
	has(t, open(t, d, 11, 19), 0, text(39*9))
	lies(t, d, 10, 11, nil)
	lies(t, d, 29, 30, nil)
	d.Fuse(0)
	if b.Compact("x") != api.ErrPower {
		t.Error("power")
	}
	d.Start()
	compact(t, a, "y") // the failure was none of its own
	has(t, a, 4, "y")
}

func TestEachBookGoesOnAlone(t *testing.T) {
	d := disk(t, 12)
	b := open(t, d, 0, 12)
	put(t, b, "a")
	c := d.Copy()
	put(t, b, "b")
	has(t, open(t, c, 0, 12), 5, "a")
	has(t, open(t, d, 0, 12), 4, "a", "b")
}
