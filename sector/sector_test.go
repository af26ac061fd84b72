package sector_test

import (
	"math"
	"math/rand"
	"slices"
	"strings"
	"testing"

	"plumbob/api"
	"plumbob/sector"
)

// full: a sector's text, with noughts behind what it has.
func full(s string) string { return s + strings.Repeat("\x00", 64-len(s)) }

func disk(t *testing.T, count int) *sector.Disk {
	t.Helper()
	d, e := sector.New(count)
	if e != api.OK || d == nil {
		t.Fatal(count, e)
	}
	return d
}

func write(t *testing.T, d *sector.Disk, i int, s string) {
	t.Helper()
	if e := d.Write(i, s); e != api.OK {
		t.Fatal(i, e)
	}
}

func sync(t *testing.T, d *sector.Disk) {
	t.Helper()
	if e := d.Sync(); e != api.OK {
		t.Fatal(e)
	}
}

// reads: the sectors from 0 on have these texts, and noughts behind; the others are noughts.
func reads(t *testing.T, d *sector.Disk, want ...string) {
	t.Helper()
	for i := range d.Count() {
		w := full("")
		if i < len(want) {
			w = full(want[i])
		}
		if s, e := d.Read(i); s != w || e != api.OK {
			t.Errorf("sector %d: %q %d, want %q", i, s, e, w)
		}
	}
}

var noSectors = []int{-1, -2, math.MinInt, 8, 9, 64, 1023, 1024, 1 << 32, math.MaxInt}

// P9.1

func TestNew(t *testing.T) {
	for count := 4; count <= api.MaxSectors; count++ {
		d := disk(t, count)
		if d.Count() != count || !d.On() {
			t.Error(count, d.Count(), d.On())
		}
	}
	for _, count := range []int{4, 5, 100, 1024} {
		reads(t, disk(t, count))
	}
	for _, count := range []int{3, 2, 1, 0, -1, -4, math.MinInt, 1025, 1 << 32, 1<<32 + 4, math.MaxInt} {
		if d, e := sector.New(count); d != nil || e != api.ErrArg {
			t.Error(count, d, e)
		}
	}
}

func TestDisksAreTheirOwn(t *testing.T) {
	a, b := disk(t, 4), disk(t, 4)
	write(t, a, 0, "a")
	sync(t, a)
	a.Cut()
	reads(t, b)
}

func TestReadWhatWasWritten(t *testing.T) {
	d := disk(t, 8)
	for i, s := range []string{"", "a", "\x00b", "\xff\xfe", "жук", strings.Repeat("x", 63), strings.Repeat("y", 64), "z\x00\x00"} {
		write(t, d, i, s)
		if r, e := d.Read(i); r != full(s) || e != api.OK {
			t.Errorf("%q: %q %d", s, r, e)
		}
	}
	sync(t, d)
	reads(t, d, "", "a", "\x00b", "\xff\xfe", "жук", strings.Repeat("x", 63), strings.Repeat("y", 64), "z")
}

// What was written last is read, and nothing of what was there ahead of it.
func TestReadTheLastWriting(t *testing.T) {
	d := disk(t, 4)
	for _, synced := range []bool{false, true} {
		for _, s := range []string{"a long text", "short", "", "longer than ever", "b"} {
			write(t, d, 2, s)
			write(t, d, 1, "beside "+s)
			if synced {
				sync(t, d)
			}
			reads(t, d, "", "beside "+s, s)
		}
	}
}

func TestSyncMakesAllLast(t *testing.T) {
	d := disk(t, 4)
	write(t, d, 0, "first")
	write(t, d, 1, "b")
	write(t, d, 0, "a")
	write(t, d, 3, "d")
	sync(t, d)
	sync(t, d) // of nothing
	d.Cut()
	d.Start()
	reads(t, d, "a", "b", "", "d")
}

func TestNoSuchSector(t *testing.T) {
	d := disk(t, 8)
	for _, i := range noSectors {
		if s, e := d.Read(i); s != "" || e != api.ErrRange {
			t.Errorf("%d: %q %d", i, s, e)
		}
		for _, s := range []string{"", "a", strings.Repeat("x", 65)} { // ErrRange is ahead of ErrLong
			if e := d.Write(i, s); e != api.ErrRange {
				t.Error(i, e)
			}
		}
	}
	sync(t, d)
	reads(t, d)
}

func TestTooLong(t *testing.T) {
	d := disk(t, 8)
	write(t, d, 0, "a")
	for _, n := range []int{65, 66, 128, 256, 256 + 64, 65536} {
		if e := d.Write(0, strings.Repeat("x", n)); e != api.ErrLong {
			t.Error(n, e)
		}
	}
	d.Cut(64, 64) // what was refused doesn't wait
	d.Start()
	reads(t, d, "a")
}

func TestOff(t *testing.T) {
	d := disk(t, 8)
	write(t, d, 0, "a")
	sync(t, d)
	d.Cut()
	for _, i := range append(noSectors, 0, 1, 7) { // ErrPower is ahead of the others
		if s, e := d.Read(i); s != "" || e != api.ErrPower {
			t.Errorf("%d: %q %d", i, s, e)
		}
		if e := d.Write(i, "b"); e != api.ErrPower {
			t.Error(i, e)
		}
		if e := d.Write(i, strings.Repeat("x", 65)); e != api.ErrPower {
			t.Error(i, e)
		}
	}
	if e := d.Sync(); e != api.ErrPower {
		t.Error(e)
	}
	if d.On() || d.Count() != 8 {
		t.Error(d.On(), d.Count())
	}
	d.Start()
	reads(t, d, "a")
}

func TestNil(t *testing.T) {
	var d *sector.Disk
	d.Fuse(0, 1)
	d.Cut(1)
	d.Start()
	if d.Count() != 0 || d.On() || d.Copy() != nil || d.Sync() != api.ErrArg {
		t.Error("nil")
	}
	for _, i := range append(noSectors, 0) {
		if s, e := d.Read(i); s != "" || e != api.ErrArg {
			t.Errorf("%d: %q %d", i, s, e)
		}
		for _, s := range []string{"", strings.Repeat("x", 65)} {
			if e := d.Write(i, s); e != api.ErrArg {
				t.Error(i, e)
			}
		}
	}
}

// P9.2

func TestCutKeeps(t *testing.T) {
	old, put := strings.Repeat("o", 64), strings.Repeat("n", 64)
	for _, keep := range []uint8{0, 1, 2, 31, 63, 64, 65, 128, 255} {
		d := disk(t, 4)
		write(t, d, 1, old)
		sync(t, d)
		write(t, d, 1, put)
		d.Cut(keep)
		if d.On() {
			t.Error("on")
		}
		d.Start()
		kept := min(int(keep), 64)
		reads(t, d, "", put[:kept]+old[kept:])
	}
}

// The noughts behind a text are written too.
func TestCutKeepsNoughts(t *testing.T) {
	for keep, want := range []string{"older", "nlder", "neder", "ne\x00er", "ne\x00\x00r", "ne"} {
		d := disk(t, 4)
		write(t, d, 0, "older")
		sync(t, d)
		write(t, d, 0, "ne")
		d.Cut(uint8(keep))
		d.Start()
		reads(t, d, want)
	}
}

func TestCutKeepsByTheOrderOfWritings(t *testing.T) {
	keeps := map[string][]uint8{
		"old a|old b|old c": nil,
		"XXX a|old b|old c": {3},
		"old a|old b|YYYYc": {0, 4},
		"old a|ZZZ b|old c": {0, 0, 3},
		"UUU a|old b|old c": {0, 0, 0, 3},
		"UXX a|old b|YYY c": {3, 3, 0, 1},
		"UUXXX|old b|old c": {5, 0, 0, 2, 9, 9},
		"UUUXX|ZZZZZ|YYYYY": {5, 5, 5, 3, 5},
	}
	for want, keep := range keeps {
		d := disk(t, 4)
		for i, s := range []string{"old a", "old b", "old c"} {
			write(t, d, i, s)
		}
		sync(t, d)
		write(t, d, 0, "XXXXX")
		write(t, d, 2, "YYYYY")
		write(t, d, 1, "ZZZZZ")
		write(t, d, 0, "UUUUU")
		d.Cut(keep...)
		d.Start()
		reads(t, d, strings.Split(want, "|")...)
	}
}

func TestNothingWaitsBehindACut(t *testing.T) {
	d := disk(t, 4)
	write(t, d, 0, "a")
	write(t, d, 1, "b")
	d.Cut(0, 1)
	d.Cut(64, 64)
	d.Start()
	sync(t, d)
	d.Cut(64, 64)
	d.Start()
	reads(t, d, "", "b")
	write(t, d, 2, "c") // the writings of a later Cut are counted from 0 on
	d.Cut(64)
	d.Start()
	reads(t, d, "", "b", "c")
}

func TestStartOfWhatIsOn(t *testing.T) {
	d := disk(t, 4)
	write(t, d, 0, "a")
	d.Fuse(1)
	d.Start()
	reads(t, d, "a")
	write(t, d, 1, "b")
	if e := d.Sync(); e != api.ErrPower {
		t.Error(e)
	}
	d.Start()
	reads(t, d)
}

// burn n Writes and Syncs, by turns, each of which tells OK.
func burn(t *testing.T, d *sector.Disk, n int) {
	t.Helper()
	for k := range n {
		if k%3 == 2 {
			sync(t, d)
		} else {
			write(t, d, 3, "burnt")
		}
	}
}

func TestFuse(t *testing.T) {
	for n := range 20 {
		d := disk(t, 4)
		d.Fuse(n)
		burn(t, d, n)
		if e := d.Write(0, "a"); e != api.ErrPower || d.On() {
			t.Error(n, e)
		}
		d = disk(t, 4)
		d.Fuse(n)
		burn(t, d, n)
		if e := d.Sync(); e != api.ErrPower || d.On() {
			t.Error(n, e)
		}
	}
}

// The Write in whose place the Cut is isn't done; the Sync isn't either.
func TestFuseIsACut(t *testing.T) {
	d := disk(t, 4)
	d.Fuse(2, 1, 2, 3)
	write(t, d, 0, "aaaa")
	write(t, d, 1, "bbbb")
	if e := d.Write(2, "cccc"); e != api.ErrPower {
		t.Error(e)
	}
	d.Start()
	reads(t, d, "a", "bb")
	d.Fuse(3, 4, 0, 3)
	write(t, d, 2, "cccc")
	write(t, d, 3, "dddd")
	write(t, d, 3, "eeee")
	if e := d.Sync(); e != api.ErrPower {
		t.Error(e)
	}
	d.Start()
	reads(t, d, "a", "bb", "cccc", "eee")
}

func TestFuseIsGoneBehindACut(t *testing.T) {
	for _, burnt := range []bool{true, false} {
		d := disk(t, 4)
		d.Fuse(1)
		if burnt {
			write(t, d, 0, "a")
			if e := d.Sync(); e != api.ErrPower {
				t.Error(e)
			}
		} else {
			d.Cut()
		}
		d.Start()
		burn(t, d, 9)
		sync(t, d)
		reads(t, d, "", "", "", "burnt")
	}
}

// What tells an error, and what is no Write or Sync, burns nothing, and isn't cut.
func TestFuseLeavesOtherCalls(t *testing.T) {
	for n := range 3 {
		d := disk(t, 8)
		d.Fuse(n)
		for burnt := 0; ; burnt++ {
			for range 5 {
				for _, i := range noSectors {
					if e := d.Write(i, "a"); e != api.ErrRange {
						t.Error(n, i, e)
					}
				}
				if e := d.Write(0, strings.Repeat("x", 65)); e != api.ErrLong {
					t.Error(n, e)
				}
				d.Read(0)
				d.Read(9)
				d.Copy()
				d.Start()
				if !d.On() || d.Count() != 8 {
					t.Error(n, "off")
				}
			}
			if burnt == n {
				break
			}
			burn(t, d, 1)
		}
		if e := d.Write(0, "a"); e != api.ErrPower {
			t.Error(n, e)
		}
	}
}

func TestFuseWhileOff(t *testing.T) {
	d := disk(t, 4)
	d.Cut()
	d.Fuse(1, 1)
	for range 5 {
		if d.Write(0, "a") != api.ErrPower || d.Sync() != api.ErrPower {
			t.Error("on")
		}
	}
	d.Start()
	write(t, d, 0, "aaa")
	if e := d.Sync(); e != api.ErrPower {
		t.Error(e)
	}
	d.Start()
	reads(t, d, "a")
}

func TestAnotherFuse(t *testing.T) {
	d := disk(t, 4)
	d.Fuse(0, 1)
	d.Fuse(2, 3)
	write(t, d, 0, "aaaaa")
	d.Fuse(1)
	d.Fuse(1, 2)
	write(t, d, 1, "bbbbb")
	if e := d.Sync(); e != api.ErrPower {
		t.Error(e)
	}
	d.Start()
	reads(t, d, "aa")
	for _, n := range []int{-1, -2, math.MinInt} {
		d.Fuse(0, 9)
		d.Fuse(n, 9)
		burn(t, d, 30)
	}
	d.Fuse(math.MaxInt, 9)
	burn(t, d, 30)
}

func TestKeepIsNeitherKeptNorChanged(t *testing.T) {
	d := disk(t, 4)
	room := []uint8{1, 200, 7}
	d.Fuse(2, room[:2]...)
	room[0], room[1] = 4, 4
	write(t, d, 0, "aaaa")
	write(t, d, 1, "bbbb")
	if e := d.Sync(); e != api.ErrPower {
		t.Error(e)
	}
	if !slices.Equal(room, []uint8{4, 4, 7}) {
		t.Error(room)
	}
	d.Start()
	reads(t, d, "a", "bbbb")
	write(t, d, 2, "cccc")
	d.Cut(room[:1]...)
	if !slices.Equal(room, []uint8{4, 4, 7}) {
		t.Error(room)
	}
}

func TestCopy(t *testing.T) {
	d := disk(t, 4)
	write(t, d, 0, "lasts")
	sync(t, d)
	write(t, d, 1, "waits")
	d.Fuse(2, 2, 3)
	c := d.Copy()
	if c == nil || c == d {
		t.Fatal("no other disk")
	}
	for i, x := range []*sector.Disk{c, d} {
		if x.Count() != 4 || !x.On() {
			t.Error(i)
		}
		reads(t, x, "lasts", "waits")
		write(t, x, 2, "of one alone"[i:])
		write(t, x, 0, "over")
		reads(t, x, "over", "waits", "of one alone"[i:])
		if e := x.Sync(); e != api.ErrPower {
			t.Error(i, e)
		}
		x.Start()
		reads(t, x, "lasts", "wa", "of one alone"[i:i+3])
	}
	d.Cut()
	if off := d.Copy(); off.On() || !c.On() || off.Count() != 4 {
		t.Error("a copy of what is off")
	}
}

func TestCopiesAreTheirOwn(t *testing.T) {
	d := disk(t, 4)
	write(t, d, 0, "a")
	write(t, d, 0, "b")
	write(t, d, 0, "c") // room behind the writings, if there is some, is shared by none
	c := d.Copy()
	write(t, d, 1, "of d")
	write(t, c, 2, "of c")
	d.Fuse(0)
	c.Fuse(2)
	reads(t, d, "c", "of d")
	reads(t, c, "c", "", "of c")
	sync(t, c)
	reads(t, c, "c", "", "of c")
	if d.Write(0, "") != api.ErrPower || !c.On() {
		t.Error("one's power is the other's")
	}
	d.Start()
	reads(t, d)
	write(t, c, 3, "on")
	reads(t, c, "c", "", "of c", "on")
}

// model of a disk by the chapter's words: each writing's whole, and all that was written.
type model struct {
	last   []string
	waits  []waits
	on     bool
	fuse   int
	keep   []uint8
	burned bool
}

type waits struct {
	at   int
	what string
}

func (m *model) read(i int) string {
	s := m.last[i]
	for _, w := range m.waits {
		if w.at == i {
			s = w.what
		}
	}
	return s
}

func (m *model) cut(keep []uint8) {
	for k, w := range m.waits {
		for b := range 64 {
			if k < len(keep) && b < int(keep[k]) {
				m.last[w.at] = m.last[w.at][:b] + w.what[b:b+1] + m.last[w.at][b+1:]
			}
		}
	}
	m.waits, m.on, m.fuse = nil, false, -1
}

func (m *model) call(done func()) api.Errno {
	if !m.on {
		return api.ErrPower
	}
	if m.fuse == 0 {
		m.cut(m.keep)
		m.burned = true
		return api.ErrPower
	}
	m.fuse = max(m.fuse-1, -1)
	done()
	return api.OK
}

func (m *model) write(i int, s string) api.Errno {
	return m.call(func() { m.waits = append(m.waits, waits{i, full(s)}) })
}

func (m *model) sync() api.Errno {
	return m.call(func() {
		for i := range m.last {
			m.last[i] = m.read(i)
		}
		m.waits = nil
	})
}

func someKeep(r *rand.Rand) []uint8 {
	keep := make([]uint8, r.Intn(6))
	for i := range keep {
		keep[i] = uint8(r.Intn(90))
	}
	return keep
}

func TestByAModel(t *testing.T) {
	r := rand.New(rand.NewSource(9))
	burned := 0
	for range 300 {
		d := disk(t, 4)
		m := &model{last: slices.Repeat([]string{full("")}, 4), on: true, fuse: -1}
		for step := range 60 {
			var got, want api.Errno
			switch r.Intn(10) {
			case 0:
				n, keep := r.Intn(12)-2, someKeep(r)
				d.Fuse(n, keep...)
				m.fuse, m.keep = max(n, -1), keep
			case 1:
				keep := someKeep(r)
				d.Cut(keep...)
				m.cut(keep)
			case 2, 3:
				d.Start()
				m.on = true
			case 4:
				got, want = d.Sync(), m.sync()
			case 5:
				d = d.Copy()
			default:
				i, s := r.Intn(4), strings.Repeat(string(rune('a'+r.Intn(26))), r.Intn(65))
				got, want = d.Write(i, s), m.write(i, s)
			}
			if got != want || d.On() != m.on {
				t.Fatal(step, got, want, d.On())
			}
			for i := range 4 {
				if s, e := d.Read(i); m.on && (e != api.OK || s != m.read(i)) || !m.on && e != api.ErrPower {
					t.Fatalf("%d, sector %d: %q %d, want %q", step, i, s, e, m.read(i))
				}
			}
		}
		if m.burned {
			burned++
		}
	}
	if burned < 100 {
		t.Error("few fuses burned:", burned)
	}
}
