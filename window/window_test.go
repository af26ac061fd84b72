package window_test

import (
	"crypto/sha256"
	"encoding/binary"
	"math"
	"slices"
	"strings"
	"testing"

	"plumbob/api"
	"plumbob/window"
)

// tagged by the library of Go's own.
func tagged(tag byte, l ...string) string {
	b := []byte{tag}
	for _, s := range l {
		b = binary.BigEndian.AppendUint32(b, uint32(len(s)))
		b = append(b, s...)
	}
	d := sha256.Sum256(b)
	return string(d[:16])
}

// numbers of a seed's stream, the first ones.
func numbers(seed string, n int) []uint64 {
	var l []uint64
	for i := 0; len(l) < n; i++ {
		d := sha256.Sum256(binary.BigEndian.AppendUint32([]byte(seed), uint32(i)))
		for k := 0; k < 32; k += 8 {
			l = append(l, binary.BigEndian.Uint64(d[k:]))
		}
	}
	return l[:n]
}

// windowOf by the chapter's words. No number of so few is left out: that is
// less likely than one of 2^58.
func windowOf(seed string, band, auditors, slots int) []int {
	var l []int
	for i := 0; i < auditors; i++ {
		l = append(l, i)
	}
	for k, n := range numbers(tagged(17, seed, string([]byte{byte(band)})), slots) {
		place := k + int(n%uint64(auditors-k))
		l[k], l[place] = l[place], l[k]
	}
	return l[:slots]
}

func of(t *testing.T, seed string, band, auditors, slots int) []int {
	t.Helper()
	l, e := window.Of(seed, band, auditors, slots)
	if e != api.OK {
		t.Fatalf("%.20q %d %d %d: %d", seed, band, auditors, slots, e)
	}
	return l
}

func none(t *testing.T, seed string, band, auditors, slots int, want api.Errno) {
	t.Helper()
	if l, e := window.Of(seed, band, auditors, slots); len(l) != 0 || e != want {
		t.Errorf("%.20q %d %d %d: %v %d, want %d", seed, band, auditors, slots, l, e, want)
	}
}

var seeds = []string{"", "seed", "seee", "\x00", "\x00\x00", "\xff\xfe", "0123456789abcdef", "ж", strings.Repeat("long", 300)}

// What may not be, of each argument.
var (
	noBands    = []int{-1, -16, -256, math.MinInt, 16, 17, 255, 256, 257, 1 << 32, math.MaxInt}
	noAuditors = []int{-1, -64, -1 << 32, math.MinInt, 65, 66, 128, 1 << 32, math.MaxInt}
	noSlots    = []int{0, -1, -2, -64, -1 << 32, math.MinInt}
)

// P21.1

func TestWindowByWords(t *testing.T) {
	for _, seed := range seeds {
		for band := range 16 {
			for auditors := 1; auditors <= api.MaxNames; auditors += 1 + auditors/4 {
				for slots := 1; slots <= auditors; slots += 1 + slots/3 {
					if l := of(t, seed, band, auditors, slots); !slices.Equal(l, windowOf(seed, band, auditors, slots)) {
						t.Errorf("%.20q %d %d %d: %v", seed, band, auditors, slots, l)
					}
				}
			}
		}
	}
	for slots := 1; slots <= api.MaxNames; slots++ {
		if l := of(t, "seed", 15, api.MaxNames, slots); !slices.Equal(l, windowOf("seed", 15, api.MaxNames, slots)) {
			t.Error(slots, l)
		}
	}
}

func TestWindowByHand(t *testing.T) {
	for _, x := range []struct {
		seed                  string
		band, auditors, slots int
		want                  []int
	}{
		{"seed", 0, 1, 1, []int{0}},
		{"seed", 0, 4, 4, []int{3, 2, 0, 1}},
		{"seed", 1, 4, 4, []int{0, 3, 2, 1}},
		{"seed", 2, 10, 6, []int{3, 5, 8, 0, 4, 1}},
		{"seed", 15, 64, 7, []int{42, 28, 25, 23, 33, 52, 12}},
		{"", 0, 7, 7, []int{4, 3, 0, 5, 6, 1, 2}},
		{"0123456789abcdef", 3, 64, 12, []int{4, 36, 2, 50, 43, 40, 17, 55, 34, 6, 33, 51}},
	} {
		if l := of(t, x.seed, x.band, x.auditors, x.slots); !slices.Equal(l, x.want) {
			t.Errorf("%q %d %d %d: %v", x.seed, x.band, x.auditors, x.slots, l)
		}
	}
}

// All auditors have a slot, where there are as many slots.
func TestWholeWindow(t *testing.T) {
	for auditors := 1; auditors <= api.MaxNames; auditors++ {
		for band := range 16 {
			l := of(t, "seed", band, auditors, auditors)
			slices.Sort(l)
			for i, n := range l {
				if i != n {
					t.Fatal(auditors, band, l)
				}
			}
			if len(l) != auditors {
				t.Error(auditors, band, l)
			}
		}
	}
}

// Further slots leave those ahead of them as they are.
func TestWindowsOfOneSeedBeginAlike(t *testing.T) {
	for _, auditors := range []int{1, 2, 5, 63, 64} {
		whole := of(t, "seed", 3, auditors, auditors)
		for slots := 1; slots <= auditors; slots++ {
			if l := of(t, "seed", 3, auditors, slots); !slices.Equal(l, whole[:slots]) {
				t.Error(auditors, slots, l)
			}
		}
	}
}

func TestWindowsOfOthers(t *testing.T) {
	seen := map[string]int{}
	for i, seed := range seeds {
		for band := range 16 {
			l := of(t, seed, band, 64, 64)
			b := make([]byte, len(l))
			for k, n := range l {
				b[k] = byte(n)
			}
			if x, ok := seen[string(b)]; ok {
				t.Errorf("%.20q %d as %d: %v", seed, band, x, l)
			}
			seen[string(b)] = 16*i + band
		}
	}
}

// Each auditor comes to each slot, about as often.
func TestEachAuditorAtEachSlot(t *testing.T) {
	const auditors, rounds = 5, 2000
	var often [auditors][auditors]int
	for i := range rounds {
		for slot, n := range of(t, string([]byte{byte(i >> 8), byte(i)}), i%16, auditors, auditors) {
			often[slot][n]++
		}
	}
	for slot := range often {
		for n, k := range often[slot] {
			if k < 320 || k > 480 {
				t.Error(slot, n, k)
			}
		}
	}
}

func TestWindowsThatMayNotBe(t *testing.T) {
	for _, seed := range seeds {
		for _, band := range noBands {
			none(t, seed, band, 10, 4, api.ErrArg)
		}
		for _, auditors := range noAuditors {
			none(t, seed, 2, auditors, 4, api.ErrArg)
		}
		for _, slots := range noSlots {
			none(t, seed, 2, 10, slots, api.ErrArg)
			none(t, seed, 2, 0, slots, api.ErrArg)
		}
		for auditors := range api.MaxNames + 1 {
			for _, slots := range []int{auditors + 1, auditors + 2, 65, 1 << 32, 1<<32 + 1, math.MaxInt} {
				none(t, seed, 15, auditors, slots, api.ErrCount)
			}
		}
	}
}

func TestNoWindowAheadOfTooManySlots(t *testing.T) {
	for _, slots := range []int{11, 65, 66, math.MaxInt} { // ErrArg is ahead of ErrCount
		for _, band := range noBands {
			none(t, "seed", band, 10, slots, api.ErrArg)
		}
	}
	for _, auditors := range noAuditors {
		none(t, "seed", 2, auditors, math.MaxInt, api.ErrArg)
	}
}

// What is done with one window can be told neither from itself, behind its end, nor from another one.
func TestWindowsAreNewMemory(t *testing.T) {
	for _, auditors := range []int{1, 6, 64} {
		for slots := 1; slots <= auditors; slots++ {
			a, b := of(t, "seed", 1, auditors, slots), of(t, "seed", 1, auditors, slots)
			if cap(a) != slots {
				t.Error("spare room behind", auditors, slots, cap(a))
			}
			for i := range a {
				a[i] = -1
			}
			if want := windowOf("seed", 1, auditors, slots); !slices.Equal(b, want) || !slices.Equal(of(t, "seed", 1, auditors, slots), want) {
				t.Error("shared", auditors, slots)
			}
		}
	}
}

// P21.2

func TestSlot(t *testing.T) {
	l := []int{5, 0, 3, 5, -1, math.MaxInt, math.MinInt, 3}
	was := slices.Clone(l)
	for number, want := range map[int]int{5: 0, 0: 1, 3: 2, -1: 4, math.MaxInt: 5, math.MinInt: 6} {
		if i, ok := window.Slot(l, number); i != want || !ok {
			t.Error(number, i, ok)
		}
	}
	for _, number := range []int{1, 2, 4, 6, -2, 5 + 256, 5 + 1<<32, math.MaxInt - 1, math.MinInt + 1} {
		if i, ok := window.Slot(l, number); i != 0 || ok {
			t.Error(number, i, ok)
		}
	}
	if !slices.Equal(l, was) {
		t.Error("changed", l)
	}
}

func TestSlotOfNone(t *testing.T) {
	behind := []int{7, 0, 1, -1, math.MaxInt, math.MinInt} // what is behind the end doesn't count
	for _, l := range [][]int{nil, {}, behind[:0], behind[:1]} {
		for _, number := range []int{0, 1, -1, math.MaxInt, math.MinInt} {
			if i, ok := window.Slot(l, number); i != 0 || ok {
				t.Error(l, number, i, ok)
			}
		}
	}
}

func TestSlotsOfAWindow(t *testing.T) {
	l := of(t, "seed", 4, 64, 20)
	for number := -3; number < 70; number++ {
		place := slices.Index(l, number)
		i, ok := window.Slot(l, number)
		if ok != (place >= 0) || i != max(place, 0) {
			t.Error(number, i, ok)
		}
	}
}

// leastNeeded by the chapter's words, of small numbers.
func leastNeeded(slots, faulty int) int {
	q := 0
	for 2*q <= max(slots, 0)+max(faulty, 0) {
		q++
	}
	return q
}

func TestNeeded(t *testing.T) {
	for slots := -3; slots <= 70; slots++ {
		for faulty := -3; faulty <= 70; faulty++ {
			if q := window.Needed(slots, faulty); q != leastNeeded(slots, faulty) {
				t.Error(slots, faulty, q)
			}
		}
	}
}

func TestNeededOfGreatNumbers(t *testing.T) {
	const most = 1 << 20
	for _, x := range [][3]int{
		{most, 0, most/2 + 1},
		{most - 1, 0, most / 2},
		{most, most, most + 1},
		{most - 1, most, most},
		{most, 1, most/2 + 1},
		{most - 1, most - 1, most},
	} {
		if q := window.Needed(x[0], x[1]); q != x[2] {
			t.Error(x, q)
		}
		if q := window.Needed(x[1], x[0]); q != x[2] {
			t.Error(x, q, "the other way round")
		}
	}
	for _, great := range []int{most + 1, most + 2, 1 << 21, 1<<31 - 1, 1 << 32, 1 << 62, math.MaxInt - 1, math.MaxInt} {
		for _, n := range []int{0, 1, 4, most - 1, most} {
			if window.Needed(great, n) != window.Needed(most, n) || window.Needed(n, great) != window.Needed(n, most) {
				t.Error(great, n)
			}
		}
		if q := window.Needed(great, great); q != most+1 {
			t.Error(great, q)
		}
		if q := window.Needed(great, -great); q != most/2+1 {
			t.Error(great, -great, q)
		}
	}
	for _, small := range []int{-1, -2, -most, -1 << 32, math.MinInt + 1, math.MinInt} {
		if window.Needed(small, 5) != 3 || window.Needed(5, small) != 3 || window.Needed(small, small) != 1 {
			t.Error(small)
		}
	}
}

// inBoth counts what two sets of slots have in common; a set's bits are its slots.
func inBoth(a, b int) int {
	n := 0
	for x := a & b; x > 0; x >>= 1 {
		n += x & 1
	}
	return n
}

// Two sets of q slots have one in common that isn't faulty; of one less each some haven't.
func TestNeededSetsMeet(t *testing.T) {
	for slots := range 9 {
		sets := map[int][]int{} // by how many slots they have
		for x := range 1 << slots {
			sets[inBoth(x, x)] = append(sets[inBoth(x, x)], x)
		}
		least := func(size int) int {
			n := slots
			for _, a := range sets[size] {
				for _, b := range sets[size] {
					n = min(n, inBoth(a, b))
				}
			}
			return n
		}
		for faulty := range slots {
			q := window.Needed(slots, faulty)
			if q > slots || least(q) <= faulty || least(q-1) > faulty {
				t.Error(slots, faulty, q)
			}
		}
	}
}
