package digits_test

import (
	"crypto/sha256"
	"encoding/hex"
	"math"
	"math/rand"
	"slices"
	"strconv"
	"strings"
	"testing"

	"plumbob/api"
	"plumbob/digits"
)

// model reads a digest's digits off its hexadecimal form.
func model(s string) []int {
	var l []int
	sum := 0
	for _, r := range hex.EncodeToString([]byte(s)) {
		n, _ := strconv.ParseInt(string(r), 16, 0)
		l = append(l, int(n))
		sum += 15 - int(n)
	}
	return append(l, sum>>8, sum>>4&15, sum&15)
}

func digest(s string) string {
	b := sha256.Sum256([]byte(s))
	return string(b[:16])
}

// of the digest, that is right.
func of(t *testing.T, s string) []int {
	t.Helper()
	l, e := digits.Of(s)
	if e != api.OK || len(l) != digits.All {
		t.Fatalf("%x: %v, %d", s, l, e)
	}
	return l
}

// isBelow tells whether a digit of a is below that of b at its place.
func isBelow(a, b []int) bool {
	for i := range a {
		if a[i] < b[i] {
			return true
		}
	}
	return false
}

func TestConstants(t *testing.T) {
	if digits.Digest != 32 || digits.Check != 3 || digits.All != 35 || digits.Most != 15 {
		t.Error(digits.Digest, digits.Check, digits.All, digits.Most)
	}
}

// P5.1

func TestOfKnownDigests(t *testing.T) {
	for s, want := range map[string][]int{
		strings.Repeat("\x00", 16): append(make([]int, 32), 1, 14, 0),
		strings.Repeat("\xff", 16): append(slices.Repeat([]int{15}, 32), 0, 0, 0),
		strings.Repeat("\x0f", 16): append(slices.Repeat([]int{0, 15}, 16), 0, 15, 0),
		"\x01\x23\x45\x67\x89\xab\xcd\xef\xfe\xdc\xba\x98\x76\x54\x32\x10": {
			0, 1, 2, 3, 4, 5, 6, 7, 8, 9, 10, 11, 12, 13, 14, 15,
			15, 14, 13, 12, 11, 10, 9, 8, 7, 6, 5, 4, 3, 2, 1, 0, 0, 15, 0},
		"\xe0" + strings.Repeat("\x00", 15):     append(append([]int{14}, make([]int, 31)...), 1, 13, 2),
		strings.Repeat("\xff", 15) + "\xfe":     append(append(slices.Repeat([]int{15}, 31), 14), 0, 0, 1),
		strings.Repeat("\xff", 14) + "\x00\xfe": append(append(slices.Repeat([]int{15}, 28), 0, 0, 15, 14), 0, 1, 15),
		strings.Repeat("\x00", 15) + "\xf1":     append(append(make([]int, 30), 15, 1), 1, 13, 0),
		strings.Repeat("\xff", 7) + "aaaaaaaaa": append(append(slices.Repeat([]int{15}, 14), slices.Repeat([]int{6, 1}, 9)...), 0, 12, 15),
	} {
		if l := of(t, s); !slices.Equal(l, want) {
			t.Errorf("%x: %v, want %v", s, l, want)
		}
	}
}

func TestOfManyDigests(t *testing.T) {
	for i := range 2000 {
		s := digest(strconv.Itoa(i))
		if l := of(t, s); !slices.Equal(l, model(s)) {
			t.Fatalf("%x: %v, want %v", s, l, model(s))
		}
	}
}

func TestOfEachByte(t *testing.T) {
	for at := range 16 {
		for b := range 256 {
			d := make([]byte, 16)
			d[at] = byte(b)
			if l := of(t, string(d)); !slices.Equal(l, model(string(d))) {
				t.Fatalf("%x: %v", d, l)
			}
		}
	}
}

func TestOfNoDigest(t *testing.T) {
	for n := range 100 {
		l, e := digits.Of(strings.Repeat("\x01", n))
		if n == 16 {
			continue
		}
		if e != api.ErrArg || len(l) != 0 {
			t.Error(n, l, e)
		}
	}
	// Sixteen runes aren't sixteen bytes.
	if l, e := digits.Of(strings.Repeat("é", 16)); e != api.ErrArg || len(l) != 0 {
		t.Error(l, e)
	}
	if _, e := digits.Of(strings.Repeat("é", 8)); e != api.OK {
		t.Error(e)
	}
}

func TestOfIsNew(t *testing.T) {
	s := digest("new")
	a, b := of(t, s), of(t, s)
	a[0], a[34] = 99, 99
	if !slices.Equal(b, model(s)) || !slices.Equal(of(t, s), model(s)) {
		t.Error("two answers share their memory")
	}
}

func TestLeft(t *testing.T) {
	for n := -40; n <= 40; n++ {
		want := 0
		if n >= 0 && n <= 15 {
			want = 15 - n
		}
		if l := digits.Left([]int{n}); len(l) != 1 || l[0] != want {
			t.Error(n, l)
		}
	}
	l := digits.Left([]int{math.MinInt, 3, math.MaxInt, 0, 15, 256, 16, -1, -16})
	if !slices.Equal(l, []int{0, 12, 0, 15, 0, 0, 0, 0, 0}) {
		t.Error(l)
	}
	if len(digits.Left(nil)) != 0 || len(digits.Left([]int{})) != 0 {
		t.Error("of no numbers")
	}
}

func TestLeftOfManyNumbers(t *testing.T) {
	all := make([]int, 1000)
	for i := range all {
		all[i] = i % 16
	}
	for i, n := range digits.Left(all) {
		if n != 15-i%16 {
			t.Fatal(i, n)
		}
	}
}

func TestLeftChangesNothing(t *testing.T) {
	room := []int{1, 2, 99, 99}
	l := digits.Left(room[:2])
	if !slices.Equal(room, []int{1, 2, 99, 99}) {
		t.Error(room)
	}
	if l[0] = 7; !slices.Equal(room, []int{1, 2, 99, 99}) {
		t.Error("the answer shares memory with what was handed in")
	}
}

// P5.2

func TestEachIsBelowTheOther(t *testing.T) {
	var all [][]int
	for i := range 300 {
		all = append(all, of(t, digest(strconv.Itoa(i))))
	}
	for i, a := range all {
		for j, b := range all {
			if isBelow(a, b) != (i != j) {
				t.Fatal(i, j)
			}
		}
	}
}

// Digests near one another are those whose digits might all be above the other's, but for the check's.
func TestEachIsBelowItsNeighbours(t *testing.T) {
	r := rand.New(rand.NewSource(5))
	for i := range 200 {
		d := []byte(digest(strconv.Itoa(i)))
		switch i % 4 {
		case 0:
			clear(d)
		case 1:
			for j := range d {
				d[j] = 0xff
			}
		}
		a := of(t, string(d))
		for at := range 16 {
			for range 8 {
				n := slices.Clone(d)
				n[at] ^= byte(1 + r.Intn(255))
				b := of(t, string(n))
				if !isBelow(a, b) || !isBelow(b, a) {
					t.Fatalf("%x, %x", d, n)
				}
			}
		}
	}
}

func TestEachIsBelowWhereAllDigitsRise(t *testing.T) {
	for from := range 16 {
		for to := from + 1; to < 16; to++ {
			for n := 1; n <= 16; n++ {
				low := strings.Repeat(string([]byte{byte(17 * from)}), 16)
				high := strings.Repeat(string([]byte{byte(17 * to)}), n) + low[n:]
				a, b := of(t, low), of(t, high)
				if !isBelow(a, b) || !isBelow(b, a) {
					t.Fatalf("%x, %x", low, high)
				}
			}
		}
	}
}
