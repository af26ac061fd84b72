package bits_test

import (
	"fmt"
	"math"
	"math/rand"
	"strconv"
	"strings"
	"testing"

	"plumbob/bits"
)

// written: a text's bits as noughts and ones, of each byte the highest first.
func written(s string) string {
	var b strings.Builder
	for i := range len(s) {
		fmt.Fprintf(&b, "%08b", s[i])
	}
	return b.String()
}

// bitOf a text by what is written of it.
func bitOf(s string, depth int) int {
	w := written(s)
	if depth < 0 || depth >= len(w) {
		return 0
	}
	return int(w[depth] - '0')
}

// begins: the first bits, with noughts where there are none.
func begins(s string, depth int) string {
	return (written(s) + strings.Repeat("0", 128))[:depth]
}

func key(beginning string) string {
	return beginning + strings.Repeat("\x00", 16-len(beginning))
}

func someText(r *rand.Rand, size int) string {
	b := make([]byte, size)
	r.Read(b)
	return string(b)
}

// texts: keys, shorter and longer ones.
func texts() []string {
	r := rand.New(rand.NewSource(12))
	l := []string{
		"", "\x00", "\xff", "\x80", "\x01", "\xa5", "ж", "\xff\xfe", key(""), key("\xa5"), strings.Repeat("\x00", 15) + "\x01", strings.Repeat("\xff", 15), strings.Repeat("\xff", 16),
		strings.Repeat("\xff", 17), strings.Repeat("\x00", 16) + "\x80", strings.Repeat("long", 100),
	}
	for size := range 20 {
		l = append(l, someText(r, size))
	}
	return l
}

var depths = []int{math.MinInt, math.MinInt + 1, math.MinInt + 128, -1 << 32, -129, -128, -127, -64, -16, -9, -8, -7, -2, -1, 200, 255, 256, 257, 1 << 16, 1 << 31, 1 << 32, 1<<32 + 1, 1 << 60, 1 << 61, math.MaxInt - 1, math.MaxInt}

// P12.1

func TestSize(t *testing.T) {
	if bits.Size != 128 {
		t.Error(bits.Size)
	}
}

func TestBit(t *testing.T) {
	for _, s := range texts() {
		for depth := -20; depth < 8*len(s)+20; depth++ {
			if b := bits.Bit(s, depth); b != bitOf(s, depth) {
				t.Errorf("%.20q, %d: %d", s, depth, b)
			}
		}
	}
	ones := strings.Repeat("\xff", 16)
	for _, depth := range depths {
		if b := bits.Bit(ones, depth); b != 0 {
			t.Error(depth, b)
		}
	}
	for depth := range 128 {
		if bits.Bit(ones, depth) != 1 {
			t.Error(depth)
		}
	}
}

func TestBitOfOneAlone(t *testing.T) {
	for one := range 128 {
		b := make([]byte, 16)
		b[one/8] = 128 >> (one % 8)
		for depth := range 130 {
			if (bits.Bit(string(b), depth) == 1) != (depth == one) {
				t.Error(one, depth)
			}
		}
	}
}

// commonOf two texts by what is written of them.
func commonOf(a, b string) int {
	v, w := written(a), written(b)
	n := min(len(v), len(w))
	for i := range n {
		if v[i] != w[i] {
			return i
		}
	}
	return n
}

func common(t *testing.T, a, b string, want int) {
	t.Helper()
	if n, m := bits.Common(a, b), bits.Common(b, a); n != want || m != want {
		t.Errorf("%.20q, %.20q: %d, %d, want %d", a, b, n, m, want)
	}
}

func TestCommon(t *testing.T) {
	for _, a := range texts() {
		for _, b := range texts() {
			common(t, a, b, commonOf(a, b))
		}
	}
	k := key("\xa5")
	common(t, k, k, 128)
	common(t, k, k+"x", 128)
	common(t, k+"x", k+"x", 136)
	common(t, k, k[:15], 120)
	common(t, k, "\xa5", 8)
	common(t, k, "", 0)
	common(t, "", "", 0)
	common(t, "\xa5", "\xa4", 7)
	common(t, "\xa5", "\x25", 0)
}

func TestCommonUpToEachBit(t *testing.T) {
	r := rand.New(rand.NewSource(1))
	for range 20 {
		a := someText(r, 16)
		for i := range 128 {
			b := []byte(someText(r, 16))
			copy(b, a[:i/8])
			low := byte(1)<<(8-i%8) - 1
			b[i/8] = a[i/8]&^low | b[i/8]&low
			b[i/8] = b[i/8]&^(128>>(i%8)) | ^a[i/8]&(128>>(i%8))
			common(t, a, string(b), i)
		}
	}
}

func below(t *testing.T, k, beginning string, depth int, want bool) {
	t.Helper()
	if bits.Below(k, beginning, depth) != want || bits.Below(beginning, k, depth) != want {
		t.Errorf("%.20q, %.20q, %d: not %t", k, beginning, depth, want)
	}
}

func TestBelow(t *testing.T) {
	for _, a := range texts() {
		for _, b := range texts() {
			for depth := -3; depth < 140; depth++ {
				below(t, a, b, depth, begins(a, min(max(depth, 0), 128)) == begins(b, min(max(depth, 0), 128)))
			}
		}
	}
}

func TestBelowOfAnyDepth(t *testing.T) {
	k := key("\xa5")
	for _, depth := range depths {
		below(t, k, "\x5a", depth, depth <= 0)
		below(t, k, "\xa5", depth, true)
		below(t, k, k[:15]+"\x01", depth, depth <= 0)
		below(t, k, k+"x", depth, true) // alike by 128 bits, and no more are asked
	}
	below(t, k, k[:15]+"\x01", 127, true)
	below(t, k, k[:15]+"\x01", 128, false)
	below(t, k, "\xa0", 5, true)
	below(t, k, "\xa0", 6, false)
}

// A bit that one hasn't is 0.
func TestBelowOfShortOnes(t *testing.T) {
	below(t, "", "", 128, true)
	below(t, key(""), "", 128, true)
	below(t, strings.Repeat("\x00", 15)+"\x01", "", 127, true)
	below(t, strings.Repeat("\x00", 15)+"\x01", "", 128, false)
	below(t, "\x80", "", 0, true)
	below(t, "\x80", "", 1, false)
	below(t, "\x40", "", 1, true)
	below(t, "\x40", "", 2, false)
}

// P12.2

func TestBand(t *testing.T) {
	for _, s := range texts() {
		for depth := range 17 {
			want := int64(0)
			if depth > 0 {
				want, _ = strconv.ParseInt(begins(s, depth), 2, 64)
			}
			if n := bits.Band(s, depth); n != int(want) {
				t.Errorf("%.20q, %d: %d, want %d", s, depth, n, want)
			}
		}
	}
	if n := bits.Band(key("\xa0"), 3); n != 5 {
		t.Error(n)
	}
	if n := bits.Band(strings.Repeat("\xff", 16), 16); n != 65535 {
		t.Error(n)
	}
}

func TestBandOfNoDepth(t *testing.T) {
	for _, s := range []string{"", "\xff", strings.Repeat("\xff", 16), strings.Repeat("\xff", 40)} {
		for _, depth := range append([]int{0, 17, 18, 31, 32, 63, 64, 127, 128, 129}, depths...) {
			if n := bits.Band(s, depth); n != 0 {
				t.Errorf("%.20q, %d: %d", s, depth, n)
			}
		}
	}
}

// first: the key by what is written of its band.
func first(band, depth int) string {
	w := ""
	if depth > 0 {
		w = fmt.Sprintf("%0*b", depth, band)
	}
	w = (w + strings.Repeat("0", 128))[:128]
	b := make([]byte, 16)
	for i := range b {
		n, _ := strconv.ParseUint(w[8*i:8*i+8], 2, 8)
		b[i] = byte(n)
	}
	return string(b)
}

func TestFirst(t *testing.T) {
	for depth := range 17 {
		for band := range 1 << depth {
			k := bits.First(band, depth)
			if k != first(band, depth) {
				t.Fatalf("%d, %d: %q", band, depth, k)
			}
			if bits.Band(k, depth) != band {
				t.Fatal(band, depth)
			}
		}
	}
}

// The first key and the last one of a band, and those beside them.
func TestTheEndsOfABand(t *testing.T) {
	for depth := range 17 {
		for _, band := range []int{0, 1, 1<<depth/2 - 1, 1 << depth / 2, 1<<depth - 2, 1<<depth - 1} {
			if band < 0 || band >= 1<<depth {
				continue
			}
			low := bits.First(band, depth)
			high := []byte(low)
			for i := depth; i < 128; i++ {
				high[i/8] |= 128 >> (i % 8)
			}
			for _, k := range []string{low, string(high)} {
				if bits.Band(k, depth) != band || !bits.Below(k, low, depth) {
					t.Errorf("%d, %d: %q", band, depth, k)
				}
			}
			if band+1 < 1<<depth {
				next := bits.First(band+1, depth)
				if bits.Band(next, depth) != band+1 || bits.Below(next, low, depth) || next <= string(high) {
					t.Errorf("%d, %d: %q", band, depth, next)
				}
			}
		}
	}
}

func TestFirstOfNoBand(t *testing.T) {
	none := [][2]int{{0, 0}, {1, 0}, {-1, 0}, {2, 1}, {-1, 1}, {16, 4}, {-1, 4}, {17, 4}, {31, 4}, {255, 4}, {256, 8}, {257, 8}, {65536, 16}, {65537, 16}, {-1, 16}, {1 << 31, 16}, {1 << 32, 16}, {1<<32 + 1, 16}, {1 << 62, 16}, {math.MaxInt, 16}, {math.MinInt, 16}, {math.MinInt + 1, 16}, {1, 17}, {65535, 17}, {1, 127}, {1, 128}}
	for _, depth := range depths {
		none = append(none, [2]int{0, depth}, [2]int{1, depth}, [2]int{-1, depth}, [2]int{math.MaxInt, depth}, [2]int{math.MinInt, depth}, [2]int{65535, depth})
	}
	for depth := range 17 {
		none = append(none, [2]int{1 << depth, depth}, [2]int{1<<depth + 1, depth}, [2]int{-1, depth}, [2]int{1 - 1<<depth - 2, depth}, [2]int{depths[0], depth})
	}
	for _, x := range none {
		if k := bits.First(x[0], x[1]); k != key("") {
			t.Errorf("%d, %d: %q", x[0], x[1], k)
		}
	}
}
