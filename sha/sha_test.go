package sha_test

import (
	"crypto/sha256"
	"encoding/binary"
	"encoding/hex"
	"math"
	"slices"
	"strings"
	"testing"

	"plumbob/sha"
)

// sum by the library of Go's own.
func sum(s string) string {
	b := sha256.Sum256([]byte(s))
	return string(b[:])
}

// mixed is a text of so many bytes, that hold all values.
func mixed(n int) string {
	b := make([]byte, n)
	for i := range b {
		b[i] = byte(i*7 + i>>8)
	}
	return string(b)
}

func TestSizes(t *testing.T) {
	if sha.Size != 32 || sha.Short != 16 {
		t.Error(sha.Size, sha.Short)
	}
}

// P3.1

func TestSumOfKnownTexts(t *testing.T) {
	for s, want := range map[string]string{
		"":    "e3b0c44298fc1c149afbf4c8996fb92427ae41e4649b934ca495991b7852b855",
		"abc": "ba7816bf8f01cfea414140de5dae2223b00361a396177a9cb410ff61f20015ad",
		"abcdbcdecdefdefgefghfghighijhijkijkljklmklmnlmnomnopnopq":                                                         "248d6a61d20638b8e5c026930c3e6039a33ce45964ff2167f6ecedd419db06c1",
		"abcdefghbcdefghicdefghijdefghijkefghijklfghijklmghijklmnhijklmnoijklmnopjklmnopqklmnopqrlmnopqrsmnopqrstnopqrstu": "cf5b16a778af8380036ce59e7b0492370b249b11e8f07a51afac45037afee9d1",
		strings.Repeat("a", 1000000): "cdc76e5c9914fb9281a1c7e284d73e67f1809a48a497200e046d39ccc7112cd0",
	} {
		if got := sha.Sum(s); len(got) != sha.Size || sha.Hex(got) != want {
			t.Errorf("%.20q: %x, want %s", s, got, want)
		}
	}
	if sha.Sum() != sum("") || sha.Sum("", "", "") != sum("") {
		t.Error("of no text")
	}
}

func TestSumOfEachLength(t *testing.T) {
	for n := range 400 {
		s := mixed(n)
		if got := sha.Sum(s); got != sum(s) {
			t.Fatalf("%d: %x, want %x", n, got, sum(s))
		}
	}
	for _, n := range []int{1 << 13, 1<<13 - 1, 1<<16 + 57, 1<<21 + 1} { // lengths in bits of three bytes and more
		if s := mixed(n); sha.Sum(s) != sum(s) {
			t.Error(n)
		}
	}
}

func TestSumOfParts(t *testing.T) {
	for _, n := range []int{1, 2, 55, 56, 63, 64, 65, 119, 128, 130} {
		s := mixed(n)
		for i := range n + 1 {
			j := (i + n) / 2
			if sha.Sum(s[:i], s[i:]) != sum(s) || sha.Sum("", s[:i], "", s[i:j], s[j:], "") != sum(s) {
				t.Fatal(n, i)
			}
		}
		if sha.Sum(strings.Split(s, "")...) != sum(strings.Join(strings.Split(s, ""), "")) {
			t.Fatal(n)
		}
	}
	if sha.Sum("b", "a") == sha.Sum("a", "b") {
		t.Error("order")
	}
}

// tagged by the words of the chapter.
func tagged(tag byte, l ...string) string {
	s := string([]byte{tag})
	for _, x := range l {
		s += string(binary.BigEndian.AppendUint32(nil, uint32(len(x)))) + x
	}
	return sum(s)[:16]
}

func TestTagged(t *testing.T) {
	for _, l := range [][]string{
		nil, {""}, {"", ""}, {"a"}, {"a", "b"}, {"ab"}, {"", "ab"}, {"ab", ""}, {"b", "a"}, {"\xff\x00ж"},
		{mixed(50), mixed(64)}, {mixed(55)}, {mixed(59)}, {mixed(60)}, {mixed(255), mixed(256), mixed(257)},
		{mixed(0x010203), "x"}, {strings.Repeat("z", 0x01020304)}, strings.Split(mixed(300), ""),
	} {
		for _, tag := range []byte{0, 1, 18, 127, 128, 255} {
			if got := sha.Tagged(tag, l...); got != tagged(tag, l...) {
				t.Errorf("%d %.20q: %x, want %x", tag, l, got, tagged(tag, l...))
			}
			if len(l) > 0 && len(l[0]) > 1<<20 {
				break
			}
		}
	}
}

func TestTaggedOnesAreApart(t *testing.T) {
	seen := map[string]int{}
	for tag := range 256 {
		seen[sha.Tagged(byte(tag), "a", "b")]++
		seen[sha.Tagged(byte(tag), "ab")]++
		seen[sha.Tagged(byte(tag))]++
		seen[sha.Tagged(byte(tag), "")]++
	}
	if len(seen) != 4*256 {
		t.Error(len(seen))
	}
}

func TestTextsStay(t *testing.T) {
	room := []string{"a", "b", "c"}
	l := room[:2]
	sha.Sum(l...)
	sha.Tagged(1, l...)
	if !slices.Equal(room, []string{"a", "b", "c"}) {
		t.Error(room)
	}
}

func TestHex(t *testing.T) {
	for s, want := range map[string]string{
		"": "", "\x00": "00", "\x0f\xf0": "0ff0", "abc": "616263", "\xde\xad\xbe\xef": "deadbeef", "ж": "d0b6", "\xff": "ff",
	} {
		if got := sha.Hex(s); got != want {
			t.Errorf("%q: %q, want %q", s, got, want)
		}
	}
	for i := range 256 {
		s := string([]byte{byte(i)})
		if got := sha.Hex(s); got != hex.EncodeToString([]byte(s)) {
			t.Errorf("%x: %q", s, got)
		}
	}
	if s := mixed(100000); sha.Hex(s) != hex.EncodeToString([]byte(s)) {
		t.Error("of a long text")
	}
}

// P3.2

// A model of a stream has its numbers by the words of the chapter.
type model struct {
	seed string
	at   int
}

func (m *model) next() uint64 {
	digest := sum(m.seed + string(binary.BigEndian.AppendUint32(nil, uint32(m.at/4))))
	n := binary.BigEndian.Uint64([]byte(digest[8*(m.at%4):]))
	m.at++
	return n
}

func (m *model) below(n uint64) uint64 {
	multiple := math.MaxUint64 / n * n
	for {
		if x := m.next(); x < multiple {
			return x % n
		}
	}
}

var seeds = []string{"", "s", "seed", "\x00", "\xff\x00", strings.Repeat("long", 50), "s\x00\x00\x00\x00"}

func TestBelow(t *testing.T) {
	for _, seed := range seeds {
		for _, n := range []uint64{
			2, 3, 7, 10, 64, 1000, 1 << 32, 1<<32 + 1, 1 << 61, 1<<62 - 1, 1 << 62, 1<<63 - 1, 1 << 63, 1<<63 + 1,
			math.MaxUint64/3 + 1, math.MaxUint64 - 1, math.MaxUint64,
		} {
			x, m := sha.NewStream(seed), &model{seed: seed}
			for i := range 100 {
				if got, want := x.Below(n), m.below(n); got != want {
					t.Fatalf("%q, number %d below %d: %d, want %d", seed, i, n, got, want)
				}
			}
		}
	}
}

// TestBelowLeavesOut counts that numbers are left out, also where n is a power of 2.
func TestBelowLeavesOut(t *testing.T) {
	for _, n := range []uint64{1 << 62, 1 << 63, 1<<63 + 1} {
		m := &model{seed: "s"}
		for range 100 {
			m.below(n)
		}
		if m.at <= 100 {
			t.Errorf("below %d none is left out: this test's own inputs are too tame", n)
		}
		x := sha.NewStream("s")
		for range 100 {
			x.Below(n)
		}
		if got, want := x.Below(math.MaxUint64), m.below(math.MaxUint64); got != want {
			t.Errorf("behind a hundred below %d: %d, want %d", n, got, want)
		}
	}
}

func TestBelowOfMany(t *testing.T) {
	x, m := sha.NewStream("many"), &model{seed: "many"}
	for i := range 4 * 700 { // more digests than a byte counts
		n := uint64(i)*uint64(i)*uint64(i)*977 + 2
		if got, want := x.Below(n), m.below(n); got != want {
			t.Fatalf("number %d below %d: %d, want %d", i, n, got, want)
		}
	}
}

func TestBelowOfNothing(t *testing.T) {
	x, m := sha.NewStream("s"), &model{seed: "s"}
	for i := range 20 {
		if x.Below(0) != 0 || x.Below(1) != 0 || x.Below(1) != 0 {
			t.Error("not 0")
		}
		if got, want := x.Below(1000), m.below(1000); got != want {
			t.Fatalf("number %d: %d, want %d", i, got, want)
		}
	}
	var none *sha.Stream
	if none.Below(0) != 0 || none.Below(1) != 0 || none.Below(2) != 0 || none.Below(math.MaxUint64) != 0 {
		t.Error("of nil: not 0")
	}
}

func TestStreamsAreTheirOwn(t *testing.T) {
	x, y := sha.NewStream("s"), sha.NewStream("s")
	var l []uint64
	for range 10 {
		l = append(l, x.Below(1<<40))
	}
	for _, want := range l {
		sha.NewStream("s").Below(3)
		if got := y.Below(1 << 40); got != want {
			t.Fatal(got, want)
		}
	}
}
