package wots_test

import (
	"crypto/sha256"
	"encoding/binary"
	"math"
	"slices"
	"strings"
	"testing"

	"plumbob/api"
	"plumbob/wots"
)

// tagged by the library of Go's own.
func tagged(tag byte, l ...string) string {
	b := []byte{tag}
	for _, s := range l {
		b = binary.BigEndian.AppendUint32(b, uint32(len(s)))
		b = append(b, s...)
	}
	d := sha256.Sum256(b)
	return string(d[:16])
}

func placeOf(leaf, chain, step int) string {
	b := binary.BigEndian.AppendUint32(nil, uint32(leaf))
	return string(append(b, byte(chain), byte(step)))
}

func openOf(seed string) string { return tagged(3, seed) }

// walked: the steps of a chain from one on, behind one another.
func walked(open string, leaf, chain, from, to int, x string) string {
	for k := from; k < to; k++ {
		x = tagged(2, open, placeOf(leaf, chain, k), x)
	}
	return x
}

func secretOf(seed string, leaf, chain int) string {
	return tagged(1, seed, placeOf(leaf, chain, 0))
}

func publicOf(seed string, leaf int) string {
	l := []string{openOf(seed), placeOf(leaf, 0, 0)}
	for c := range 35 {
		l = append(l, walked(openOf(seed), leaf, c, 0, 15, secretOf(seed, leaf, c)))
	}
	return tagged(4, l...)
}

// digitsOf a digest and its check.
func digitsOf(digest string) []int {
	var l []int
	left := 0
	for _, b := range []byte(digest) {
		l = append(l, int(b>>4), int(b&15))
		left += 30 - int(b>>4) - int(b&15)
	}
	return append(l, left/256, left/16%16, left%16)
}

func signed(seed string, leaf int, digest string) []string {
	var l []string
	for c, n := range digitsOf(digest) {
		l = append(l, walked(openOf(seed), leaf, c, 0, n, secretOf(seed, leaf, c)))
	}
	return l
}

func sign(t *testing.T, seed string, leaf int, digest string) []string {
	t.Helper()
	s, e := wots.Sign(seed, leaf, digest)
	if e != api.OK || len(s) != 35 {
		t.Fatal(e, len(s))
	}
	return s
}

func recovered(t *testing.T, open string, leaf int, digest string, sig []string) string {
	t.Helper()
	p, e := wots.Recover(open, leaf, digest, sig)
	if e != api.OK || len(p) != 16 {
		t.Fatal(e, len(p))
	}
	return p
}

var seeds = []string{"", "seed", "\x00", "\xff\xfe", strings.Repeat("long", 300)}

var leaves = []int{0, 1, 63, 255, 256, 65536, 1 << 24, 0x01020304, 1<<32 - 1, 1 << 32, 1<<32 + 7, -1, -256, math.MaxInt, math.MinInt}

// P6.1

func TestOpen(t *testing.T) {
	for _, s := range seeds {
		if wots.Open(s) != openOf(s) {
			t.Errorf("%.10q", s)
		}
	}
}

func TestWalkFromEachStepToEachOther(t *testing.T) {
	open := openOf("seed")
	for from := range 16 {
		for to := range 16 {
			if wots.Walk(open, 5, 9, from, to, "x") != walked(open, 5, 9, from, to, "x") {
				t.Error(from, to)
			}
		}
	}
}

func TestWalkFromAndToAnyNumber(t *testing.T) {
	open := openOf("seed")
	numbers := []int{math.MinInt, -257, -256, -1, 0, 1, 7, 14, 15, 16, 17, 255, 256, 257, math.MaxInt}
	for _, from := range numbers {
		for _, to := range numbers {
			want := walked(open, 1, 2, max(from, 0), min(to, 15), "x")
			if wots.Walk(open, 1, 2, from, to, "x") != want {
				t.Error(from, to)
			}
			if to <= from && want != "x" {
				t.Error("the model walks back", from, to)
			}
		}
	}
}

func TestWalkAtEachPlace(t *testing.T) {
	open := openOf("place")
	for _, leaf := range leaves {
		for _, chain := range []int{0, 1, 34, 35, 255, 256, 300, -1, math.MaxInt, math.MinInt} {
			if wots.Walk(open, leaf, chain, 3, 5, "x") != walked(open, leaf, chain, 3, 5, "x") {
				t.Error(leaf, chain)
			}
		}
	}
	if wots.Walk(open, 1<<32+7, 256+3, 0, 2, "x") != wots.Walk(open, 7, 3, 0, 2, "x") {
		t.Error("a place isn't modulo its bytes")
	}
	if wots.Walk(open, -1, -1, 0, 2, "x") != wots.Walk(open, 1<<32-1, 255, 0, 2, "x") {
		t.Error("a place below 0 isn't modulo its bytes")
	}
}

func TestWalkOfAnyText(t *testing.T) {
	for _, open := range seeds {
		for _, x := range seeds {
			if wots.Walk(open, 1, 2, 0, 3, x) != walked(open, 1, 2, 0, 3, x) {
				t.Errorf("%.10q, %.10q", open, x)
			}
			if wots.Walk(open, 1, 2, 4, 4, x) != x || wots.Walk(open, 1, 2, 9, 4, x) != x {
				t.Errorf("%.10q isn't itself", x)
			}
		}
	}
}

func TestWalkGoesOn(t *testing.T) {
	x := wots.Walk("open", 3, 4, 0, 15, "x")
	for k := range 16 {
		if wots.Walk("open", 3, 4, k, 15, wots.Walk("open", 3, 4, 0, k, "x")) != x {
			t.Error(k)
		}
	}
}

func TestPublic(t *testing.T) {
	for _, s := range seeds {
		if wots.Public(s, 5) != publicOf(s, 5) {
			t.Errorf("%.10q", s)
		}
	}
	for _, leaf := range leaves {
		if wots.Public("seed", leaf) != publicOf("seed", leaf) {
			t.Error(leaf)
		}
	}
	if wots.Public("seed", 1) == wots.Public("seed", 2) || wots.Public("seed", 1) == wots.Public("seee", 1) {
		t.Error("two leaves or seeds have one key")
	}
}

// P6.2

var digests = []string{
	strings.Repeat("\x00", 16),
	strings.Repeat("\xff", 16),
	"\x01\x23\x45\x67\x89\xab\xcd\xef\xfe\xdc\xba\x98\x76\x54\x32\x10",
	tagged(99, "a"),
	tagged(99, "b"),
}

func TestSign(t *testing.T) {
	for _, d := range digests {
		for _, leaf := range leaves {
			if s := sign(t, "seed", leaf, d); !slices.Equal(s, signed("seed", leaf, d)) {
				t.Errorf("%d, %x", leaf, d)
			}
		}
		for _, seed := range seeds {
			if s := sign(t, seed, 1, d); !slices.Equal(s, signed(seed, 1, d)) {
				t.Errorf("%.10q, %x", seed, d)
			}
		}
	}
}

func TestSignNoDigest(t *testing.T) {
	for _, n := range []int{0, 1, 15, 17, 32, 1000} {
		if s, e := wots.Sign("seed", 5, strings.Repeat("d", n)); e != api.ErrArg || len(s) != 0 {
			t.Error(n, s, e)
		}
	}
}

func TestRecoverOfAnySignature(t *testing.T) {
	sig := make([]string, 35)
	for c := range sig {
		sig[c] = tagged(99, "sig", string(rune(c)))
	}
	for _, d := range digests {
		for _, leaf := range leaves {
			l := []string{"open", placeOf(leaf, 0, 0)}
			for c, n := range digitsOf(d) {
				l = append(l, walked("open", leaf, c, n, 15, sig[c]))
			}
			if recovered(t, "open", leaf, d, sig) != tagged(4, l...) {
				t.Errorf("%d, %x", leaf, d)
			}
		}
	}
}

func TestRecoverNoDigest(t *testing.T) {
	sig := signed("seed", 5, digests[3])
	for _, n := range []int{0, 1, 15, 17, 32, 1000} {
		for _, s := range [][]string{sig, sig[1:], nil} { // ErrArg is ahead of ErrForm
			if p, e := wots.Recover(openOf("seed"), 5, strings.Repeat("d", n), s); e != api.ErrArg || p != "" {
				t.Error(n, len(s), p, e)
			}
		}
	}
}

func TestRecoverNoSignature(t *testing.T) {
	sig := signed("seed", 5, digests[3])
	wrong := [][]string{nil, {}, sig[:1], sig[:34], sig[1:], append(slices.Clone(sig), sig[0]), append(slices.Clone(sig), ""), append(slices.Clone(sig), sig...)}
	for c := range sig {
		for _, x := range []string{"", sig[c][1:], sig[c] + "x", sig[c] + sig[c]} {
			s := slices.Clone(sig)
			s[c] = x
			wrong = append(wrong, s)
		}
	}
	joined := slices.Clone(sig) // as many bytes in all
	joined[3], joined[4] = sig[3]+sig[4][:1], sig[4][1:]
	for _, s := range append(wrong, joined) {
		if p, e := wots.Recover(openOf("seed"), 5, digests[3], s); e != api.ErrForm || p != "" {
			t.Error(len(s), p, e)
		}
	}
}

func TestNothingHandedInIsChanged(t *testing.T) {
	room := append(signed("seed", 5, digests[3]), "behind")
	was := slices.Clone(room)
	recovered(t, openOf("seed"), 5, digests[3], room[:35])
	if !slices.Equal(room, was) {
		t.Error("the signature was changed")
	}
	a, b := sign(t, "seed", 5, digests[3]), sign(t, "seed", 5, digests[3])
	a[0] = "x"
	if !slices.Equal(b, was[:35]) {
		t.Error("two signatures share their memory")
	}
}

// P6.3

func TestRecoverOfSignIsThePublicKey(t *testing.T) {
	for _, d := range digests {
		for _, leaf := range leaves {
			if recovered(t, wots.Open("seed"), leaf, d, sign(t, "seed", leaf, d)) != wots.Public("seed", leaf) {
				t.Errorf("%d, %x", leaf, d)
			}
		}
		for _, seed := range seeds {
			if recovered(t, wots.Open(seed), 1, d, sign(t, seed, 1, d)) != wots.Public(seed, 1) {
				t.Errorf("%.10q, %x", seed, d)
			}
		}
	}
}

func TestRecoverOfAnotherDigestIsAnotherKey(t *testing.T) {
	open, p := wots.Open("seed"), wots.Public("seed", 5)
	for _, d := range digests {
		sig := sign(t, "seed", 5, d)
		for bit := range 128 {
			b := []byte(d)
			b[bit/8] ^= 1 << (bit % 8)
			if recovered(t, open, 5, string(b), sig) == p {
				t.Errorf("%x, bit %d", d, bit)
			}
		}
	}
}

func TestRecoverWithAnotherTextIsAnotherKey(t *testing.T) {
	open, p := wots.Open("seed"), wots.Public("seed", 5)
	for _, d := range digests {
		sig := sign(t, "seed", 5, d)
		for c := range sig {
			for _, at := range []int{0, 15} {
				b := []byte(sig[c])
				b[at] ^= 1
				s := slices.Clone(sig)
				s[c] = string(b)
				if recovered(t, open, 5, d, s) == p {
					t.Errorf("%x, chain %d", d, c)
				}
			}
		}
		s := slices.Clone(sig)
		s[0], s[1] = sig[1], sig[0]
		if recovered(t, open, 5, d, s) == p {
			t.Errorf("%x: two texts of it in each other's place", d)
		}
	}
}

func TestRecoverElsewhereIsAnotherKey(t *testing.T) {
	d := digests[3]
	sig, p := sign(t, "seed", 5, d), wots.Public("seed", 5)
	if recovered(t, wots.Open("seed"), 6, d, sig) == p || recovered(t, wots.Open("seee"), 5, d, sig) == p {
		t.Error("of another leaf or seed")
	}
}

// Whoever walks a signature's texts on, to a digest whose digits are all above, can't walk those of its check back.
func TestNoSignatureIsWalkedOn(t *testing.T) {
	open, p := wots.Open("seed"), wots.Public("seed", 5)
	low, high := strings.Repeat("\x37", 16), strings.Repeat("\x49", 16)
	a, b := digitsOf(low), digitsOf(high)
	s := sign(t, "seed", 5, low)
	for c := range s {
		s[c] = wots.Walk(open, 5, c, a[c], b[c], s[c])
	}
	if recovered(t, open, 5, high, s) == p {
		t.Error("a signature of another digest was made of one")
	}
}
