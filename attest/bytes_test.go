package attest_test

import (
	"slices"
	"strings"
	"testing"

	"plumbob/api"
	"plumbob/attest"
	"plumbob/xmss"
)

// P22.2

func TestEncodeAndDecode(t *testing.T) {
	for i, a := range some(t) {
		was := cloned(a)
		b, e := a.Encode()
		if e != api.OK || b != bytesOf(a) || !alike(a, was) {
			t.Errorf("%d: %.100q %d", i, b, e)
		}
		if x, e := attest.Decode(b); e != api.OK || !alike(x, a) {
			t.Errorf("%d: %d %d %q %d, %d", i, x.Epoch, x.Band, x.Header, x.Number, e)
		}
	}
}

func TestEncodeByHand(t *testing.T) {
	a := attest.Attestation{
		Epoch:  0x01020304,
		Band:   15,
		Header: strings.Repeat("h", 16),
		Number: 63,
		Sig:    xmss.Sig{Index: 9, Chains: slices.Repeat([]string{strings.Repeat("c", 16)}, 35), Path: []string{strings.Repeat("d", 16)}},
	}
	want := "\x01\x02\x03\x04\x0f\x00\x3f" + strings.Repeat("h", 16) + "\x02\x42\x09" + strings.Repeat("c", 35*16) + "\x01" + strings.Repeat("d", 16)
	if b, e := a.Encode(); b != want || e != api.OK {
		t.Errorf("%q %d", b, e)
	}
	if x, e := attest.Decode(want); !alike(x, a) || e != api.OK {
		t.Error(x, e)
	}
}

func TestDecodedOnesAreVerified(t *testing.T) {
	k := keyOf(t, "seed", 2)
	a := signed(t, k, 3, attestation())
	x, e := attest.Decode(bytesOf(a))
	if e != api.OK || !x.Verify(k.Public()) || x.Clash(a) || x.Message() != a.Message() {
		t.Error(e)
	}
}

func wrong(t *testing.T, b string, want api.Errno) {
	t.Helper()
	if a, e := attest.Decode(b); e != want || !isZero(a) {
		t.Errorf("%.60q (%d bytes): %d, want %d", b, len(b), e, want)
	}
}

func TestDecodeOfTooShortAndTooLongOnes(t *testing.T) {
	a := attestation()
	for path := 0; path <= api.MaxHeight; path++ {
		a.Sig = handSig(path, path)
		b := bytesOf(a)
		for n := range len(b) {
			wrong(t, b[:n], api.ErrShort)
		}
		for _, more := range []string{"\x00", "x", b, strings.Repeat("x", 5000)} {
			wrong(t, b+more, api.ErrLong)
		}
	}
}

// A Text's length above MaxText is layer 2's ErrForm, whether or not the bytes are there.
func TestDecodeOfLongTexts(t *testing.T) {
	ahead := bytesOf(attestation())[:23]
	for _, n := range []int{4097, 1 << 15, 1<<16 - 1} {
		long := textOf(strings.Repeat("x", n))
		for _, end := range []int{2, 3, len(long) - 1, len(long)} {
			wrong(t, ahead+long[:end], api.ErrForm)
			wrong(t, "\xff\xff\xff\xff\x10\x00\x40"+ahead[7:]+long[:end], api.ErrForm) // ahead of ErrRange
		}
	}
	wrong(t, ahead+textOf(strings.Repeat("\x00", 4096)), api.ErrLong) // a Text, but too long for a signature
}

// wrongSigs: bytes of no signature, with what is told of them.
func wrongSigs() map[string]api.Errno {
	s := sigBytes(handSig(3, 4))
	return map[string]api.Errno{
		"": api.ErrShort, s[:len(s)-1]: api.ErrShort, s[:561]: api.ErrShort, s + "x": api.ErrLong, s + s: api.ErrLong,
		"\x40" + s[1:]: api.ErrForm, "\xff" + s[1:] + "x": api.ErrForm, "\xff" + s[1:100]: api.ErrShort,
		s[:561] + "\x07" + strings.Repeat("p", 7*16): api.ErrForm,
		s[:561] + "\x07" + strings.Repeat("p", 5*16): api.ErrShort,
	}
}

// wrongPlaces of a band, or a number, that may not be.
func wrongPlaces() []string {
	var l []string
	for band := 16; band < 256; band++ {
		l = append(l, string([]byte{0, 0, 0, 1, byte(band), 0, 7}))
	}
	for _, number := range []int{64, 65, 66, 127, 128, 255, 256, 257, 263, 512, 1<<14 + 7, 1<<15 + 7, 65535} {
		l = append(l, string([]byte{0, 0, 0, 1, 5, byte(number >> 8), byte(number)}))
	}
	return append(l, "\x00\x00\x00\x00\xff\xff\xff", "\xff\xff\xff\xff\x10\x00\x40")
}

func TestDecodeOfNoSignature(t *testing.T) {
	ahead := bytesOf(attestation())[:23]
	for no, want := range wrongSigs() {
		wrong(t, ahead+textOf(no), want)
		wrong(t, ahead+textOf(no)+"x", api.ErrLong) // layer 2's errors are ahead
		wrong(t, ahead+textOf(no)[:1+len(no)], api.ErrShort)
		for _, place := range wrongPlaces() { // layer 8's are ahead of ErrRange
			wrong(t, place+ahead[7:]+textOf(no), want)
		}
	}
}

func TestDecodeOfBandsAndNumbersThatMayNotBe(t *testing.T) {
	b := bytesOf(attestation())
	for _, place := range wrongPlaces() {
		wrong(t, place+b[7:], api.ErrRange)
		wrong(t, place+b[7:]+"x", api.ErrLong) // layer 2's errors are ahead
		wrong(t, place+b[7:len(b)-1], api.ErrShort)
		wrong(t, place, api.ErrShort)
	}
}

// Any band and number that may be, any epoch, any digest.
func TestDecodeOfAllPlaces(t *testing.T) {
	rest := textOf(sigBytes(handSig(1, 2)))
	for band := range 16 {
		for number := range 64 {
			for _, epoch := range []string{"\x00\x00\x00\x00", "\x00\x00\x00\x01", "\x80\x00\x00\x00", "\xff\xff\xff\xff"} {
				b := epoch + string([]byte{byte(band), 0, byte(number)}) + digest16 + rest
				a, e := attest.Decode(b)
				if e != api.OK || a.Band != band || a.Number != number || a.Header != digest16 || bytesOf(a) != b {
					t.Errorf("%q %d %d: %d", epoch, band, number, e)
				}
			}
		}
	}
}

// Changed bytes are another attestation, or none; none that the key verifies.
func TestChangedBytesAreNotVerified(t *testing.T) {
	k := keyOf(t, "seed", 1)
	a := signed(t, k, 1, attestation())
	b := bytesOf(a)
	for i := range len(b) {
		for bit := range 8 {
			c := []byte(b)
			c[i] ^= 1 << bit
			x, e := attest.Decode(string(c))
			if e == api.OK && (alike(a, x) || x.Verify(k.Public())) || e != api.OK && !isZero(x) {
				t.Errorf("byte %d, bit %d", i, bit)
			}
		}
	}
}

func TestDecodedOnesAreNewMemory(t *testing.T) {
	b := bytesOf(attestation())
	a, _ := attest.Decode(b)
	x, _ := attest.Decode(b)
	for i := range a.Sig.Chains {
		a.Sig.Chains[i] = "x"
	}
	for i := range a.Sig.Path {
		a.Sig.Path[i] = "x"
	}
	if !alike(x, attestation()) {
		t.Error("shared")
	}
}

// The room behind an attestation's lists is left as it is.
func TestNothingHandedInIsChanged(t *testing.T) {
	k := keyOf(t, "seed", 2)
	a := signed(t, k, 1, attestation())
	chains, path := append(slices.Clone(a.Sig.Chains), "behind"), append(slices.Clone(a.Sig.Path), "behind")
	a.Sig.Chains, a.Sig.Path = chains[:35], path[:2]
	if _, e := a.Encode(); e != api.OK || !a.Verify(k.Public()) || a.Clash(a) {
		t.Error(e)
	}
	if chains[35] != "behind" || path[2] != "behind" {
		t.Error("changed")
	}
}
