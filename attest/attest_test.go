package attest_test

import (
	"math"
	"slices"
	"testing"

	"plumbob/api"
	"plumbob/attest"
	"plumbob/digits"
	"plumbob/merkle"
	"plumbob/wots"
	"plumbob/xmss"
)

// P22.1

func TestMessage(t *testing.T) {
	for _, a := range some(t) {
		if m := a.Message(); m != messageOf(a) || len(m) != 16 {
			t.Errorf("%d %d %q %d: %q", a.Epoch, a.Band, a.Header, a.Number, m)
		}
	}
}

func TestMessageByHand(t *testing.T) {
	a := attest.Attestation{Epoch: 0x01020304, Band: 15, Header: "hhhhhhhhhhhhhhhh", Number: 63}
	if m := a.Message(); m != tagged(18, "\x01\x02\x03\x04\x0f\x00\x3f", "hhhhhhhhhhhhhhhh") {
		t.Errorf("%q", m)
	}
}

// The signature isn't in its message: whatever it is, the message is there, and the same.
func TestMessageWithoutASignature(t *testing.T) {
	a := attestation()
	want := a.Message()
	for _, s := range append(noSigs(), handSig(0, 0), handSig(63, 6)) {
		a.Sig = s
		if m := a.Message(); m != want || m == "" {
			t.Errorf("%d: %q", s.Index, m)
		}
	}
}

func TestMessagesOfOthers(t *testing.T) {
	a := attestation()
	seen := map[string]bool{a.Message(): true}
	for _, b := range changedOnes(a) {
		if seen[b.Message()] {
			t.Errorf("%d %d %q %d", b.Epoch, b.Band, b.Header, b.Number)
		}
		seen[b.Message()] = true
	}
}

func TestNoMessage(t *testing.T) {
	for _, a := range append(spoiled(attestation()), attest.Attestation{}) {
		if m := a.Message(); m != "" {
			t.Errorf("%d %d %.20q %d: %q", a.Epoch, a.Band, a.Header, a.Number, m)
		}
	}
}

func TestVerify(t *testing.T) {
	for height := range 3 {
		k := keyOf(t, "seed", height)
		for i, a := range append(changedOnes(attestation()), attestation()) {
			a = signed(t, k, i%k.Count(), a)
			was := cloned(a)
			if !a.Verify(k.Public()) || !alike(a, was) {
				t.Errorf("%d: %d %d %q %d", height, a.Epoch, a.Band, a.Header, a.Number)
			}
		}
	}
}

func TestVerifyOfAnotherOne(t *testing.T) {
	k := keyOf(t, "seed", 1)
	a := signed(t, k, 1, attestation())
	for _, b := range append(changedOnes(a), spoiled(a)...) {
		if b.Verify(k.Public()) {
			t.Errorf("%d %d %.20q %d", b.Epoch, b.Band, b.Header, b.Number)
		}
	}
	for _, p := range []xmss.Public{{}, keyOf(t, "seee", 1).Public(), keyOf(t, "seed", 0).Public(), keyOf(t, "seed", 2).Public()} {
		if a.Verify(p) {
			t.Error(p)
		}
	}
	for _, s := range append(noSigs(), handSig(1, 1), signed(t, k, 1, changedOnes(a)[0]).Sig) {
		b := a
		b.Sig = s
		if b.Verify(k.Public()) {
			t.Error("another signature", s.Index)
		}
	}
	moved := cloned(a)
	moved.Sig.Index = 0
	changed := cloned(a)
	changed.Sig.Chains[34] = "x" + changed.Sig.Chains[34][1:]
	if moved.Verify(k.Public()) || changed.Verify(k.Public()) {
		t.Error("a changed signature")
	}
}

// One that may not be isn't verified, whatever was signed: not the empty message, nor what would be its own one.
func TestVerifyOfOneThatMayNotBe(t *testing.T) {
	k := keyOf(t, "seed", 1)
	empty, _ := k.Sign(0, "")
	for _, a := range append(spoiled(attestation()), attest.Attestation{}) {
		a.Sig = empty
		if !k.Public().Verify(a.Message(), a.Sig) || a.Verify(k.Public()) {
			t.Errorf("%d %d %.20q %d, the empty message", a.Epoch, a.Band, a.Header, a.Number)
		}
		if a = signed(t, k, 1, a); a.Verify(k.Public()) {
			t.Errorf("%d %d %.20q %d", a.Epoch, a.Band, a.Header, a.Number)
		}
	}
}

// handMade: a key of a greater height, and a signature by it, that has no bytes.
func handMade(message string, height int) (xmss.Public, xmss.Sig) {
	path := slices.Repeat([]string{"beside"}, height)
	p := xmss.Public{Open: wots.Open("seed"), Height: height}
	digest := tagged(6, p.Open, "\x00\x00\x00\x40", message)
	chains, _ := wots.Sign("seed", 64, digest)
	p.Root = merkle.Climb(wots.Public("seed", 64), 64, path)
	return p, xmss.Sig{Index: 64, Chains: chains, Path: path}
}

// Whether it may be goes by its numbers and its digest: what the key verifies is layer 8's.
func TestVerifyByAKeyMadeByHand(t *testing.T) {
	a := attestation()
	p, s := handMade(a.Message(), 7)
	a.Sig = s
	if !p.Verify(a.Message(), s) || !a.Verify(p) {
		t.Error("a signature that its key verifies")
	}
}

func clash(t *testing.T, a, b attest.Attestation, want bool) {
	t.Helper()
	was, behind := cloned(a), cloned(b)
	if a.Clash(b) != want || b.Clash(a) != want || !alike(a, was) || !alike(b, behind) {
		t.Errorf("%d %d %.20q %d and %d %d %.20q %d: not %v", a.Epoch, a.Band, a.Header, a.Number, b.Epoch, b.Band, b.Header, b.Number, want)
	}
}

func TestClash(t *testing.T) {
	a := attestation()
	clash(t, a, a, false)
	for _, b := range changedOnes(a) {
		clash(t, a, b, b.Header != a.Header)
		b.Header = digest16[1:] + "y"
		clash(t, a, b, b.Epoch == a.Epoch && b.Band == a.Band && b.Number == a.Number)
	}
}

// The signatures aren't looked at.
func TestClashOfOtherSignatures(t *testing.T) {
	a := attestation()
	b := signed(t, keyOf(t, "seed", 1), 1, a)
	clash(t, a, b, false)
	b.Header = digest16[1:] + "y"
	clash(t, a, b, true)
	b.Sig = a.Sig
	clash(t, a, b, true)
	b.Sig = xmss.Sig{}
	clash(t, a, b, true)
}

// Also of such as may not be: the promise bounds neither numbers nor digests.
func TestClashOfOnesThatMayNotBe(t *testing.T) {
	a := attestation()
	for _, b := range spoiled(a) {
		clash(t, b, b, false)
		clash(t, a, b, b.Header != a.Header)
		c := b
		c.Header += "x"
		clash(t, b, c, true)
	}
	clash(t, attest.Attestation{}, attest.Attestation{}, false)
	clash(t, attest.Attestation{}, attest.Attestation{Header: "x"}, true)
	clash(t, attest.Attestation{Epoch: math.MaxUint64}, attest.Attestation{Epoch: 1<<32 - 1, Header: "x"}, false)
}

// noSigs: signatures without bytes.
func noSigs() []xmss.Sig {
	short := handSig(0, 2)
	short.Path = []string{"0123456789abcdef", "x"}
	long := handSig(0, 0)
	long.Chains = slices.Clone(long.Chains)
	long.Chains[7] += "x"
	return []xmss.Sig{{}, handSig(-1, 2), handSig(64, 2), handSig(math.MaxInt, 2), handSig(3, 7), handSig(3, 19), {Chains: handSig(0, 0).Chains[:34]}, {Chains: slices.Repeat(handSig(0, 0).Chains, 2)[:digits.All+1]}, short, long}
}

func unwritten(t *testing.T, a attest.Attestation, what string) {
	t.Helper()
	if b, e := a.Encode(); b != "" || e != api.ErrRange {
		t.Errorf("%s: %.60q %d", what, b, e)
	}
}

// P22.2, of what has no bytes.
func TestEncodeOfWrongOnes(t *testing.T) {
	for _, a := range spoiled(attestation()) {
		unwritten(t, a, "a number, or the digest")
		for _, s := range noSigs() {
			a.Sig = s
			unwritten(t, a, "a number, or the digest, and a signature")
		}
	}
	a := attestation()
	for _, s := range noSigs() {
		a.Sig = s
		unwritten(t, a, "a signature")
	}
	unwritten(t, attest.Attestation{}, "the zero one")
}
