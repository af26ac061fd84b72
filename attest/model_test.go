package attest_test

import (
	"crypto/sha256"
	"encoding/binary"
	"math"
	"slices"
	"strings"
	"testing"

	"plumbob/api"
	"plumbob/attest"
	"plumbob/xmss"
)

const digest16 = "0123456789abcde\x80"

// tagged by the library of Go's own.
func tagged(tag byte, l ...string) string {
	b := []byte{tag}
	for _, s := range l {
		b = binary.BigEndian.AppendUint32(b, uint32(len(s)))
		b = append(b, s...)
	}
	d := sha256.Sum256(b)
	return string(d[:16])
}

// placeOf an attestation, by the chapter's words.
func placeOf(a attest.Attestation) string {
	b := binary.BigEndian.AppendUint32(nil, uint32(a.Epoch))
	b = append(b, byte(a.Band))
	return string(binary.BigEndian.AppendUint16(b, uint16(a.Number)))
}

func messageOf(a attest.Attestation) string { return tagged(18, placeOf(a), a.Header) }

// sigBytes by the words of layer 8.
func sigBytes(s xmss.Sig) string {
	return string([]byte{byte(s.Index)}) + strings.Join(s.Chains, "") + string([]byte{byte(len(s.Path))}) + strings.Join(s.Path, "")
}

// textOf: a text with its length ahead.
func textOf(s string) string {
	return string([]byte{byte(len(s) >> 8), byte(len(s))}) + s
}

// bytesOf an attestation, by the chapter's words.
func bytesOf(a attest.Attestation) string {
	return placeOf(a) + a.Header + textOf(sigBytes(a.Sig))
}

// handSig has bytes, and is verified by no key.
func handSig(index, path int) xmss.Sig {
	texts := slices.Repeat([]string{"0123456789abcdef", "\x00\xff34567890123456"}, 20)
	return xmss.Sig{Index: index, Chains: texts[:35], Path: texts[1 : 1+path]}
}

func keyOf(t *testing.T, seed string, height int) *xmss.Key {
	t.Helper()
	k, e := xmss.New(seed, height)
	if e != api.OK {
		t.Fatal(e)
	}
	return k
}

// signed by a key's index: its message by the chapter's words.
func signed(t *testing.T, k *xmss.Key, index int, a attest.Attestation) attest.Attestation {
	t.Helper()
	s, e := k.Sign(index, messageOf(a))
	if e != api.OK {
		t.Fatal(e)
	}
	a.Sig = s
	return a
}

func attestation() attest.Attestation {
	return attest.Attestation{Epoch: 0x01020304, Band: 5, Header: digest16, Number: 7, Sig: handSig(3, 4)}
}

// changedOnes: an attestation with other numbers, or another digest, one at a time.
func changedOnes(a attest.Attestation) []attest.Attestation {
	var l []attest.Attestation
	add := func(f func(b *attest.Attestation)) {
		b := a
		f(&b)
		if !alike(a, b) {
			l = append(l, b)
		}
	}
	for _, epoch := range epochs {
		add(func(b *attest.Attestation) { b.Epoch = epoch })
	}
	for band := range 16 {
		add(func(b *attest.Attestation) { b.Band = band })
	}
	for number := range 64 {
		add(func(b *attest.Attestation) { b.Number = number })
	}
	for _, digest := range digests {
		add(func(b *attest.Attestation) { b.Header = digest })
	}
	return l
}

// spoiled ones: each with a number, or a digest, that may not be.
func spoiled(a attest.Attestation) []attest.Attestation {
	var l []attest.Attestation
	add := func(f func(b *attest.Attestation)) {
		b := a
		f(&b)
		l = append(l, b)
	}
	for _, epoch := range noEpochs {
		add(func(b *attest.Attestation) { b.Epoch = epoch })
	}
	for _, band := range noBands {
		add(func(b *attest.Attestation) { b.Band = band })
	}
	for _, number := range noNumbers {
		add(func(b *attest.Attestation) { b.Number = number })
	}
	for _, digest := range noDigests {
		add(func(b *attest.Attestation) { b.Header = digest })
	}
	return l
}

// What an attestation may have, and what it may not.
var (
	epochs    = []uint64{0, 1, 2, 127, 128, 255, 256, 257, 65535, 65536, 1 << 24, 1<<31 - 1, 1 << 31, 1<<32 - 2, 1<<32 - 1}
	digests   = []string{strings.Repeat("\x00", 16), strings.Repeat("\xff", 16), digest16, digest16[1:] + "x", strings.Repeat("ж", 8)}
	noEpochs  = []uint64{1 << 32, 1<<32 + 1, 1<<32 + 0x01020304, 1<<33 - 1, 1 << 40, 1<<63 - 1, 1 << 63, math.MaxUint64 - 1, math.MaxUint64}
	noBands   = []int{-1, -11, -16, -256, -251, math.MinInt, 16, 17, 21, 128, 255, 256, 256 + 5, 1 << 32, 1<<32 + 5, math.MaxInt}
	noNumbers = []int{-1, -57, -64, -65536, -65529, math.MinInt, 64, 65, 128, 255, 256, 263, 65535, 65536, 65543, 1<<32 + 7, math.MaxInt}
	noDigests = []string{"", "x", digest16[1:], digest16 + "x", digest16 + digest16, strings.Repeat("x", 5000), strings.Repeat("ж", 16)}
)

// some that have bytes.
func some(t *testing.T) []attest.Attestation {
	a := attestation()
	l := append(changedOnes(a), a, signed(t, keyOf(t, "seed", 2), 3, a))
	for path := 0; path <= api.MaxHeight; path++ {
		for _, index := range []int{0, 1, 62, 63} {
			a.Sig = handSig(index, path)
			l = append(l, a)
		}
	}
	return l
}

func cloned(a attest.Attestation) attest.Attestation {
	a.Sig = xmss.Sig{Index: a.Sig.Index, Chains: slices.Clone(a.Sig.Chains), Path: slices.Clone(a.Sig.Path)}
	return a
}

func sigsAlike(s, u xmss.Sig) bool {
	return s.Index == u.Index && slices.Equal(s.Chains, u.Chains) && slices.Equal(s.Path, u.Path)
}

func alike(a, b attest.Attestation) bool {
	return a.Epoch == b.Epoch && a.Band == b.Band && a.Header == b.Header && a.Number == b.Number && sigsAlike(a.Sig, b.Sig)
}

func isZero(a attest.Attestation) bool { return alike(a, attest.Attestation{}) }
