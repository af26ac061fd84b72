package proof_test

import (
	"math/rand"
	"slices"
	"strings"
	"testing"

	"plumbob/api"
	"plumbob/proof"
)

// textOf: a text with its length ahead.
func textOf(s string) string {
	return string([]byte{byte(len(s) >> 8), byte(len(s))}) + s
}

// bytesOf a proof, by the chapter's words.
func bytesOf(p proof.Proof) string {
	s := string([]byte{byte(len(p.Beside))})
	for _, x := range p.Beside {
		s += textOf(x)
	}
	if p.There {
		s += "\x01"
	} else {
		s += "\x00"
	}
	return s + textOf(p.Key) + textOf(p.Value)
}

func some() []proof.Proof {
	long := strings.Repeat("x", 4096)
	l := []proof.Proof{
		{},
		{There: true, Key: text, Value: "v"},
		{There: true},
		{Beside: []string{inner}},
		{Beside: []string{"\x00", leaf, inner}, There: true, Key: text, Value: "ж\xff\x00"},
		{Beside: []string{"", "no node", "\x01"}, There: true, Key: "no key"}, // bytes have it too
		{Key: "a Key", Value: "and a Value, without a leaf"},
		{Beside: []string{long, long}, There: true, Key: long, Value: long},
		{Beside: slices.Repeat([]string{inner}, 127), There: true, Key: text},
		{Beside: slices.Repeat([]string{leaf}, 128), There: true, Key: text},
		{Beside: make([]string, 128)},
	}
	m := someValues(rand.New(rand.NewSource(8)), 8)
	for k := range m {
		p, _ := proof.Prove(m.tree(), k, 0)
		l = append(l, p)
	}
	return l
}

// P14.4

func TestEncodeAndDecode(t *testing.T) {
	for i, p := range some() {
		s, e := p.Encode()
		if e != api.OK || s != bytesOf(p) {
			t.Errorf("%d: %.200q, %d", i, s, e)
		}
		if q, e := proof.Decode(s); e != api.OK || !same(p, q) {
			t.Errorf("%d: %s, %d", i, shown(q), e)
		}
	}
}

func TestEncodeOfNothing(t *testing.T) {
	if s, e := (proof.Proof{}).Encode(); e != api.OK || s != "\x00\x00\x00\x00\x00\x00" {
		t.Errorf("%q, %d", s, e)
	}
	p := proof.Proof{Beside: []string{"\x00", "ab"}, There: true, Key: "k", Value: "val"}
	if s, e := p.Encode(); e != api.OK || s != "\x02\x00\x01\x00\x00\x02ab\x01\x00\x01k\x00\x03val" {
		t.Errorf("%q, %d", s, e)
	}
}

func TestEncodeOfTooMany(t *testing.T) {
	long := strings.Repeat("x", 4097)
	for _, n := range []int{129, 130, 255, 256, 257, 384, 1000} {
		for _, x := range []string{"", inner, long} { // ErrCount is ahead of ErrLong
			p := proof.Proof{Beside: slices.Repeat([]string{x}, n), There: true, Key: text, Value: x}
			if s, e := p.Encode(); e != api.ErrCount || s != "" {
				t.Errorf("%d: %d bytes, %d", n, len(s), e)
			}
		}
	}
}

func TestEncodeOfLongTexts(t *testing.T) {
	long := strings.Repeat("x", 4097)
	for i, p := range []proof.Proof{
		{Value: long}, {Key: long}, {Beside: []string{long}}, {Beside: []string{inner, long, inner}},
		{Beside: append(slices.Repeat([]string{inner}, 127), long)},
		{There: true, Key: text, Value: strings.Repeat("x", 70000)}, {There: true, Key: text, Value: strings.Repeat("x", 1<<16)},
	} {
		if s, e := p.Encode(); e != api.ErrLong || s != "" {
			t.Errorf("%d: %d bytes, %d", i, len(s), e)
		}
	}
}

func wrong(t *testing.T, s string, want api.Errno) {
	t.Helper()
	if p, e := proof.Decode(s); e != want || !isZero(p) {
		t.Errorf("%.40q (%d bytes): %s, %d, want %d", s, len(s), shown(p), e, want)
	}
}

// Bytes that end too early, wherever they do.
func TestDecodeOfTooShortOnes(t *testing.T) {
	wrong(t, "", api.ErrShort)
	for _, p := range some() {
		s := bytesOf(p)
		step := len(s)/300 + 1
		for n := 0; n < len(s); n += step {
			wrong(t, s[:n], api.ErrShort)
		}
		wrong(t, s[:len(s)-1], api.ErrShort)
	}
}

// Bytes that go on.
func TestDecodeOfTooLongOnes(t *testing.T) {
	for _, p := range some() {
		s := bytesOf(p)
		wrong(t, s+"\x00", api.ErrLong)
		wrong(t, s+s, api.ErrLong)
	}
}

func TestDecodeOfTooMany(t *testing.T) {
	for n := 129; n < 256; n++ {
		l := slices.Repeat([]string{inner}, n)
		s := bytesOf(proof.Proof{Beside: l, There: true, Key: text, Value: "v"})
		wrong(t, s, api.ErrForm)
		wrong(t, s+"x", api.ErrLong) // layer 2's errors are ahead of it
		wrong(t, s[:len(s)-1], api.ErrShort)
		wrong(t, s[:1], api.ErrShort)
	}
	wrong(t, "\xff", api.ErrShort)
	wrong(t, "\x81\x00\x01", api.ErrShort)
}

func TestDecodeOfNoFlag(t *testing.T) {
	for flag := 2; flag < 256; flag++ {
		b := string([]byte{byte(flag)})
		wrong(t, "\x00"+b+textOf(text)+textOf("v"), api.ErrForm)
		wrong(t, "\x01"+textOf(inner)+b+textOf("")+textOf(""), api.ErrForm)
		wrong(t, "\x00"+b+textOf(text)+textOf("v")+"x", api.ErrLong) // layer 2's errors are ahead of it
		wrong(t, "\x00"+b+textOf(text), api.ErrShort)
		wrong(t, "\x00"+b, api.ErrShort)
	}
}

// A Text's length above MaxText is layer 2's ErrForm, whether or not the bytes are there.
func TestDecodeOfLongTexts(t *testing.T) {
	for _, n := range []int{4097, 5000, 1<<16 - 1} {
		long := textOf(strings.Repeat("x", n))
		for _, l := range []string{long, long[:2], long[:len(long)-1]} {
			wrong(t, "\x00\x01"+textOf(text)+l, api.ErrForm)
			wrong(t, "\x00\x01"+l+textOf("v"), api.ErrForm)
			wrong(t, "\x02"+textOf(inner)+l+"\x01"+textOf(text)+textOf("v"), api.ErrForm)
			wrong(t, "\x00\x02"+l+textOf("v"), api.ErrForm)
			wrong(t, "\xff"+l, api.ErrForm)
		}
	}
}

// What is decoded is asked like what was proved; changed bytes tell nothing else.
func TestChangedBytesTellNothingElse(t *testing.T) {
	r := rand.New(rand.NewSource(9))
	m := someValues(r, 6)
	m[text] = "v"
	root := m.above("")
	for _, k := range []string{text, otherAt(text, 127), low} {
		p, _ := proof.Prove(m.tree(), k, 0)
		s, _ := p.Encode()
		if q, e := proof.Decode(s); e != api.OK || q.Has(root, k, "v", 0) != (k == text) || q.Lacks(root, k, 0) != (k != text) {
			t.Errorf("%q: %s, %d", k, shown(q), e)
		}
		for i := range len(s) {
			for bit := range 8 {
				b := []byte(s)
				b[i] ^= 1 << bit
				if q, e := proof.Decode(string(b)); e == api.OK && lies(m, root, q, k, 0) {
					t.Errorf("%q: %s", k, shown(q))
				}
			}
		}
	}
}

// Texts may share theirs, lists not.
func TestDecodedOnesAreNewMemory(t *testing.T) {
	s := bytesOf(some()[4])
	p, _ := proof.Decode(s)
	q, _ := proof.Decode(s)
	p.Beside[0] = "x"
	if !same(q, some()[4]) {
		t.Error("shared")
	}
}
