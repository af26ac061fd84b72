package trans_test

import (
	"math"
	"math/rand"
	"slices"
	"strings"
	"testing"

	"plumbob/api"
	"plumbob/proof"
	"plumbob/trans"
)

// textOf: a text with its length ahead.
func textOf(s string) string {
	return string([]byte{byte(len(s) >> 8), byte(len(s))}) + s
}

// proofBytes by the words of layer 14.
func proofBytes(p proof.Proof) string {
	s := string([]byte{byte(len(p.Beside))})
	for _, x := range p.Beside {
		s += textOf(x)
	}
	if p.There {
		s += "\x01"
	} else {
		s += "\x00"
	}
	return s + textOf(p.Key) + textOf(p.Value)
}

// headBytes: all ahead of the steps, of which so many are told.
func headBytes(x trans.Transition, n int) string {
	return string([]byte{byte(x.Band), byte(x.Depth)}) + textOf(x.Old) + textOf(x.New) + string([]byte{byte(n >> 8), byte(n)})
}

// bytesOf a transition, by the chapter's words.
func bytesOf(x trans.Transition) string {
	s := headBytes(x, len(x.Steps))
	for _, c := range x.Steps {
		s += textOf(c.Key) + textOf(c.Value) + textOf(proofBytes(c.Proof))
	}
	return s
}

func stepOf(key, value string, p proof.Proof) trans.Step {
	return trans.Step{Change: trans.Change{Key: key, Value: value}, Proof: p}
}

var (
	inner = nodeOf("a", "b")
	long  = strings.Repeat("x", 4096)
	above = strings.Repeat("x", 4097)
)

// some that have bytes, also such as Check refuses.
func some() []trans.Transition {
	l := []trans.Transition{
		{},
		{Old: "\x00", New: "\x00"},
		{Band: 255, Depth: 255, Old: long, New: long},
		{Band: 255, Depth: 0},
		{Band: 0, Depth: 5, New: "no node"},
		{Steps: []trans.Step{{}}},
		{Steps: []trans.Step{stepOf("no key", "v", proof.Proof{Beside: []string{"no node", ""}, There: true}), {}}},
		{Band: 15, Depth: 4, Steps: []trans.Step{stepOf(long, long, proof.Proof{There: true, Key: "a key", Value: "ж\xff\x00"})}},
		{Steps: []trans.Step{stepOf("k", "v", proof.Proof{Value: strings.Repeat("x", 4090)})}}, // proof's bytes: 4096
		{Steps: []trans.Step{stepOf("k", "v", proof.Proof{Beside: slices.Repeat([]string{inner}, 128), There: true, Key: keyOf("1"), Value: strings.Repeat("x", 1642)})}},
		{Band: 3, Depth: 2, Old: "\x00", New: inner, Steps: slices.Repeat([]trans.Step{stepOf(keyOf("11"), "v", proof.Proof{})}, 256)},
	}
	for _, c := range someMade(10) {
		if !slices.ContainsFunc(c.x.Steps, hasNoBytes) {
			l = append(l, c.x)
		}
	}
	return l
}

func hasNoBytes(s trans.Step) bool {
	return len(s.Value) > 4096 || len(s.Proof.Value) > 4096 || len(proofBytes(s.Proof)) > 4096
}

// P16.3

func TestEncodeAndDecode(t *testing.T) {
	for i, x := range some() {
		was := cloned(x)
		s, e := x.Encode()
		if e != api.OK || s != bytesOf(x) {
			t.Errorf("%d: %.200q, %d, want %.200q", i, s, e, bytesOf(x))
		}
		y, e := trans.Decode(s)
		if e != api.OK || !same(x, y) {
			t.Errorf("%d: %s, %d, want %s", i, shown(y), e, shown(x))
		}
		if x.Check() != y.Check() || !same(x, was) {
			t.Errorf("%d: %d, %d", i, x.Check(), y.Check())
		}
	}
}

func TestEncodeByHand(t *testing.T) {
	if s, e := (trans.Transition{}).Encode(); e != api.OK || s != "\x00\x00\x00\x00\x00\x00\x00\x00" {
		t.Errorf("%q, %d", s, e)
	}
	x := trans.Transition{Band: 2, Depth: 3, Old: "\x00", New: "ab", Steps: []trans.Step{
		stepOf("k", "val", proof.Proof{}),
		stepOf("", "v", proof.Proof{Beside: []string{"b"}, There: true, Key: "l", Value: "w"}),
	}}
	want := "\x02\x03\x00\x01\x00\x00\x02ab\x00\x02" +
		"\x00\x01k\x00\x03val\x00\x06\x00\x00\x00\x00\x00\x00" +
		"\x00\x00\x00\x01v\x00\x0b\x01\x00\x01b\x01\x00\x01l\x00\x01w"
	if s, e := x.Encode(); e != api.OK || s != want {
		t.Errorf("%q, %d", s, e)
	}
}

// How many steps there are is told in two bytes; more than MaxItems have bytes, too.
func TestEncodeOfManySteps(t *testing.T) {
	for _, n := range []int{255, 256, 257, 1000, 65535} {
		x := trans.Transition{Steps: make([]trans.Step, n)}
		s, e := x.Encode()
		if e != api.OK || s != headBytes(x, n)+strings.Repeat("\x00\x00\x00\x00\x00\x06\x00\x00\x00\x00\x00\x00", n) {
			t.Errorf("%d: %.100q, %d", n, s, e)
		}
		y, e := trans.Decode(s)
		if n <= 256 && (e != api.OK || !same(x, y)) || n > 256 && (e != api.ErrForm || !isZero(y)) {
			t.Errorf("%d: %s, %d", n, shown(y), e)
		}
	}
	for _, n := range []int{65536, 65537, 70000} {
		if s, e := (trans.Transition{Steps: make([]trans.Step, n)}).Encode(); e != api.ErrRange || s != "" {
			t.Errorf("%d: %.100q, %d", n, s, e)
		}
	}
}

func unwritten(t *testing.T, x trans.Transition, want api.Errno, what string) {
	t.Helper()
	if s, e := x.Encode(); e != want || s != "" {
		t.Errorf("%s: %.100q, %d, want %d", what, s, e, want)
	}
}

func TestEncodeOfNumbersThatDontFit(t *testing.T) {
	for _, n := range []int{math.MinInt, math.MinInt + 1, -1 << 32, -256, -255, -1, 256, 257, 511, 512, 1 << 16, 1 << 32, math.MaxInt} {
		for _, steps := range [][]trans.Step{nil, {stepOf(above, above, proof.Proof{})}} { // ahead of later texts
			unwritten(t, trans.Transition{Band: n, Old: "\x00", Steps: steps}, api.ErrRange, "a band")
			unwritten(t, trans.Transition{Depth: n, Old: above, Steps: steps}, api.ErrRange, "a depth")
			unwritten(t, trans.Transition{Band: n, Depth: n, Old: above, New: above, Steps: steps}, api.ErrRange, "both")
		}
	}
}

func TestEncodeOfLongTexts(t *testing.T) {
	for _, l := range []string{above, strings.Repeat("x", 1<<16), strings.Repeat("x", 70000)} {
		fine := stepOf("k", "v", proof.Proof{})
		for what, x := range map[string]trans.Transition{
			"Old":                     {Old: l},
			"New":                     {New: l},
			"Key":                     {Steps: []trans.Step{stepOf(l, "v", proof.Proof{})}},
			"Value":                   {Steps: []trans.Step{fine, stepOf("k", l, proof.Proof{}), fine}},
			"proof's Key":             {Steps: []trans.Step{stepOf("k", "v", proof.Proof{Key: l})}},
			"proof's Value":           {Steps: []trans.Step{fine, stepOf("k", "v", proof.Proof{Value: l})}},
			"proof's node":            {Steps: []trans.Step{stepOf("k", "v", proof.Proof{Beside: []string{"", l}})}},
			"Old, ahead of the count": {Old: l, Steps: make([]trans.Step, 65536)},
			"New, ahead of the count": {New: l, Steps: make([]trans.Step, 65536)},
		} {
			unwritten(t, x, api.ErrLong, what)
		}
		unwritten(t, trans.Transition{Steps: append(make([]trans.Step, 65536), stepOf(l, l, proof.Proof{}))}, api.ErrRange, "the count, ahead of the steps")
	}
}

// A proof may have bytes, that are no Text any more.
func TestEncodeOfLongProofs(t *testing.T) {
	for _, p := range []proof.Proof{
		{Value: strings.Repeat("x", 4091)},
		{Key: long},
		{Key: long, Value: long},
		{Beside: slices.Repeat([]string{long}, 128)},
		{Beside: slices.Repeat([]string{inner}, 128), There: true, Key: keyOf("1"), Value: strings.Repeat("x", 1643)},
	} {
		if _, e := p.Encode(); e != api.OK {
			t.Fatal(e)
		}
		unwritten(t, trans.Transition{Steps: []trans.Step{stepOf("k", "v", p)}}, api.ErrLong, "a long proof")
		unwritten(t, trans.Transition{Steps: []trans.Step{{}, stepOf("k", "v", p)}}, api.ErrLong, "a long proof, behind another one")
	}
}

// Layer 14's errors of all proofs are ahead of layer 2's of the rest.
func TestEncodeOfProofsWithoutBytes(t *testing.T) {
	many := proof.Proof{Beside: slices.Repeat([]string{inner}, 129)}
	value := proof.Proof{Value: above}
	for _, x := range []trans.Transition{
		{}, {Band: -1}, {Depth: 256}, {Old: above}, {New: above}, {Band: -1, Depth: -1, Old: above, New: above},
	} {
		for _, s := range []trans.Step{{}, stepOf(above, "", proof.Proof{}), stepOf("", above, proof.Proof{}), stepOf("", "", proof.Proof{Key: long})} {
			x.Steps = []trans.Step{s, s, stepOf("k", "v", many)}
			unwritten(t, x, api.ErrCount, "more than 128 beside")
			x.Steps = []trans.Step{stepOf(above, above, many), s}
			unwritten(t, x, api.ErrCount, "more than 128 beside")
			x.Steps = []trans.Step{s, stepOf("k", "v", value)}
			unwritten(t, x, api.ErrLong, "a long value in the proof")
			x.Steps = []trans.Step{s, stepOf("k", "v", many), stepOf("k", "v", value)}
			unwritten(t, x, api.ErrCount, "the first one's error")
			x.Steps = []trans.Step{s, stepOf("k", "v", value), stepOf("k", "v", many)}
			unwritten(t, x, api.ErrLong, "the first one's error")
		}
	}
	x := trans.Transition{Steps: append(make([]trans.Step, 65536), stepOf("k", "v", many))}
	unwritten(t, x, api.ErrCount, "ahead of the count of steps")
}

func wrong(t *testing.T, s string, want api.Errno) {
	t.Helper()
	if x, e := trans.Decode(s); e != want || !isZero(x) {
		t.Errorf("%.60q (%d bytes): %s, %d, want %d", s, len(s), shown(x), e, want)
	}
}

// Bytes that end too early, wherever they do.
func TestDecodeOfTooShortOnes(t *testing.T) {
	wrong(t, "", api.ErrShort)
	for _, x := range some() {
		s := bytesOf(x)
		step := len(s)/200 + 1
		for n := 0; n < len(s); n += step {
			wrong(t, s[:n], api.ErrShort)
		}
		wrong(t, s[:len(s)-1], api.ErrShort)
	}
}

// Bytes that go on.
func TestDecodeOfTooLongOnes(t *testing.T) {
	for _, x := range some() {
		s := bytesOf(x)
		wrong(t, s+"\x00", api.ErrLong)
		wrong(t, s+s, api.ErrLong)
	}
}

func TestDecodeOfTooManySteps(t *testing.T) {
	bare := textOf("") + textOf("") + textOf(proofBytes(proof.Proof{}))
	var head trans.Transition
	for _, n := range []int{257, 258, 511, 512, 768, 1000, 32768, 65535} {
		s := headBytes(head, n) + strings.Repeat(bare, n)
		wrong(t, s, api.ErrForm)
		wrong(t, s+"x", api.ErrLong) // layer 2's errors are ahead of it
		wrong(t, s[:len(s)-1], api.ErrShort)
		wrong(t, headBytes(head, n), api.ErrShort)
		wrong(t, headBytes(head, n)+strings.Repeat(bare, 256), api.ErrShort)
	}
	wrong(t, headBytes(head, 256)+strings.Repeat(bare, 257), api.ErrLong)
}

func TestDecodeOfNoProofs(t *testing.T) {
	fine := textOf("k") + textOf("v") + textOf(proofBytes(proof.Proof{There: true}))
	var noProofs []string
	p := proofBytes(proof.Proof{Beside: []string{inner}, There: true, Key: "k", Value: "v"})
	for n := range len(p) {
		noProofs = append(noProofs, p[:n])
	}
	noProofs = append(noProofs, p+"\x00", p+p, "\x00\x02"+textOf("")+textOf(""), "\x00\xff"+textOf("")+textOf(""),
		"\x00\x00"+textOf("")+"\x10\x01", "\x81"+strings.Repeat("\x00\x00", 129)+"\x00"+textOf("")+textOf(""))
	for _, no := range noProofs {
		if _, e := proof.Decode(no); e == api.OK {
			t.Fatalf("%q", no)
		}
		step := textOf("k") + textOf("v") + textOf(no)
		for place := range 3 {
			l := slices.Insert([]string{fine, fine}, place, step)
			s := headBytes(trans.Transition{Band: 1, Depth: 2, Old: inner, New: "\x00"}, 3) + strings.Join(l, "")
			wrong(t, s, api.ErrForm)
			wrong(t, s+"x", api.ErrLong) // layer 2's errors are ahead of it
			if place < 2 {
				wrong(t, s[:len(s)-1], api.ErrShort)
				wrong(t, s[:len(s)-len(fine)], api.ErrShort)
			}
		}
	}
}

// A Text's length above MaxText is layer 2's ErrForm, whether or not the bytes are there.
func TestDecodeOfLongTexts(t *testing.T) {
	bare := textOf(proofBytes(proof.Proof{}))
	head := headBytes(trans.Transition{}, 1)
	for _, n := range []int{4097, 5000, 1<<16 - 1} {
		l := textOf(strings.Repeat("\x00", n))
		for _, l := range []string{l, l[:2], l[:len(l)-1]} {
			wrong(t, "\x00\x00"+l+textOf("")+"\x00\x00", api.ErrForm)
			wrong(t, "\x00\x00"+textOf("")+l+"\x00\x00", api.ErrForm)
			wrong(t, head+l+textOf("v")+bare, api.ErrForm)
			wrong(t, head+textOf("k")+l+bare, api.ErrForm)
			wrong(t, head+textOf("k")+textOf("v")+l, api.ErrForm)
			wrong(t, head+textOf("k")+textOf("v")+l+"and more", api.ErrForm)
		}
	}
}

// What is decoded is checked like what was made; changed bytes tell nothing else.
func TestChangedBytesTellNothingElse(t *testing.T) {
	r := rand.New(rand.NewSource(11))
	base := someBase(r)
	band := int(base[0]) >> 6
	m := mirrored{base: "v", keyOf("0"): "w", keyOf("1"): "x", inBand(keyOf("001"), band, 2): "y"}
	x := m.transition(band, 2, someChanges(r, m, base, band, 2, 3)...)
	for i := range x.Steps { // short values, so that all bytes are changed soon
		x.Steps[i].Value = "new"
	}
	x = m.transition(band, 2, changes(x)...)
	s, e := x.Encode()
	if e != api.OK {
		t.Fatal(e)
	}
	for i := range len(s) {
		for bit := range 8 {
			b := []byte(s)
			b[i] ^= 1 << bit
			if y, e := trans.Decode(string(b)); e == api.OK && (lies(m, y) || same(x, y)) {
				t.Errorf("%s", shown(y))
			}
		}
	}
}

// Texts may share theirs, lists not.
func TestDecodedOnesAreNewMemory(t *testing.T) {
	m := mirrored{keyOf("00"): "1", keyOf("01"): "2", keyOf("011"): "3"}
	x := m.transition(0, 1, trans.Change{Key: keyOf("0101"), Value: "4"}, trans.Change{Key: keyOf("00"), Value: "5"})
	s := bytesOf(x)
	y, _ := trans.Decode(s)
	z, _ := trans.Decode(s)
	y.Steps[0].Key = "x"
	y.Steps[1].Proof.Beside[0] = "y"
	if !same(z, x) {
		t.Error("shared")
	}
}
