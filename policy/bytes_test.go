package policy_test

import (
	"slices"
	"strings"
	"testing"

	"plumbob/api"
	"plumbob/entry"
	"plumbob/policy"
	"plumbob/xmss"
)

// textOf: a text with its length ahead.
func textOf(s string) string {
	return string([]byte{byte(len(s) >> 8), byte(len(s))}) + s
}

// sigBytes by the words of layer 8.
func sigBytes(s xmss.Sig) string {
	return string([]byte{byte(s.Index)}) + strings.Join(s.Chains, "") + string([]byte{byte(len(s.Path))}) + strings.Join(s.Path, "")
}

// bytesOf an update, by the chapter's words.
func bytesOf(u policy.Update) string {
	return textOf(u.Label) + textOf(entryBytes(u.Entry)) + textOf(sigBytes(u.Sig))
}

// handSig has bytes, and is verified by no key.
func handSig(index, path int) xmss.Sig {
	texts := slices.Repeat([]string{"0123456789abcdef", "\x00\xff34567890123456"}, 20)
	return xmss.Sig{Index: index, Chains: texts[:35], Path: texts[1 : 1+path]}
}

// some that have bytes, also such as Judge refuses.
func some() []policy.Update {
	a, b := keyOf("a", 3), keyOf("b", 0)
	x := firstOf(a)
	l := []policy.Update{updateOf(a, 7, "alice", x), updateOf(a, 0, "alice", behind(x, b)), updateOf(b, 0, "жук@example.org", firstOf(b))}
	for _, label := range []string{"", "Alice", "\xff\x00", "a..b", strings.Repeat("x", 65), strings.Repeat("x", 4096)} {
		for _, y := range []entry.Entry{x, {Version: 1<<32 - 1, Key: b.Public(), Prev: "0123456789abcdef"}} {
			l = append(l, policy.Update{Label: label, Entry: y, Sig: handSig(63, 6)}, policy.Update{Label: label, Entry: y, Sig: handSig(0, 0)})
		}
	}
	return l
}

// P18.3

func TestEncodeAndDecode(t *testing.T) {
	for i, u := range some() {
		was := cloned(u)
		b, e := u.Encode()
		if e != api.OK || b != bytesOf(u) || !same(u, was) {
			t.Errorf("%d: %.100q %d", i, b, e)
		}
		v, e := policy.Decode(b)
		if e != api.OK || !same(u, v) {
			t.Errorf("%d: %.20q %d", i, v.Label, e)
		}
		for _, last := range some()[:3] {
			for _, had := range []bool{false, true} {
				if policy.Judge(u, had, last.Entry) != policy.Judge(v, had, last.Entry) {
					t.Error(i, had)
				}
			}
		}
	}
}

func TestEncodeByHand(t *testing.T) {
	u := policy.Update{
		Label: "ab",
		Entry: entry.Entry{Version: 0x01020304, Key: xmss.Public{Open: strings.Repeat("o", 16), Root: strings.Repeat("r", 16), Height: 5}, Prev: strings.Repeat("p", 16)},
		Sig:   xmss.Sig{Index: 9, Chains: slices.Repeat([]string{strings.Repeat("c", 16)}, 35), Path: []string{strings.Repeat("d", 16)}},
	}
	want := "\x00\x02ab" +
		"\x00\x35\x01\x02\x03\x04" + strings.Repeat("o", 16) + strings.Repeat("r", 16) + "\x05" + strings.Repeat("p", 16) +
		"\x02\x42\x09" + strings.Repeat("c", 35*16) + "\x01" + strings.Repeat("d", 16)
	if b, e := u.Encode(); b != want || e != api.OK {
		t.Errorf("%q %d", b, e)
	}
	if v, e := policy.Decode(want); !same(u, v) || e != api.OK {
		t.Error(v, e)
	}
}

func unwritten(t *testing.T, u policy.Update, want api.Errno, what string) {
	t.Helper()
	if b, e := u.Encode(); b != "" || e != want {
		t.Errorf("%s: %.60q %d, want %d", what, b, e, want)
	}
}

func TestEncodeOfWrongOnes(t *testing.T) {
	x := firstOf(keyOf("a", 1))
	long := strings.Repeat("x", 4097)
	noSigs := []xmss.Sig{{}, handSig(-1, 2), handSig(64, 2), handSig(3, 7), {Chains: handSig(0, 0).Chains[:34]}, {Chains: handSig(0, 0).Chains, Path: []string{"x"}}}
	for _, label := range []string{"alice", long, strings.Repeat("x", 1<<16)} {
		for y, want := range noEntries(x) { // ahead of the signature's error, and the label's
			unwritten(t, policy.Update{Label: label, Entry: y, Sig: handSig(1, 2)}, want, "an entry")
			unwritten(t, policy.Update{Label: label, Entry: y}, want, "an entry")
		}
		for _, s := range noSigs { // ahead of the label's
			unwritten(t, policy.Update{Label: label, Entry: x, Sig: s}, api.ErrRange, "a signature")
		}
	}
	for _, label := range []string{long, strings.Repeat("x", 1<<16), strings.Repeat("x", 1<<16+5)} {
		unwritten(t, policy.Update{Label: label, Entry: x, Sig: handSig(1, 2)}, api.ErrLong, "a label")
	}
	unwritten(t, policy.Update{}, api.ErrVersion, "the zero one")
}

func wrong(t *testing.T, b string, want api.Errno) {
	t.Helper()
	if u, e := policy.Decode(b); e != want || !isZero(u) {
		t.Errorf("%.60q (%d bytes): %d, want %d", b, len(b), e, want)
	}
}

func TestDecodeOfTooShortAndTooLongOnes(t *testing.T) {
	for _, u := range some() {
		b := bytesOf(u)
		for n := range len(b) {
			wrong(t, b[:n], api.ErrShort)
		}
		for _, more := range []string{"\x00", "x", b} {
			wrong(t, b+more, api.ErrLong)
		}
	}
}

// A Text's length above MaxText is layer 2's ErrForm, whether or not the bytes are there.
func TestDecodeOfLongTexts(t *testing.T) {
	u := some()[0]
	fine := []string{textOf(u.Label), textOf(entryBytes(u.Entry)), textOf(sigBytes(u.Sig))}
	for _, n := range []int{4097, 1 << 15, 1<<16 - 1} {
		long := textOf(strings.Repeat("x", n))
		for place := range fine {
			ahead, later := strings.Join(fine[:place], ""), strings.Join(fine[place+1:], "")
			wrong(t, ahead+long+later, api.ErrForm)
			wrong(t, ahead+long, api.ErrForm)
			wrong(t, ahead+long[:2], api.ErrForm)
		}
	}
}

// wrongParts: bytes of no entry, or of no signature, with what is told of them.
func wrongParts(u policy.Update) (entries, sigs map[string]api.Errno) {
	b := entryBytes(u.Entry)
	entries = map[string]api.Errno{
		"": api.ErrShort, b[:52]: api.ErrShort, b + "x": api.ErrLong, b + b: api.ErrLong,
		b[:36] + "\x07" + b[37:]:                     api.ErrForm,
		"\x00\x00\x00\x00" + b[4:]:                   api.ErrVersion,
		"\x00\x00\x00\x00" + b[4:52]:                 api.ErrShort,
		strings.Repeat("\x00", 36) + "\xff" + b[37:]: api.ErrForm,
	}
	s := sigBytes(u.Sig)
	sigs = map[string]api.Errno{
		"": api.ErrShort, s[:len(s)-1]: api.ErrShort, s[:561]: api.ErrShort, s + "x": api.ErrLong, s + s: api.ErrLong,
		"\x40" + s[1:]: api.ErrForm, "\xff" + s[1:] + "x": api.ErrForm, "\xff" + s[1:100]: api.ErrShort,
		s[:561] + "\x07" + strings.Repeat("p", 7*16): api.ErrForm,
		s[:561] + "\x07" + strings.Repeat("p", 5*16): api.ErrShort,
	}
	return entries, sigs
}

func TestDecodeOfNoEntryAndNoSignature(t *testing.T) {
	u := some()[0]
	label, x, s := textOf(u.Label), textOf(entryBytes(u.Entry)), textOf(sigBytes(u.Sig))
	entries, sigs := wrongParts(u)
	for no, want := range entries {
		wrong(t, label+textOf(no)+s, want)
		wrong(t, label+textOf(no)+s+"x", api.ErrLong) // layer 2's errors are ahead
		wrong(t, label+textOf(no)+s[:len(s)-1], api.ErrShort)
		for noSig := range sigs { // layer 17's are ahead of layer 8's
			wrong(t, label+textOf(no)+textOf(noSig), want)
		}
	}
	for no, want := range sigs {
		wrong(t, label+x+textOf(no), want)
		wrong(t, label+x+textOf(no)+"x", api.ErrLong)
		if no != "" {
			wrong(t, label+x+textOf(no)[:len(no)+1], api.ErrShort)
		}
	}
}

// Changed bytes are another update, or none; none that is let through.
func TestChangedBytesAreNotLetThrough(t *testing.T) {
	a, b := keyOf("a", 1), keyOf("b", 0)
	x := firstOf(a)
	u := updateOf(a, 1, "alice", behind(x, b))
	s, _ := u.Encode()
	for i := range len(s) {
		for bit := range 8 {
			c := []byte(s)
			c[i] ^= 1 << bit
			if v, e := policy.Decode(string(c)); e == api.OK && (same(u, v) || policy.Judge(v, true, x) == api.OK) {
				t.Errorf("byte %d, bit %d", i, bit)
			}
		}
	}
}

func TestDecodedOnesAreNewMemory(t *testing.T) {
	b := bytesOf(some()[0])
	u, _ := policy.Decode(b)
	v, _ := policy.Decode(b)
	for i := range u.Sig.Chains {
		u.Sig.Chains[i] = "x"
	}
	for i := range u.Sig.Path {
		u.Sig.Path[i] = "x"
	}
	if !same(v, some()[0]) {
		t.Error("shared")
	}
}

func TestSignedOnesAreNewMemory(t *testing.T) {
	k := keyOf("a", 1)
	u, _ := policy.Sign(k, 0, "alice", firstOf(k))
	for i := range u.Sig.Chains {
		u.Sig.Chains[i] = "x"
	}
	u.Sig.Path[0] = "x"
	if v, e := policy.Sign(k, 0, "alice", firstOf(k)); e != api.OK || !same(v, updateOf(k, 0, "alice", firstOf(k))) {
		t.Error("shared", e)
	}
}
