package policy_test

import (
	"crypto/sha256"
	"encoding/binary"
	"math"
	"slices"
	"strings"
	"testing"

	"plumbob/api"
	"plumbob/entry"
	"plumbob/policy"
	"plumbob/xmss"
)

var noughts = strings.Repeat("\x00", 16)

// tagged by the library of Go's own.
func tagged(tag byte, l ...string) string {
	b := []byte{tag}
	for _, s := range l {
		b = binary.BigEndian.AppendUint32(b, uint32(len(s)))
		b = append(b, s...)
	}
	d := sha256.Sum256(b)
	return string(d[:16])
}

// entryBytes of an entry, by the words of layer 17.
func entryBytes(x entry.Entry) string {
	return string(binary.BigEndian.AppendUint32(nil, uint32(x.Version))) + x.Key.Open + x.Key.Root + string([]byte{byte(x.Key.Height)}) + x.Prev
}

func messageOf(label string, x entry.Entry) string { return tagged(13, label, entryBytes(x)) }

func valueOf(x entry.Entry) string { return tagged(12, entryBytes(x)) }

func keyOf(seed string, height int) *xmss.Key {
	k, e := xmss.New(seed, height)
	if e != api.OK {
		panic(e)
	}
	return k
}

func sigOf(k *xmss.Key, index int, message string) xmss.Sig {
	s, e := k.Sign(index, message)
	if e != api.OK {
		panic(e)
	}
	return s
}

// firstOf a key: an entry with nothing ahead.
func firstOf(k *xmss.Key) entry.Entry {
	return entry.Entry{Version: 1, Key: k.Public(), Prev: noughts}
}

// behind an entry: one of another key.
func behind(x entry.Entry, k *xmss.Key) entry.Entry {
	return entry.Entry{Version: x.Version + 1, Key: k.Public(), Prev: valueOf(x)}
}

// updateOf by the chapter's words.
func updateOf(k *xmss.Key, index int, label string, x entry.Entry) policy.Update {
	return policy.Update{Label: label, Entry: x, Sig: sigOf(k, index, messageOf(label, x))}
}

func same(a, b policy.Update) bool {
	return a.Label == b.Label && a.Entry == b.Entry && a.Sig.Index == b.Sig.Index &&
		slices.Equal(a.Sig.Chains, b.Sig.Chains) && slices.Equal(a.Sig.Path, b.Sig.Path)
}

func isZero(u policy.Update) bool { return same(u, policy.Update{}) }

func cloned(u policy.Update) policy.Update {
	u.Sig.Chains, u.Sig.Path = slices.Clone(u.Sig.Chains), slices.Clone(u.Sig.Path)
	return u
}

var noPrevs = []string{"", "x", noughts[1:], noughts + "\x00", strings.Repeat("x", 5000)}

var noVersions = []uint64{0, 1 << 32, 1<<32 + 1, 1 << 63, math.MaxUint64}

// noEntries have no bytes, for the error that is told of each.
func noEntries(x entry.Entry) map[entry.Entry]api.Errno {
	m := map[entry.Entry]api.Errno{{}: api.ErrVersion}
	for _, version := range noVersions {
		y := x
		y.Version = version
		m[y] = api.ErrVersion
		y.Key, y.Prev = xmss.Public{}, "" // behind it
		m[y] = api.ErrVersion
	}
	for _, prev := range noPrevs {
		y := x
		y.Prev = prev
		m[y] = api.ErrRange
	}
	for _, height := range []int{-1, 7, 256} {
		y := x
		y.Key.Height = height
		m[y] = api.ErrRange
	}
	y := x
	y.Key.Root = ""
	m[y] = api.ErrRange
	return m
}

// P18.1

func TestMessage(t *testing.T) {
	x := firstOf(keyOf("a", 1))
	seen := map[string]bool{}
	for _, label := range []string{"", "alice", "Alice", "bob", " ", "\xff", strings.Repeat("long", 3000)} {
		for _, y := range []entry.Entry{x, behind(x, keyOf("b", 0)), {Version: 1<<32 - 1, Key: x.Key, Prev: x.Key.Root}} {
			m := policy.Message(label, y)
			if m != messageOf(label, y) || len(m) != 16 || seen[m] {
				t.Errorf("%.20q %d: %q", label, y.Version, m)
			}
			seen[m] = true
		}
	}
}

func TestMessageOfEntriesWithoutBytes(t *testing.T) {
	for x := range noEntries(firstOf(keyOf("a", 1))) {
		if m := policy.Message("alice", x); m != "" {
			t.Errorf("%.60v: %q", x, m)
		}
	}
}

func TestSign(t *testing.T) {
	k, other := keyOf("a", 2), keyOf("b", 0)
	for _, label := range []string{"alice", "Alice", "", "a..b", strings.Repeat("x", 5000)} { // whether it may be is Judge's
		for _, x := range []entry.Entry{firstOf(k), firstOf(other), behind(firstOf(k), other), {Version: 9, Key: k.Public(), Prev: "0123456789abcdef"}} {
			for index := range 4 {
				u, e := policy.Sign(k, index, label, x)
				if e != api.OK || !same(u, updateOf(k, index, label, x)) {
					t.Errorf("%.20q %d: %d", label, index, e)
				}
				if !k.Public().Verify(messageOf(label, x), u.Sig) || u.Sig.Index != index {
					t.Errorf("%.20q %d: not verified", label, index)
				}
			}
		}
	}
}

func unsigned(t *testing.T, k *xmss.Key, index int, x entry.Entry, want api.Errno) {
	t.Helper()
	if u, e := policy.Sign(k, index, "alice", x); e != want || !isZero(u) {
		t.Errorf("%d %.60v: %d, want %d", index, x, e, want)
	}
}

func TestSignOfWrongOnes(t *testing.T) {
	k := keyOf("a", 1)
	x := firstOf(k)
	for _, index := range []int{2, 3, 64, 1 << 32, math.MaxInt} {
		unsigned(t, k, index, x, api.ErrSpent)
	}
	for _, index := range []int{-1, -2, math.MinInt} {
		unsigned(t, k, index, x, api.ErrRange)
	}
	for _, index := range []int{0, -1, 2} {
		unsigned(t, nil, index, x, api.ErrArg)
		for y, want := range noEntries(x) { // ahead of layer 8's error
			unsigned(t, k, index, y, want)
			unsigned(t, nil, index, y, want)
		}
	}
}

// P18.2

func judge(t *testing.T, u policy.Update, had bool, last entry.Entry, want api.Errno, what string) {
	t.Helper()
	was := cloned(u)
	if e := policy.Judge(u, had, last); e != want {
		t.Errorf("%s: %d, want %d", what, e, want)
	}
	if !same(u, was) {
		t.Errorf("%s: changed", what)
	}
}

func TestJudge(t *testing.T) {
	for _, label := range []string{"alice", "alice@example.org", "жук", "7", "a.b-c_d@e", strings.Repeat("ж", 64)} {
		last := entry.Entry{}
		ahead := keyOf("0", 0)
		for i := range 5 {
			k := keyOf(string([]byte{byte('0' + i)}), i)
			x := entry.Entry{Version: uint64(i + 1), Key: k.Public(), Prev: noughts}
			if i > 0 {
				x.Prev = valueOf(last)
			}
			judge(t, updateOf(ahead, ahead.Count()-1, label, x), i > 0, last, api.OK, label)
			last, ahead = x, k
		}
	}
}

func TestJudgeOfTheSameKeyAgain(t *testing.T) {
	k := keyOf("a", 1)
	x := firstOf(k)
	judge(t, updateOf(k, 1, "alice", behind(x, k)), true, x, api.OK, "the same key")
}

func TestJudgeOfTheGreatestVersion(t *testing.T) {
	k := keyOf("a", 1)
	x := entry.Entry{Version: 1<<32 - 2, Key: k.Public(), Prev: "0123456789abcdef"}
	y := behind(x, k)
	judge(t, updateOf(k, 0, "alice", y), true, x, api.OK, "the greatest version")
	z := behind(y, k)
	judge(t, policy.Update{Label: "alice", Entry: z}, true, y, api.ErrVersion, "one above it")
}

// A first entry, whatever is told as the last one.
func TestJudgeHeedsTheLastOneOnlyWhereItHad(t *testing.T) {
	a, b := keyOf("a", 1), keyOf("b", 1)
	x, y := firstOf(a), firstOf(b)
	for _, last := range []entry.Entry{{}, x, y, behind(x, b), {Version: 5}} {
		judge(t, updateOf(a, 0, "alice", x), false, last, api.OK, "a first one")
		judge(t, updateOf(b, 0, "alice", x), false, last, api.ErrSig, "a first one by another key")
		judge(t, updateOf(a, 0, "alice", behind(x, b)), false, last, api.ErrVersion, "a second one")
	}
	for _, last := range []entry.Entry{x, y, behind(x, b)} {
		judge(t, updateOf(a, 0, "alice", x), true, last, api.ErrVersion, "a first one, where it had another")
	}
	judge(t, updateOf(a, 0, "alice", x), true, entry.Entry{}, api.ErrRoot, "a first one behind an entry without a value")
}

func TestJudgeOfLabels(t *testing.T) {
	k := keyOf("a", 1)
	x := firstOf(k)
	for label, want := range map[string]api.Errno{
		"Alice": api.ErrForm, "alicE@example.org": api.ErrForm, "Жук": api.ErrForm, "ΩΜ": api.ErrForm,
		"\xff": api.ErrForm, "alice\xc3": api.ErrForm, strings.Repeat("a", 65) + "\xff": api.ErrForm,
		strings.Repeat("a", 65): api.ErrLong, strings.Repeat("A", 65): api.ErrLong, strings.Repeat("a", 5000): api.ErrLong,
		"": api.ErrRune, ".alice": api.ErrRune, "alice ": api.ErrRune, "a@b@c": api.ErrRune, "aж": api.ErrRune, "A..b": api.ErrRune,
	} {
		judge(t, updateOf(k, 0, label, x), false, entry.Entry{}, want, label)
		judge(t, updateOf(k, 0, label, behind(x, k)), true, x, want, label)
		// Ahead of all that is wrong else.
		judge(t, policy.Update{Label: label}, false, entry.Entry{}, want, label)
		judge(t, policy.Update{Label: label, Entry: entry.Entry{Version: 1, Key: x.Key, Prev: "x"}}, true, x, want, label)
		judge(t, policy.Update{Label: label, Entry: x}, true, x, want, label)
		judge(t, policy.Update{Label: label, Entry: x}, false, x, want, label)
	}
}

func TestJudgeOfEntriesWithoutBytes(t *testing.T) {
	k := keyOf("a", 1)
	x := firstOf(k)
	for _, had := range []bool{false, true} {
		for _, good := range []entry.Entry{x, behind(x, k)} {
			for y, want := range noEntries(good) {
				judge(t, policy.Update{Label: "alice", Entry: y, Sig: sigOf(k, 0, policy.Message("alice", y))}, had, x, want, "no bytes")
			}
		}
	}
	// Ahead of the history's errors.
	y := entry.Entry{Version: 5, Key: k.Public(), Prev: "x"}
	judge(t, policy.Update{Label: "alice", Entry: y}, false, x, api.ErrRange, "a short Prev of another version")
	judge(t, policy.Update{Label: "alice", Entry: y}, true, x, api.ErrRange, "a short Prev of another version")
}

func TestJudgeOfFirstOnes(t *testing.T) {
	k := keyOf("a", 1)
	x := firstOf(k)
	for _, prev := range []string{valueOf(x), k.Public().Root, noughts[1:] + "\x01", "\x80" + noughts[1:], strings.Repeat("0", 16)} {
		y := entry.Entry{Version: 1, Key: k.Public(), Prev: prev}
		judge(t, updateOf(k, 0, "alice", y), false, entry.Entry{}, api.ErrRoot, "another Prev")
		judge(t, policy.Update{Label: "alice", Entry: y}, false, entry.Entry{}, api.ErrRoot, "another Prev, ahead of the signature")
	}
	for _, version := range []uint64{2, 3, 1<<32 - 1} {
		for _, prev := range []string{noughts, valueOf(x)} { // ahead of Prev
			y := entry.Entry{Version: version, Key: k.Public(), Prev: prev}
			judge(t, updateOf(k, 0, "alice", y), false, entry.Entry{}, api.ErrVersion, "another version")
			judge(t, policy.Update{Label: "alice", Entry: y}, false, entry.Entry{}, api.ErrVersion, "another version, ahead of the signature")
		}
	}
}

func TestJudgeOfLaterOnes(t *testing.T) {
	a, b := keyOf("a", 1), keyOf("b", 1)
	x := firstOf(a)
	y := behind(x, b)
	for _, version := range []uint64{1, 3, 4, 1<<32 - 1} {
		for _, prev := range []string{y.Prev, noughts} { // ahead of Prev
			z := entry.Entry{Version: version, Key: b.Public(), Prev: prev}
			judge(t, updateOf(a, 0, "alice", z), true, x, api.ErrVersion, "another version")
			judge(t, policy.Update{Label: "alice", Entry: z}, true, x, api.ErrVersion, "another version, ahead of the signature")
		}
	}
	for _, prev := range []string{noughts, valueOf(y), a.Public().Root, y.Prev[1:] + "x"} {
		z := entry.Entry{Version: 2, Key: b.Public(), Prev: prev}
		judge(t, updateOf(a, 0, "alice", z), true, x, api.ErrRoot, "another Prev")
		judge(t, policy.Update{Label: "alice", Entry: z}, true, x, api.ErrRoot, "another Prev, ahead of the signature")
	}
	judge(t, updateOf(a, 0, "alice", y), true, y, api.ErrVersion, "one that is there")
	judge(t, updateOf(a, 0, "alice", y), true, firstOf(b), api.ErrRoot, "one behind another one")
	for last := range noEntries(x) { // they have no value: nothing is behind them
		want := api.ErrVersion
		if last.Version == 1 {
			want = api.ErrRoot
		}
		judge(t, updateOf(a, 0, "alice", y), true, last, want, "a last one without bytes")
	}
}

// The key ahead signs: a first one's own, the last one's else.
func TestJudgeOfSignersThatMayNot(t *testing.T) {
	a, b, c := keyOf("a", 1), keyOf("b", 1), keyOf("c", 1)
	x := firstOf(a)
	y := behind(x, b)
	z := behind(y, c)
	for _, k := range []*xmss.Key{a, b, c} {
		for index := range 2 {
			for _, one := range []struct {
				next   entry.Entry
				had    bool
				last   entry.Entry
				signer *xmss.Key
			}{{x, false, entry.Entry{}, a}, {y, true, x, a}, {z, true, y, b}} {
				want := api.ErrSig
				if k == one.signer {
					want = api.OK
				}
				judge(t, updateOf(k, index, "alice", one.next), one.had, one.last, want, "a signer")
			}
		}
	}
}

// A signature is of one label and one entry alone.
func TestJudgeOfSignaturesOfOthers(t *testing.T) {
	a, b := keyOf("a", 2), keyOf("b", 1)
	x := firstOf(a)
	y := behind(x, b)
	fine := updateOf(a, 2, "alice", y)
	judge(t, fine, true, x, api.OK, "fine")
	u := cloned(fine)
	u.Label = "bob"
	judge(t, u, true, x, api.ErrSig, "another label")
	for _, k := range []xmss.Public{a.Public(), keyOf("b", 2).Public(), {Open: b.Public().Open, Root: a.Public().Root, Height: 1}, {Open: b.Public().Open, Root: b.Public().Root, Height: 0}} {
		u = cloned(fine)
		u.Entry.Key = k
		judge(t, u, true, x, api.ErrSig, "another key")
	}
	for _, message := range []string{"", "alice", entryBytes(y), messageOf("alice", x), tagged(12, "alice", entryBytes(y)), tagged(13, "alice"+entryBytes(y)), tagged(13, entryBytes(y), "alice")} {
		u = cloned(fine)
		u.Sig = sigOf(a, 2, message)
		judge(t, u, true, x, api.ErrSig, "another message")
	}
}

func TestJudgeOfChangedSignatures(t *testing.T) {
	a, b := keyOf("a", 2), keyOf("b", 1)
	x := firstOf(a)
	for _, fine := range []policy.Update{updateOf(a, 1, "alice", behind(x, b)), updateOf(a, 1, "alice", x)} {
		had := fine.Entry.Version > 1
		sig := func(f func(s *xmss.Sig), what string) {
			t.Helper()
			u := cloned(fine)
			f(&u.Sig)
			judge(t, u, had, x, api.ErrSig, what)
		}
		for _, index := range []int{-1, 0, 2, 3, 4, 5, 64, 1<<32 + 1, math.MinInt, math.MaxInt} {
			sig(func(s *xmss.Sig) { s.Index = index }, "an index")
		}
		for i := range 35 {
			for _, text := range []string{"", "x", noughts, noughts + "x"} {
				sig(func(s *xmss.Sig) { s.Chains[i] = text }, "a chain")
			}
		}
		for i := range 2 {
			for _, text := range []string{"", "x", noughts, fine.Sig.Path[i] + "\x00"} {
				sig(func(s *xmss.Sig) { s.Path[i] = text }, "a path")
			}
		}
		sig(func(s *xmss.Sig) { s.Chains = s.Chains[:34] }, "a chain less")
		sig(func(s *xmss.Sig) { s.Chains = append(s.Chains, noughts) }, "a chain more")
		sig(func(s *xmss.Sig) { s.Path = s.Path[:1] }, "a shorter path")
		sig(func(s *xmss.Sig) { s.Path = append(s.Path, noughts) }, "a longer path")
		sig(func(s *xmss.Sig) { s.Chains, s.Path = nil, nil }, "nothing")
		sig(func(s *xmss.Sig) { *s = xmss.Sig{} }, "none")
	}
}
