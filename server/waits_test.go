package server_test

import (
	"strconv"
	"strings"
	"testing"

	"plumbob/api"
	"plumbob/entry"
	"plumbob/merkle"
	"plumbob/policy"
	"plumbob/roster"
	"plumbob/server"
	"plumbob/wots"
	"plumbob/xmss"
)

// P24.2

func TestSubmitAndRegister(t *testing.T) {
	s := opened(t, disk(t, 600), 2, auditors(2)...)
	m := newModel(t, 2, auditors(2)...)
	m.submits(t, s, update(t, "alice", 1))
	m.is(t, s)
	m.registers(t, s, auditor(5))
	m.is(t, s)
	m.submits(t, s, update(t, "bob", 1))
	m.submits(t, s, update(t, "alice", 2)) // behind the one that waits
	m.registers(t, s, auditor(6))
	m.is(t, s)
	m.published(t, s)
	m.submits(t, s, update(t, "alice", 3)) // behind the one that was published
	m.submits(t, s, update(t, "alice", 4))
	m.registers(t, s, auditor(7))
	m.is(t, s)
	m.published(t, s)
}

// refused: nothing is changed by it.
func (m *model) refused(t *testing.T, s *server.Server, u policy.Update, want api.Errno, what string) {
	t.Helper()
	if e := s.Submit(u); e != want {
		t.Errorf("%s: %d, want %d", what, e, want)
	}
	m.is(t, s)
}

func (m *model) unregistered(t *testing.T, s *server.Server, a roster.Auditor, want api.Errno, what string) {
	t.Helper()
	if n, e := s.Register(a); n != 0 || e != want {
		t.Errorf("%s: %d %d, want %d", what, n, e, want)
	}
	m.is(t, s)
}

// signedAgain by a key of a label's version, whatever the update has.
func signedAgain(t *testing.T, u policy.Update, seed string) policy.Update {
	t.Helper()
	u.Sig, _ = keyOf(t, seed, 0).Sign(0, policy.Message(u.Label, u.Entry))
	return u
}

func TestSubmitOfUpdatesThatMayNotBe(t *testing.T) {
	s := opened(t, disk(t, 300), 1, auditors(2)...)
	m := newModel(t, 1, auditors(2)...)
	for _, what := range []string{"published", "waits", "published"} { // what its label has
		m.submits(t, s, update(t, "alice", len(m.history("alice"))+len(m.waiting)+1))
		if what == "published" {
			m.published(t, s)
		}
		version := len(m.history("alice")) + len(m.waiting)
		for v := 1; v <= version; v++ {
			m.refused(t, s, update(t, "alice", v), api.ErrVersion, "a version that was")
		}
		m.refused(t, s, update(t, "alice", version+2), api.ErrVersion, "a version left out")
		next := update(t, "alice", version+1)
		m.refused(t, s, signedAgain(t, next, "alice "+strconv.Itoa(version+1)), api.ErrSig, "signed by its own key")
		m.refused(t, s, signedAgain(t, next, "alice "+strconv.Itoa(version-1)), api.ErrSig, "signed by the key ahead of the last")
		next.Entry.Prev = noughts
		m.refused(t, s, signedAgain(t, next, "alice "+strconv.Itoa(version)), api.ErrRoot, "another one ahead")
		m.refused(t, s, update(t, "bob", 2), api.ErrVersion, "a later version first")
	}
	bob := update(t, "bob", 1)
	for label, want := range map[string]api.Errno{"": api.ErrRune, "Bob": api.ErrForm, "\xff": api.ErrForm, "b b": api.ErrRune, strings.Repeat("b", 65): api.ErrLong, "rob": api.ErrSig} {
		u := bob
		u.Label = label
		m.refused(t, s, u, want, label)
	}
	u := bob
	u.Entry.Key.Height = 7
	m.refused(t, s, u, api.ErrRange, "a key without bytes")
	u = bob
	u.Entry.Version = 0
	m.refused(t, s, u, api.ErrVersion, "a version without bytes")
	u = bob
	u.Entry.Prev = noughts[1:] + "x"
	m.refused(t, s, signedAgain(t, u, "bob 1"), api.ErrRoot, "something ahead of the first")
	u = bob
	u.Sig = xmss.Sig{}
	m.refused(t, s, u, api.ErrSig, "no signature")
	m.submits(t, s, bob)
	m.published(t, s)
}

// What was refused is let through later, where it is next then.
func TestSubmitAgain(t *testing.T) {
	s := opened(t, disk(t, 300), 1)
	m := newModel(t, 1)
	m.refused(t, s, update(t, "alice", 2), api.ErrVersion, "a later version first")
	m.submits(t, s, update(t, "alice", 1))
	m.refused(t, s, update(t, "alice", 1), api.ErrVersion, "the same one")
	m.submits(t, s, update(t, "alice", 2))
	m.published(t, s)
}

// Layer 18 lets through a signature with a path's text that no signature's bytes have: without bytes it has no record.
func TestSubmitOfAnUpdateWithoutBytes(t *testing.T) {
	s := opened(t, disk(t, 300), 1)
	m := newModel(t, 1)
	for _, beside := range []string{"", "short", strings.Repeat("x", 900)} {
		x := entry.Entry{Version: 1, Key: xmss.Public{Open: wots.Open("hand"), Height: 1}, Prev: noughts}
		x.Key.Root = merkle.Climb(wots.Public("hand", 0), 0, []string{beside})
		u := policy.Update{Label: "alice", Entry: x}
		own := keyOf(t, "hand", 0)
		u.Sig, _ = own.Sign(0, policy.Message("alice", x))
		u.Sig.Path = []string{beside}
		if e := policy.Judge(u, false, entry.Entry{}); e != api.OK {
			t.Fatal(e)
		}
		m.refused(t, s, u, api.ErrRange, "no bytes")
	}
}

// The greatest labels and signatures that there are have records.
func TestSubmitOfGreatUpdates(t *testing.T) {
	label := strings.Repeat("я", 64)
	k := keyOf(t, "high", 6)
	d := disk(t, 300)
	s := opened(t, d, 2)
	m := newModel(t, 2)
	x := entry.Entry{Version: 1, Key: k.Public(), Prev: noughts}
	for i := range 3 {
		u, e := policy.Sign(k, 63-i, label, x)
		if e != api.OK {
			t.Fatal(e)
		}
		m.submits(t, s, u)
		x = entry.Entry{Version: x.Version + 1, Key: k.Public(), Prev: x.Value()}
	}
	m.registers(t, s, roster.Auditor{Name: label, Key: k.Public()})
	m.published(t, s)
	m.wrote(t, d, 0, 300)
	m.is(t, opened(t, d, 2))
}

func TestRegisterOfAuditorsThatMayNotBe(t *testing.T) {
	s := opened(t, disk(t, 300), 1, auditors(2)...)
	m := newModel(t, 1, auditors(2)...)
	m.registers(t, s, auditor(2))
	m.published(t, s)
	m.registers(t, s, auditor(3))
	for i, what := range []string{"of the genesis epoch", "of the genesis epoch", "published", "waits"} {
		m.unregistered(t, s, auditor(i), api.ErrTwice, what)
		m.unregistered(t, s, roster.Auditor{Name: auditor(i).Name, Key: auditor(9).Key}, api.ErrTwice, what+": the name")
		m.unregistered(t, s, roster.Auditor{Name: "other", Key: auditor(i).Key}, api.ErrTwice, what+": the key")
	}
	for name, want := range map[string]api.Errno{"": api.ErrRune, "Eve": api.ErrForm, "\xff": api.ErrForm, strings.Repeat("e", 65): api.ErrLong} {
		m.unregistered(t, s, roster.Auditor{Name: name, Key: auditor(9).Key}, want, name)
	}
	m.unregistered(t, s, roster.Auditor{Name: "eve"}, api.ErrRange, "no key")
	m.registers(t, s, auditor(9))
	m.published(t, s)
}

func TestRegisterUpToMaxNames(t *testing.T) {
	d := disk(t, 300)
	s := opened(t, d, 1, auditors(30)...)
	m := newModel(t, 1, auditors(30)...)
	for i := 30; i < 63; i++ {
		m.registers(t, s, auditor(i))
		if i == 40 {
			m.published(t, s)
		}
	}
	m.registers(t, s, auditor(63))
	m.unregistered(t, s, auditor(64), api.ErrFull, "one more than MaxNames")
	m.published(t, s)
	m.unregistered(t, s, auditor(64), api.ErrFull, "one more than MaxNames, published")
	m.is(t, opened(t, d, 1, auditors(30)...))
}

// MaxItems things wait: none more, till they are published; other errors are ahead of that.
func TestMaxItemsThingsWait(t *testing.T) {
	s := opened(t, disk(t, 300), 1, auditors(1)...)
	for i := range 3 {
		if n, e := s.Register(auditor(i + 1)); n != i+1 || e != api.OK {
			t.Fatal(n, e)
		}
	}
	for i := 3; i < api.MaxItems; i++ {
		if e := s.Submit(update(t, "a"+strconv.Itoa(i), 1)); e != api.OK || s.Pending() != i+1 {
			t.Fatal(i, e)
		}
	}
	for range 2 {
		if e := s.Submit(update(t, "alice", 1)); e != api.ErrCount || s.Pending() != api.MaxItems {
			t.Error(e)
		}
		if n, e := s.Register(auditor(9)); n != 0 || e != api.ErrCount || s.Pending() != api.MaxItems {
			t.Error(n, e)
		}
	}
	if e := s.Submit(update(t, "alice", 2)); e != api.ErrVersion {
		t.Error(e)
	}
	if e := s.Submit(update(t, "a3", 1)); e != api.ErrVersion {
		t.Error(e)
	}
	if n, e := s.Register(auditor(3)); n != 0 || e != api.ErrTwice {
		t.Error(n, e)
	}
	if _, _, e := s.Publish(); e != api.ErrFull || s.Pending() != api.MaxItems {
		t.Error(e)
	}
}

func TestOfNil(t *testing.T) {
	var s *server.Server
	if e := s.Submit(update(t, "alice", 1)); e != api.ErrArg {
		t.Error(e)
	}
	if e := s.Submit(policy.Update{}); e != api.ErrArg {
		t.Error(e)
	}
	for _, a := range []roster.Auditor{auditor(0), {}} {
		if n, e := s.Register(a); n != 0 || e != api.ErrArg {
			t.Error(n, e)
		}
	}
	if h, l, e := s.Publish(); len(h.Nodes) != 0 || h.Parent != "" || len(l) != 0 || e != api.ErrArg {
		t.Error(e)
	}
	if a, e := s.Lookup("alice"); a.Label != "" || len(a.History) != 0 || !isProof(a.Proof, nil, "") || e != api.ErrArg {
		t.Error(e)
	}
	noMember(t, s, 0, 0, api.ErrEpoch)
	noMember(t, s, 0, -1, api.ErrEpoch)
	if s.Pending() != 0 || len(s.Headers()) != 0 {
		t.Error(s.Pending())
	}
}
