package client_test

import (
	"math/rand"
	"slices"
	"strings"
	"testing"

	"plumbob/api"
	"plumbob/client"
	"plumbob/cover"
	"plumbob/entry"
	"plumbob/policy"
	"plumbob/proof"
	"plumbob/roster"
	"plumbob/sector"
	"plumbob/server"
)

// P26.2

// labelled: a directory whose labels have so many entries, and a client that accepted it.
func labelled(t *testing.T, depth int, counts map[string]int) (*directory, *client.Client) {
	t.Helper()
	r := cover.Rules{Slots: 2, Needed: 2}
	x := newDirectory(t, 2, depth)
	for label, n := range counts {
		x.put(label, history(t, label, "", n))
	}
	c := x.begun(r)
	x.accepted(c, r)
	return x, c
}

// tells an answer's last entry.
func tells(t *testing.T, c *client.Client, a server.Answer, want entry.Entry) {
	t.Helper()
	if x, ok, e := c.Check(a); e != api.OK || !ok || x != want {
		t.Fatalf("%q: %t %d", a.Label, ok, e)
	}
}

// refuses an answer.
func refuses(t *testing.T, c *client.Client, a server.Answer, want api.Errno, what string) {
	t.Helper()
	if x, ok, e := c.Check(a); e != want || ok || x != (entry.Entry{}) {
		t.Errorf("%q, %s: %t %d, want %d", a.Label, what, ok, e, want)
	}
}

func TestCheck(t *testing.T) {
	counts := map[string]int{"alice": 1, "bob": 2, "carol": 5, "a.b": 3}
	for depth := range 5 {
		x, c := labelled(t, depth, counts)
		for label, n := range counts {
			l := history(t, label, "", n)
			tells(t, c, x.answer(label, l...), l[n-1])
			refuses(t, c, x.answer(label), api.ErrProof, "without entries")
		}
		for _, label := range []string{"dave", "", "Alice", "alice ", "\xff", strings.Repeat("a", 70)} {
			refuses(t, c, x.answer(label), api.OK, "none")
			a := x.answer(label)
			a.History = []entry.Entry{}
			refuses(t, c, a, api.OK, "none")
			a.History = history(t, "alice", "", 1)
			refuses(t, c, a, api.ErrProof, "entries of another one")
		}
	}
}

// Of an empty tree there is no leaf; of the genesis header a client tells answers, too.
func TestCheckByTheGenesisHeader(t *testing.T) {
	x := newDirectory(t, 1, 2)
	c := x.begun(cover.Rules{Slots: 1, Needed: 1})
	refuses(t, c, x.answer("alice"), api.OK, "none")
	refuses(t, c, x.answer("alice", history(t, "alice", "", 1)...), api.ErrProof, "none there")
}

func TestCheckOfEntriesThatAreNoHistory(t *testing.T) {
	x, c := labelled(t, 1, map[string]int{"alice": 3})
	l := history(t, "alice", "", 3)
	other := history(t, "alice", "other", 3)
	wrongFirst := slices.Clone(l)
	wrongFirst[0].Prev = l[0].Value()
	for _, y := range []struct {
		what string
		l    []entry.Entry
		want api.Errno
	}{
		{"without the first one", l[1:], api.ErrVersion},
		{"the last one alone", l[2:], api.ErrVersion},
		{"without the second one", []entry.Entry{l[0], l[2]}, api.ErrVersion},
		{"in another order", []entry.Entry{l[0], l[2], l[1]}, api.ErrVersion},
		{"one twice", []entry.Entry{l[0], l[0], l[1], l[2]}, api.ErrVersion},
		{"of the version 0", []entry.Entry{{}}, api.ErrVersion},
		{"the first one's Prev", wrongFirst, api.ErrRoot},
		{"another first one", []entry.Entry{other[0], l[1], l[2]}, api.ErrRoot},
		{"another second one", []entry.Entry{l[0], other[1], l[2]}, api.ErrRoot},
	} {
		refuses(t, c, x.answer("alice", y.l...), y.want, y.what)
		refuses(t, c, server.Answer{Label: "alice", History: y.l}, y.want, y.what) // ahead of ErrProof
		refuses(t, c, server.Answer{Label: "bob", History: y.l}, y.want, y.what)
	}
}

func TestCheckOfEntriesThatTheRootHasNot(t *testing.T) {
	x, c := labelled(t, 1, map[string]int{"alice": 3, "bob": 3})
	l := history(t, "alice", "", 3)
	last := l[2]
	last.Key = keyOf(t, "other").Public()
	for what, l := range map[string][]entry.Entry{
		"the first one alone": l[:1], "without the last one": l[:2], "one more": history(t, "alice", "", 4), "another history": history(t, "alice", "other", 3),
		"another last one": {l[0], l[1], last}, "another label's": history(t, "bob", "", 3),
	} {
		refuses(t, c, x.answer("alice", l...), api.ErrProof, what)
	}
	a := x.answer("alice", l...)
	a.Label = "bob"
	refuses(t, c, a, api.ErrProof, "another label")
	a.Label, a.Proof = "alice", x.answer("bob").Proof
	refuses(t, c, a, api.ErrProof, "another label's proof")
	a.Proof = proof.Proof{}
	refuses(t, c, a, api.ErrProof, "no proof")
	refuses(t, c, server.Answer{}, api.ErrProof, "nothing")
}

func TestCheckOfSpoiltProofs(t *testing.T) {
	x, c := labelled(t, 1, map[string]int{"alice": 2, "bob": 1})
	l := history(t, "alice", "", 2)
	for _, right := range []server.Answer{x.answer("alice", l...), x.answer("nobody")} {
		for what, f := range map[string]func(p *proof.Proof){
			"a Beside less": func(p *proof.Proof) { p.Beside = p.Beside[1:] },
			"another one":   func(p *proof.Proof) { p.Beside[0] = "\x02" + noughts },
			"one more":      func(p *proof.Proof) { p.Beside = append(p.Beside, "\x02"+noughts) },
			"the key":       func(p *proof.Proof) { p.Key = entry.Name("carol") },
			"the value":     func(p *proof.Proof) { p.Value += "x" },
			"There":         func(p *proof.Proof) { p.There = !p.There },
			"one of 129":    func(p *proof.Proof) { p.Beside = make([]string, 129) },
		} {
			a := right
			a.Proof.Beside = slices.Clone(a.Proof.Beside)
			f(&a.Proof)
			refuses(t, c, a, api.ErrProof, what)
		}
	}
}

// The last header counts: neither an older one, nor one that isn't accepted.
func TestCheckByTheLastHeader(t *testing.T) {
	r := cover.Rules{Slots: 2, Needed: 2}
	x, c := labelled(t, 1, map[string]int{"alice": 1, "bob": 1})
	l := history(t, "alice", "", 2)
	one, none := x.answer("alice", l[0]), x.answer("carol")
	tells(t, c, one, l[0])
	refuses(t, c, none, api.OK, "none")
	x.put("alice", l)
	h := x.publish()
	two := x.answer("alice", l...)
	refuses(t, c, two, api.ErrProof, "not accepted yet")
	tells(t, c, one, l[0])
	if e := c.Accept(x.certified(h, 2, r)); e != api.OK {
		t.Fatal(e)
	}
	tells(t, c, two, l[1])
	refuses(t, c, one, api.ErrProof, "by an older one")
	refuses(t, c, none, api.ErrProof, "by an older one")
	refuses(t, c, x.answer("carol"), api.OK, "none")
	x.accepted(c, r) // with the same tree
	tells(t, c, two, l[1])
}

// What a server answers for its last header is right.
func TestCheckOfAServersAnswers(t *testing.T) {
	r := cover.Rules{Slots: 1, Needed: 1}
	k := keyOf(t, "auditor 0")
	d, _ := sector.New(300)
	s, e := server.New(d, 0, 300, 1, roster.Auditor{Name: "x0", Key: k.Public()})
	if e != api.OK {
		t.Fatal(e)
	}
	c, _ := client.New(s.Headers()[0], r)
	x := newDirectory(t, 1, 1)
	l := history(t, "alice", "", 3)
	for i, y := range l {
		u, _ := policy.Sign(keyOf(t, "alice"+string([]byte{byte('0' + max(0, i-1))})), 0, "alice", y)
		if e := s.Submit(u); e != api.OK {
			t.Fatal(e)
		}
		x.put("alice", l[:i+1])
		h, _, _ := s.Publish()
		if e := c.Accept(x.certified(x.publish(), 1, r)); e != api.OK || !h.Same(x.headers[i+1]) {
			t.Fatal(e)
		}
		a, _ := s.Lookup("alice")
		tells(t, c, a, y)
		a, _ = s.Lookup("bob")
		refuses(t, c, a, api.OK, "none")
	}
}

func TestCheckChangesNothing(t *testing.T) {
	x, c := labelled(t, 1, map[string]int{"alice": 2, "bob": 1})
	l := history(t, "alice", "", 3)
	for range 2 {
		a := x.answer("alice", l[:2]...)
		a.Proof.Beside = append(a.Proof.Beside, "behind")[:len(a.Proof.Beside)]
		tells(t, c, a, l[1])
		n := len(a.Proof.Beside)
		if !slices.Equal(l, history(t, "alice", "", 3)) || a.Proof.Beside[:n+1][n] != "behind" || !slices.Equal(a.Proof.Beside, x.answer("alice").Proof.Beside) {
			t.Error("changed")
		}
		a.History[1], a.Proof = entry.Entry{}, proof.Proof{}
		l = history(t, "alice", "", 3)
		has(t, c, 2, x.headers...)
	}
}

// P26.3

// A tree that has the empty text for a name tells no entry: all that have no value have that one.
func TestEntriesWithoutAValue(t *testing.T) {
	r := cover.Rules{Slots: 2, Needed: 2}
	x := newDirectory(t, 2, 1)
	x.tree.Put(entry.Name("alice"), "")
	c := x.begun(r)
	x.accepted(c, r)
	l := history(t, "alice", "", 2)
	for _, f := range []func(y *entry.Entry){
		func(y *entry.Entry) { y.Key.Height = 7 },
		func(y *entry.Entry) { y.Key.Height = -1 },
		func(y *entry.Entry) { y.Key.Open = "" },
		func(y *entry.Entry) { y.Key.Root += "x" },
	} {
		for n := 1; n <= 2; n++ {
			m := slices.Clone(l[:n])
			f(&m[n-1])
			if m[n-1].Value() != "" {
				t.Fatal("it has a value")
			}
			refuses(t, c, x.answer("alice", m...), api.ErrProof, "no value")
		}
	}
	m := slices.Clone(l)
	m[1].Prev = m[1].Prev[:15]
	refuses(t, c, x.answer("alice", m...), api.ErrRoot, "no Prev")
	refuses(t, c, x.answer("alice"), api.ErrProof, "without entries")
}

// Of answers that are spoilt at some places all that are OK tell the same.
func TestTwoAnswersTellTheSame(t *testing.T) {
	t.Parallel()
	r := rand.New(rand.NewSource(263))
	labels := []string{"alice", "bob", "carol", "nobody"}
	x, c := labelled(t, 2, map[string]int{"alice": 1, "bob": 2, "carol": 3})
	var all []server.Answer
	want := map[string]entry.Entry{}
	for i, label := range labels {
		l := history(t, label, "", (i+1)%4)
		if len(l) > 0 {
			want[label] = l[len(l)-1]
		}
		all = append(all, x.answer(label, l...), x.answer(label, history(t, label, "other", i)...))
	}
	told := map[api.Errno]int{}
	for range 4000 {
		a := mixed(r, all[r.Intn(len(all))], all[r.Intn(len(all))])
		y, ok, e := c.Check(a)
		told[e]++
		if e != api.OK {
			continue
		}
		if last, is := want[a.Label]; ok != is || y != last {
			t.Fatalf("%q: %t %d", a.Label, ok, y.Version)
		}
	}
	for _, e := range []api.Errno{api.OK, api.ErrProof, api.ErrVersion, api.ErrRoot} {
		if told[e] < 50 {
			t.Error("too little was tried:", told)
		}
	}
}

// mixed of two answers: what the one has stands at some places of the other one.
func mixed(r *rand.Rand, a, b server.Answer) server.Answer {
	a.History, a.Proof.Beside = slices.Clone(a.History), slices.Clone(a.Proof.Beside)
	for range r.Intn(3) {
		switch r.Intn(9) {
		case 0:
			a.Label = b.Label
		case 1:
			a.History = slices.Clone(b.History)
		case 2:
			a.Proof = b.Proof
		case 3:
			a.Proof.Key, a.Proof.Value = b.Proof.Key, b.Proof.Value
		case 4:
			a.Proof.There = !a.Proof.There
		case 5:
			a.Proof.Beside = append(a.Proof.Beside[:len(a.Proof.Beside):len(a.Proof.Beside)], b.Proof.Beside...)
		case 6:
			a.History = a.History[:r.Intn(len(a.History)+1)]
		case 7:
			a.History = a.History[r.Intn(len(a.History)+1):]
		case 8:
			if n := min(len(a.History), len(b.History)); n > 0 {
				i := r.Intn(n)
				a.History[i] = b.History[i]
			}
		}
	}
	return a
}
