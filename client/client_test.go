package client_test

import (
	"math"
	"slices"
	"testing"

	"plumbob/api"
	"plumbob/client"
	"plumbob/cover"
	"plumbob/entry"
	"plumbob/header"
	"plumbob/server"
	"plumbob/xmss"
)

// P26.1

func TestNewClients(t *testing.T) {
	for depth := range 5 {
		for _, r := range []cover.Rules{{Slots: 1, Needed: 1}, {Slots: 4, Needed: 1}, {Slots: 5, Needed: 3}, {Slots: 5, Needed: 5}} {
			x := newDirectory(t, 5, depth)
			has(t, x.begun(r), 5, x.headers[0])
		}
	}
}

func refused(t *testing.T, what string, genesis header.Header, r cover.Rules, want api.Errno) {
	t.Helper()
	if c, e := client.New(genesis, r); c != nil || e != want {
		t.Errorf("%s, %v: %d, want %d", what, r, e, want)
	}
}

func TestNewOfWrongRules(t *testing.T) {
	g := newDirectory(t, 5, 1).headers[0]
	for _, r := range []cover.Rules{
		{}, {Slots: 3}, {Slots: 3, Needed: -1}, {Slots: 3, Needed: 4}, {Needed: 1}, {Slots: -1, Needed: 1}, {Slots: -3, Needed: -4},
		{Slots: math.MaxInt, Needed: 0}, {Slots: 2, Needed: math.MaxInt}, {Slots: math.MinInt, Needed: math.MinInt}, {Slots: 9, Needed: 10}, {Slots: 9},
	} {
		refused(t, "rules", g, r, api.ErrArg)
	}
	for _, r := range []cover.Rules{{Slots: 6, Needed: 1}, {Slots: 6, Needed: 6}, {Slots: 65, Needed: 1}, {Slots: math.MaxInt, Needed: math.MaxInt}} {
		refused(t, "rules", g, r, api.ErrCount)
	}
	none := newDirectory(t, 0, 1).headers[0]
	refused(t, "no auditors", none, cover.Rules{Slots: 1, Needed: 1}, api.ErrCount)
	refused(t, "no auditors", none, cover.Rules{}, api.ErrArg)
}

func TestNewOfHeadersThatAreNoGenesis(t *testing.T) {
	x := newDirectory(t, 5, 1)
	later, short, far, nodes, parent, bad := x.next(), x.headers[0], x.headers[0], x.headers[0], x.headers[0], x.headers[0]
	short.Parent = ""
	far.Epoch = 1 << 32
	nodes.Nodes = nodes.Nodes[:1]
	parent.Parent = x.headers[0].Digest()
	bad.Nodes = []string{"a", "b"}
	for _, y := range []struct {
		what string
		h    header.Header
		want api.Errno
	}{
		{"a later one", later, api.ErrEpoch}, {"without a parent", short, api.ErrRange}, {"an epoch too far", far, api.ErrRange}, {"none", header.Header{}, api.ErrRange},
		{"without a node", nodes, api.ErrCount}, {"another parent", parent, api.ErrRoot}, {"bad nodes", bad, api.ErrForm},
	} {
		for _, r := range []cover.Rules{{Slots: 3, Needed: 2}, {}, {Slots: 9, Needed: 1}} { // the header's error is ahead
			refused(t, y.what, y.h, r, y.want)
		}
	}
}

// Epoch by epoch: auditors that are registered are active two epochs behind.
func TestAccept(t *testing.T) {
	for depth := range 3 {
		r := cover.Rules{Slots: 3, Needed: 2}
		x := newDirectory(t, 3, depth)
		c := x.begun(r)
		for i, more := range []int{0, 2, 0, 1, 1, 3, 0, 0, 0} {
			x.register(more)
			x.tree.Put(entry.Name("a"), string([]byte{byte(i)}))
			x.accepted(c, r)
			has(t, c, x.active(len(x.headers)), x.headers...)
		}
		if x.active(3) != 3 || x.active(4) != 5 || c.Active() != 10 {
			t.Error("too little was tried:", c.Active())
		}
	}
}

// Of windows among other numbers of auditors the votes have no slots.
func TestAcceptByTheActiveAuditorsAlone(t *testing.T) {
	r := cover.Rules{Slots: 3, Needed: 3}
	x := newDirectory(t, 3, 1)
	c := x.begun(r)
	tried := 0
	for i := range 8 {
		x.register(i % 3)
		h := x.publish()
		n := int(h.Epoch)
		want := x.active(n)
		for _, active := range []int{x.headers[n-1].Auditors, h.Auditors, x.headers[max(0, n-3)].Auditors, x.headers[0].Auditors} {
			made := x.votedFor(h, active, r)
			if active == want || made == nil {
				continue
			}
			e := c.Accept(*made)
			if f := made.Check(x.headers[n-1], want, r); e != f {
				t.Fatal(e, f)
			}
			if e == api.OK { // the windows are the same ones by chance
				t.Fatal("another seed is needed")
			}
			has(t, c, want, x.headers[:n]...)
			tried++
		}
		if e := c.Accept(x.certified(h, want, r)); e != api.OK {
			t.Fatal(e)
		}
	}
	if tried < 15 {
		t.Error("too little was tried:", tried)
	}
}

// votedFor a header, by windows among other auditors, where the tree ahead has all of these.
func (x *directory) votedFor(h header.Header, active int, r cover.Rules) *cover.Certificate {
	x.t.Helper()
	if active > x.headers[h.Epoch-1].Auditors {
		return nil
	}
	c := x.certified(h, active, r)
	return &c
}

// What isn't accepted changes nothing: its header is no last one.
func TestAcceptOfWhatMayNotBe(t *testing.T) {
	r := cover.Rules{Slots: 3, Needed: 2}
	x := newDirectory(t, 4, 1)
	c := x.begun(r)
	x.accepted(c, r)
	old := x.certified(x.headers[1], 4, r)
	x.tree.Put(entry.Name("a"), "rival")
	rival := x.certified(x.next(), 4, r)
	x.tree.Put(entry.Name("a"), "value")
	h := x.publish()
	right := x.certified(h, 4, r)
	x.tree.Put(entry.Name("a"), "later")
	later := x.certified(x.publish(), 4, r)
	spoilt := func(f func(y *cover.Certificate)) cover.Certificate {
		y := right
		y.Votes = slices.Clone(y.Votes)
		f(&y)
		return y
	}
	fewer := h
	fewer.Auditors--
	for _, y := range []struct {
		what string
		c    cover.Certificate
		want api.Errno
	}{
		{"none", cover.Certificate{}, api.ErrRange},
		{"the last one", old, api.ErrEpoch},
		{"a later one", later, api.ErrEpoch},
		{"without votes", cover.Certificate{Header: h}, api.ErrCover},
		{"too few votes", spoilt(func(y *cover.Certificate) { y.Votes = y.Votes[2:] }), api.ErrCover},
		{"fewer auditors", spoilt(func(y *cover.Certificate) { y.Header = fewer }), api.ErrCount},
		{"a vote twice", spoilt(func(y *cover.Certificate) { y.Votes[1] = y.Votes[0] }), api.ErrTwice},
		{"a rival's votes", spoilt(func(y *cover.Certificate) { y.Votes = rival.Votes }), api.ErrRoot},
		{"a vote without a slot", spoilt(func(y *cover.Certificate) { y.Votes[0].Number = 60 }), api.ErrSlot},
		{"a vote's proof", spoilt(func(y *cover.Certificate) { y.Votes[0].Proof = y.Votes[1].Proof }), api.ErrProof},
		{"a vote's signature", spoilt(func(y *cover.Certificate) { y.Votes[0].Sig = xmss.Sig{} }), api.ErrSig},
	} {
		if e := c.Accept(y.c); e != y.want {
			t.Errorf("%s: %d, want %d", y.what, e, y.want)
		}
		has(t, c, 4, x.headers[:2]...)
	}
	if e := c.Accept(spoilt(func(y *cover.Certificate) { y.Votes = append(y.Votes[:2:2], y.Votes[4:]...) })); e != api.OK {
		t.Error("just enough votes:", e)
	}
	for _, y := range []cover.Certificate{right, rival, old} {
		if e := c.Accept(y); e != api.ErrEpoch {
			t.Error(e)
		}
	}
	if e := c.Accept(later); e != api.OK {
		t.Error(e)
	}
	has(t, c, 4, x.headers...)
}

// Of two rivals the client accepts that which comes first, and what is behind that.
func TestAcceptOneOfTwoRivals(t *testing.T) {
	r := cover.Rules{Slots: 2, Needed: 2}
	x := newDirectory(t, 3, 0)
	c, other := x.begun(r), x.begun(r)
	x.tree.Put(entry.Name("a"), "rival")
	rival := x.next()
	if e := other.Accept(x.certified(rival, 3, r)); e != api.OK {
		t.Fatal(e)
	}
	x.tree.Put(entry.Name("a"), "value")
	x.accepted(c, r)
	if e := other.Accept(x.certified(x.headers[1], 3, r)); e != api.ErrEpoch {
		t.Error(e)
	}
	next := x.certified(x.publish(), 3, r)
	if e := other.Accept(next); e != api.ErrRoot {
		t.Error(e)
	}
	if e := c.Accept(next); e != api.OK {
		t.Error(e)
	}
	has(t, c, 3, x.headers...)
	has(t, other, 3, x.headers[0], rival)
}

func TestOfNil(t *testing.T) {
	var c *client.Client
	if len(c.Headers()) != 0 || c.Active() != 0 {
		t.Error("nil")
	}
	r := cover.Rules{Slots: 1, Needed: 1}
	x := newDirectory(t, 1, 0)
	l := history(t, "alice", "", 1)
	x.put("alice", l)
	h := x.publish()
	if e := c.Accept(x.certified(h, 1, r)); e != api.ErrArg {
		t.Error(e)
	}
	for _, a := range []server.Answer{{}, x.answer("alice", l...), x.answer("bob")} {
		if y, ok, e := c.Check(a); e != api.ErrArg || ok || y != (entry.Entry{}) {
			t.Error(e, ok)
		}
	}
}

// Rules: nothing handed in is changed or kept, and what is told is new.
func TestNothingIsSharedOrChanged(t *testing.T) {
	r := cover.Rules{Slots: 3, Needed: 2}
	x := newDirectory(t, 3, 1)
	keep := func(l []string) []string { return append(slices.Clone(l), "behind")[:len(l)] }
	is := func(l, want []string) {
		t.Helper()
		if !slices.Equal(l, want) || l[:len(l)+1][len(l)] != "behind" {
			t.Error("changed")
		}
	}
	g := x.headers[0]
	g.Nodes = keep(g.Nodes)
	c, e := client.New(g, r)
	if e != api.OK {
		t.Fatal(e)
	}
	is(g.Nodes, x.headers[0].Nodes)
	g.Nodes[0] = "spoilt"
	has(t, c, 3, x.headers...)
	made := x.certified(x.publish(), 3, r)
	made.Header.Nodes = keep(made.Header.Nodes)
	made.Votes = append(made.Votes, cover.Vote{})[:len(made.Votes)]
	beside := keep(made.Votes[0].Proof.Beside)
	made.Votes[0].Proof.Beside = beside
	if e := c.Accept(made); e != api.OK {
		t.Fatal(e)
	}
	is(made.Header.Nodes, x.headers[1].Nodes)
	is(beside, x.certified(x.headers[1], 3, r).Votes[0].Proof.Beside)
	made.Header.Nodes[0] = "spoilt"
	has(t, c, 3, x.headers...)
	l := c.Headers()
	l[0].Nodes[0], l[1].Nodes[0], l[1].Epoch, l[0] = "spoilt", "spoilt", 9, header.Header{}
	has(t, c, 3, x.headers...)
	_ = append(c.Headers()[:1], header.Header{})
	has(t, c, 3, x.headers...)
	x.accepted(c, r)
	has(t, c, 3, x.headers...)
}

// What a client tells depends on what it was told alone: two are as one.
func TestClientsApart(t *testing.T) {
	r := cover.Rules{Slots: 3, Needed: 2}
	x := newDirectory(t, 3, 0)
	c, d := x.begun(r), x.begun(r)
	x.accepted(c, r)
	has(t, c, 3, x.headers...)
	has(t, d, 3, x.headers[0])
	if e := d.Accept(x.certified(x.headers[1], 3, r)); e != api.OK {
		t.Error(e)
	}
	has(t, d, 3, x.headers...)
}
