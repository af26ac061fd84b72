package cover_test

import (
	"math"
	"slices"
	"testing"

	"plumbob/api"
	"plumbob/cover"
	"plumbob/header"
	"plumbob/proof"
	"plumbob/roster"
	"plumbob/xmss"
)

// P23.2

// told: what a vote is told by the stage's headers and windows, which are as they were behind it.
func (x *stage) told(v cover.Vote, want api.Errno, what string) {
	x.t.Helper()
	x.toldBy(v, x.parent, x.h, x.windows(), want, what)
}

func (x *stage) toldBy(v cover.Vote, parent, h header.Header, windows [][]int, want api.Errno, what string) {
	x.t.Helper()
	was := clonedOne(v)
	if e := v.Check(parent, h, windows); e != want {
		x.t.Errorf("%s: %d, want %d", what, e, want)
	}
	if !alike(v, was) {
		x.t.Error("changed")
	}
}

func TestVotes(t *testing.T) {
	for depth := range 5 {
		x := newStage(t, 5, depth, cover.Rules{Slots: 3, Needed: 2})
		for _, v := range x.votes(x.h) {
			x.told(v, api.OK, "a vote")
		}
	}
}

func TestVotesOfOneAuditor(t *testing.T) {
	x := newStage(t, 1, 1, cover.Rules{Slots: 1, Needed: 1})
	for _, v := range x.votes(x.h) {
		x.told(v, api.OK, "a vote")
	}
}

func TestVotesForAnotherHeader(t *testing.T) {
	x := newStage(t, 4, 1, cover.Rules{Slots: 3, Needed: 2})
	v := x.votes(x.h)[4]
	for _, f := range []func(v *cover.Vote){
		func(v *cover.Vote) { v.Epoch++ },
		func(v *cover.Vote) { v.Epoch-- },
		func(v *cover.Vote) { v.Epoch = 0 },
		func(v *cover.Vote) { v.Epoch += 1 << 32 },
		func(v *cover.Vote) { v.Header = x.behind("another value").Digest() },
		func(v *cover.Vote) { v.Header = x.parent.Digest() },
		func(v *cover.Vote) { v.Header = "" },
		func(v *cover.Vote) { v.Header += "x" },
		func(v *cover.Vote) { v.Header = v.Header[:15] },
	} {
		w := clonedOne(v)
		f(&w)
		x.told(w, api.ErrRoot, "another header")
		x.told(x.signed(w, v.Number), api.ErrRoot, "another header, signed")
		w.Band, w.Auditor, w.Proof, w.Sig = -1, roster.Auditor{}, proof.Proof{}, xmss.Sig{} // what comes behind is wrong, too
		x.told(w, api.ErrRoot, "another header, and all else")
	}
	rival := x.behind("another value")
	x.toldBy(v, x.parent, rival, x.windows(), api.ErrRoot, "a rival")
	x.toldBy(x.vote(rival, v.Band, v.Number), x.parent, rival, x.windows(), api.OK, "its own header")
}

func TestVotesWithoutASlot(t *testing.T) {
	x := newStage(t, 5, 2, cover.Rules{Slots: 3, Needed: 2})
	for b := range 4 {
		x.told(x.vote(x.h, b, x.outside(b)), api.ErrSlot, "outside of the window")
	}
	v := x.votes(x.h)[5]
	for _, b := range []int{-1, 4, 5, 15, 16, math.MaxInt, math.MinInt} {
		w := v
		w.Band = b
		x.told(w, api.ErrSlot, "no band")
	}
	for _, number := range []int{-1, 5, 63, 64, 65536 + v.Number, math.MaxInt, math.MinInt} {
		w := v
		w.Number = number
		x.told(w, api.ErrSlot, "no number")
		w.Auditor, w.Proof, w.Sig = roster.Auditor{}, proof.Proof{}, xmss.Sig{}
		x.told(w, api.ErrSlot, "no number, and all else")
	}
	for _, windows := range [][][]int{nil, {}, x.windows()[:v.Band], slices.Repeat([][]int{nil}, 4), slices.Repeat([][]int{{v.Number + 1}}, 4)} {
		x.toldBy(v, x.parent, x.h, windows, api.ErrSlot, "other windows")
	}
}

// The windows are those that are handed in, whatever the rules would make of the header ahead.
func TestVotesByOtherWindows(t *testing.T) {
	x := newStage(t, 5, 1, cover.Rules{Slots: 2, Needed: 2})
	for b := range 2 {
		number := x.outside(b)
		v := x.vote(x.h, b, number)
		windows := [][]int{{}, {}, {}}
		windows[b] = []int{9, number}
		x.toldBy(v, x.parent, x.h, windows, api.OK, "a slot by hand")
		x.toldBy(v, x.parent, x.h, [][]int{windows[1-b], windows[b^1], windows[b]}, api.ErrSlot, "another band's slot")
	}
}

func TestVotesWithoutAProof(t *testing.T) {
	x := newStage(t, 5, 1, cover.Rules{Slots: 3, Needed: 2})
	v := x.votes(x.h)[3]
	other, _ := x.all.At((v.Number + 1) % 5)
	for what, f := range map[string]func(v *cover.Vote){
		"another name":        func(v *cover.Vote) { v.Auditor.Name += "a" },
		"no name":             func(v *cover.Vote) { v.Auditor.Name = "" },
		"another auditor":     func(v *cover.Vote) { v.Auditor = other },
		"another key":         func(v *cover.Vote) { v.Auditor.Key = other.Key },
		"another height":      func(v *cover.Vote) { v.Auditor.Key.Height++ },
		"no key":              func(v *cover.Vote) { v.Auditor.Key = xmss.Public{} },
		"a key without bytes": func(v *cover.Vote) { v.Auditor.Key.Height = 7 },
		"no proof":            func(v *cover.Vote) { v.Proof = proof.Proof{} },
		"another's proof":     func(v *cover.Vote) { v.Proof, _ = proof.Prove(x.tree, roster.Place(v.Number+1), 0) },
		"the band's proof":    func(v *cover.Vote) { v.Proof, _ = proof.Prove(x.tree, roster.Place(v.Number), 1) },
		"a changed proof":     func(v *cover.Vote) { v.Proof.Beside[0] = "\x02" + noughts },
		"a spoilt proof":      func(v *cover.Vote) { v.Proof.Beside[0] = "" },
		"another value":       func(v *cover.Vote) { v.Proof.Value = other.Value() },
	} {
		w := clonedOne(v)
		f(&w)
		x.told(w, api.ErrProof, what)
		w.Sig = xmss.Sig{}
		x.told(w, api.ErrProof, what+", and no signature")
	}
}

// One that is registered, but at another number, can't take a slot that isn't its own.
func TestVotesInAnotherOnesSlot(t *testing.T) {
	x := newStage(t, 5, 1, cover.Rules{Slots: 3, Needed: 2})
	for _, v := range x.votes(x.h) {
		other := x.outside(v.Band)
		own := x.vote(x.h, v.Band, other)
		w := own
		w.Number = v.Number
		w = x.signed(w, other)
		x.told(w, api.ErrProof, "its own proof")
		w.Proof = v.Proof
		x.told(w, api.ErrProof, "the other one's proof")
		w.Proof.Key, w.Proof.Value = roster.Place(v.Number), own.Auditor.Value()
		x.told(w, api.ErrProof, "a made-up proof")
	}
}

// It is the header ahead that must have the auditor, not the one that is voted for.
func TestVotesProvedByAnotherRoot(t *testing.T) {
	x := newStage(t, 5, 1, cover.Rules{Slots: 3, Needed: 2})
	after := x.tree.Copy()
	after.Put("0123456789abcdef", "a value")
	for _, v := range x.votes(x.h) {
		w := v
		w.Proof, _ = proof.Prove(after, roster.Place(v.Number), 0)
		if v.Proof.Node(roster.Place(v.Number), 0) != x.parent.Root() || w.Proof.Node(roster.Place(v.Number), 0) != x.h.Root() {
			t.Fatal("no proof of its root")
		}
		x.told(w, api.ErrProof, "by the root behind")
		other := x.parent
		other.Nodes = x.h.Nodes
		x.toldBy(v, other, x.h, x.windows(), api.ErrProof, "by another header ahead")
		x.toldBy(w, other, x.h, x.windows(), api.OK, "by its own header ahead")
		for _, no := range []header.Header{{}, {Depth: 1, Nodes: x.parent.Nodes[:1]}, {Depth: 5, Nodes: x.parent.Nodes}} {
			x.toldBy(v, no, x.h, x.windows(), api.ErrProof, "by a header without a root")
		}
	}
}

// An auditor who isn't registered ahead is none yet.
func TestVotesOfOneWhoIsRegisteredLater(t *testing.T) {
	x := newStage(t, 5, 1, cover.Rules{Slots: 3, Needed: 2})
	v := x.votes(x.h)[0]
	few := x.tree.Copy()
	few.Put(roster.Place(v.Number), "another value")
	x.parent.Nodes = nodesOf(t, few, 1)
	x.told(v, api.ErrProof, "not there")
	v.Proof, _ = proof.Prove(few, roster.Place(v.Number), 0)
	x.told(v, api.ErrProof, "another value there")
}

func TestVotesWithoutASignature(t *testing.T) {
	x := newStage(t, 5, 1, cover.Rules{Slots: 3, Needed: 2})
	v := x.votes(x.h)[3]
	for what, f := range map[string]func(v *cover.Vote){
		"none":             func(v *cover.Vote) { v.Sig = xmss.Sig{} },
		"another's":        func(v *cover.Vote) { *v = x.signed(*v, (v.Number+1)%5) },
		"another index":    func(v *cover.Vote) { v.Sig.Index ^= 1 },
		"a changed chain":  func(v *cover.Vote) { v.Sig.Chains[0] = noughts },
		"a changed path":   func(v *cover.Vote) { v.Sig.Path[0] = noughts },
		"the other band's": func(v *cover.Vote) { v.Sig = x.vote(x.h, 1-v.Band, v.Number).Sig },
		"a rival's":        func(v *cover.Vote) { v.Sig = x.vote(x.behind("another value"), v.Band, v.Number).Sig },
	} {
		w := clonedOne(v)
		f(&w)
		x.told(w, api.ErrSig, what)
	}
}

// A number that has another one's place is none that an attestation may have.
func TestVotesOfANumberWithTheSamePlace(t *testing.T) {
	x := newStage(t, 5, 1, cover.Rules{Slots: 3, Needed: 2})
	v := x.votes(x.h)[3]
	number := v.Number
	v.Number += 65536
	v = x.signed(v, number)
	x.toldBy(v, x.parent, x.h, [][]int{{v.Number}, {v.Number}}, api.ErrSig, "a number above two bytes")
}
