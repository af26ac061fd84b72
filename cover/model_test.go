package cover_test

import (
	"slices"
	"strconv"
	"testing"

	"plumbob/api"
	"plumbob/attest"
	"plumbob/band"
	"plumbob/cover"
	"plumbob/header"
	"plumbob/proof"
	"plumbob/roster"
	"plumbob/smt"
	"plumbob/window"
	"plumbob/xmss"
)

const noughts = "\x00\x00\x00\x00\x00\x00\x00\x00\x00\x00\x00\x00\x00\x00\x00\x00"

// stage: auditors in a tree, the header ahead that has it, and one behind.
type stage struct {
	t         *testing.T
	keys      []*xmss.Key
	all       *roster.Roster
	tree      *smt.Tree
	parent, h header.Header
	rules     cover.Rules
}

func newStage(t *testing.T, auditors, depth int, r cover.Rules) *stage {
	t.Helper()
	x := &stage{t: t, all: roster.New(), tree: smt.New(), rules: r}
	for i := range auditors {
		k := keyOf(t, i)
		x.keys = append(x.keys, k)
		if _, e := x.all.Add(roster.Auditor{Name: "x" + strconv.Itoa(i), Key: k.Public()}); e != api.OK {
			t.Fatal(e)
		}
	}
	x.all.Lay(x.tree)
	x.parent = header.Header{Epoch: 7, Parent: noughts, Depth: depth, Auditors: auditors, Nodes: nodesOf(t, x.tree, depth)}
	x.h = x.behind("a value")
	return x
}

func keyOf(t *testing.T, i int) *xmss.Key {
	t.Helper()
	k, e := xmss.New("auditor "+strconv.Itoa(i), 1)
	if e != api.OK {
		t.Fatal(e)
	}
	return k
}

func nodesOf(t *testing.T, tree *smt.Tree, depth int) []string {
	t.Helper()
	l, e := band.Nodes(tree, depth)
	if e != api.OK {
		t.Fatal(e)
	}
	return l
}

// behind the header ahead: one whose tree has a value more.
func (x *stage) behind(value string) header.Header {
	tree := x.tree.Copy()
	tree.Put("0123456789abcdef", value)
	return header.Header{Epoch: x.parent.Epoch + 1, Parent: x.parent.Digest(), Depth: x.parent.Depth, Auditors: x.parent.Auditors, Nodes: nodesOf(x.t, tree, x.parent.Depth)}
}

// windows by layer 21's own call.
func (x *stage) windows() [][]int {
	x.t.Helper()
	var l [][]int
	for b := range 1 << x.parent.Depth {
		w, e := window.Of(x.parent.Digest(), b, len(x.keys), x.rules.Slots)
		if e != api.OK {
			x.t.Fatal(e)
		}
		l = append(l, w)
	}
	return l
}

// vote of an auditor for a header and a band.
func (x *stage) vote(h header.Header, b, number int) cover.Vote {
	x.t.Helper()
	v := cover.Vote{Attestation: attest.Attestation{Epoch: h.Epoch, Band: b, Header: h.Digest(), Number: number}}
	v.Auditor, _ = x.all.At(number)
	v.Proof, _ = proof.Prove(x.tree, roster.Place(number), 0)
	return x.signed(v, number)
}

// signed by an auditor's key, whatever the vote has.
func (x *stage) signed(v cover.Vote, number int) cover.Vote {
	x.t.Helper()
	s, e := x.keys[number].Sign(v.Band&1, v.Message())
	if e != api.OK {
		x.t.Fatal(e)
	}
	v.Sig = s
	return v
}

// votes of all slots, band by band.
func (x *stage) votes(h header.Header) []cover.Vote {
	x.t.Helper()
	var l []cover.Vote
	for b, in := range x.windows() {
		for _, number := range in {
			l = append(l, x.vote(h, b, number))
		}
	}
	return l
}

// outside: a number that has no slot of a band.
func (x *stage) outside(b int) int {
	x.t.Helper()
	in := x.windows()[b]
	for number := range x.keys {
		if !slices.Contains(in, number) {
			return number
		}
	}
	x.t.Fatal("all have slots")
	return 0
}

// certified: what a certificate with these votes is told, which are as they were behind it.
func (x *stage) certified(want api.Errno, votes ...cover.Vote) {
	x.t.Helper()
	was := cloned(votes)
	if e := (cover.Certificate{Header: x.h, Votes: votes}).Check(x.parent, len(x.keys), x.rules); e != want {
		x.t.Errorf("%d votes: %d, want %d", len(votes), e, want)
	}
	if !slices.EqualFunc(votes, was, alike) {
		x.t.Error("changed")
	}
}

func cloned(l []cover.Vote) []cover.Vote {
	l = slices.Clone(l)
	for i := range l {
		l[i] = clonedOne(l[i])
	}
	return l
}

func clonedOne(v cover.Vote) cover.Vote {
	v.Sig.Chains, v.Sig.Path = slices.Clone(v.Sig.Chains), slices.Clone(v.Sig.Path)
	v.Proof.Beside = slices.Clone(v.Proof.Beside)
	return v
}

func alike(a, b cover.Vote) bool {
	return a.Epoch == b.Epoch && a.Band == b.Band && a.Header == b.Header && a.Number == b.Number &&
		a.Sig.Index == b.Sig.Index && slices.Equal(a.Sig.Chains, b.Sig.Chains) && slices.Equal(a.Sig.Path, b.Sig.Path) &&
		a.Auditor == b.Auditor && slices.Equal(a.Proof.Beside, b.Proof.Beside) &&
		a.Proof.There == b.Proof.There && a.Proof.Key == b.Proof.Key && a.Proof.Value == b.Proof.Value
}
