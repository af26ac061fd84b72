package cover_test

import (
	"math/rand"
	"slices"
	"testing"

	"plumbob/api"
	"plumbob/cover"
	"plumbob/header"
	"plumbob/roster"
	"plumbob/window"
	"plumbob/xmss"
)

// P23.3

func TestCertificates(t *testing.T) {
	for depth := range 5 {
		x := newStage(t, 5, depth, cover.Rules{Slots: 4, Needed: 3})
		l := x.votes(x.h)
		x.certified(api.OK, l...)
		slices.Reverse(l)
		x.certified(api.OK, l...)
		rand.New(rand.NewSource(1)).Shuffle(len(l), func(i, j int) { l[i], l[j] = l[j], l[i] })
		x.certified(api.OK, l...)
	}
}

// As many as are needed of each band are enough; without one more of any band they aren't.
func TestCertificatesWithJustEnoughVotes(t *testing.T) {
	for _, needed := range []int{1, 2, 3} {
		x := newStage(t, 5, 2, cover.Rules{Slots: 3, Needed: needed})
		var few []cover.Vote
		for i, v := range x.votes(x.h) {
			if i%3 < needed {
				few = append(few, v)
			}
		}
		x.certified(api.OK, few...)
		for i := range few {
			x.certified(api.ErrCover, slices.Delete(slices.Clone(few), i, i+1)...)
		}
		x.certified(api.ErrCover)
	}
}

// Votes of one band don't count for another one's.
func TestCertificatesThatLackOneBand(t *testing.T) {
	x := newStage(t, 5, 2, cover.Rules{Slots: 3, Needed: 1})
	l := x.votes(x.h)
	for b := range 4 {
		x.certified(api.ErrCover, slices.DeleteFunc(slices.Clone(l), func(v cover.Vote) bool { return v.Band == b })...)
	}
	for b := range 4 {
		x.certified(api.ErrCover, l[3*b:3*b+3]...)
	}
}

// spoiltVotes: votes by the error that each is told.
func (x *stage) spoiltVotes(v cover.Vote) map[api.Errno]cover.Vote {
	l := map[api.Errno]cover.Vote{api.ErrRoot: v, api.ErrSlot: v, api.ErrProof: v, api.ErrSig: v}
	for e, w := range l {
		switch e {
		case api.ErrRoot:
			w.Epoch++
		case api.ErrSlot:
			w.Number = x.outside(v.Band)
		case api.ErrProof:
			w.Auditor.Name = "other"
		case api.ErrSig:
			w.Sig = xmss.Sig{}
		}
		l[e] = w
	}
	return l
}

// All votes must be right, also where enough others are.
func TestCertificatesWithAWrongVote(t *testing.T) {
	x := newStage(t, 5, 1, cover.Rules{Slots: 3, Needed: 1})
	l := x.votes(x.h)
	for i, v := range l {
		for want, w := range x.spoiltVotes(v) {
			m := slices.Clone(l)
			m[i] = w
			x.certified(want, m...)
			x.certified(want, w) // ahead of ErrCover
		}
	}
}

// The first vote that is wrong is told.
func TestCertificatesWithTwoWrongVotes(t *testing.T) {
	x := newStage(t, 5, 1, cover.Rules{Slots: 3, Needed: 1})
	l := x.votes(x.h)
	for first, v := range x.spoiltVotes(l[1]) {
		for _, w := range x.spoiltVotes(l[4]) {
			x.certified(first, l[0], v, l[2], w)
			x.certified(first, v, l[0], l[0], w)
			x.certified(api.ErrTwice, l[0], l[0], v, w)
		}
	}
}

func TestCertificatesWithAVoteTwice(t *testing.T) {
	x := newStage(t, 5, 1, cover.Rules{Slots: 3, Needed: 2})
	l := x.votes(x.h)
	for i, v := range l {
		x.certified(api.ErrTwice, append(slices.Clone(l), v)...)
		x.certified(api.ErrTwice, slices.Insert(slices.Clone(l), i, v)...)
		x.certified(api.ErrTwice, v, v)
		another := v
		s, _ := x.keys[v.Number].Sign(1-v.Sig.Index, v.Message())
		another.Sig = s
		x.told(another, api.OK, "another signature")
		x.certified(api.ErrTwice, append(slices.Clone(l), another)...)
		for _, w := range x.spoiltVotes(v) { // ahead of its Check's error
			if w.Number == v.Number {
				x.certified(api.ErrTwice, append(slices.Clone(l), w)...)
			}
		}
	}
}

// A vote that is there twice instead of another one isn't counted twice.
func TestCertificatesOfOneVoteAgainAndAgain(t *testing.T) {
	x := newStage(t, 5, 0, cover.Rules{Slots: 3, Needed: 3})
	l := x.votes(x.h)
	x.certified(api.ErrTwice, l[0], l[0], l[0])
	x.certified(api.ErrTwice, l[0], l[1], l[0])
	x.certified(api.ErrCover, l[0], l[1])
}

// One auditor may have slots of two bands: that isn't twice.
func TestCertificatesOfTheSameAuditors(t *testing.T) {
	x := newStage(t, 3, 2, cover.Rules{Slots: 3, Needed: 3})
	x.certified(api.OK, x.votes(x.h)...)
}

// nextOnes: headers that may not be next, with what layer 19 tells of them.
func (x *stage) nextOnes() map[string]header.Header {
	l := map[string]header.Header{}
	add := func(what string, f func(h *header.Header)) {
		h := x.h
		h.Nodes = slices.Clone(h.Nodes)
		f(&h)
		l[what] = h
	}
	add("the epoch behind", func(h *header.Header) { h.Epoch++ })
	add("the epoch ahead", func(h *header.Header) { h.Epoch-- })
	add("another parent", func(h *header.Header) { h.Parent = noughts })
	add("fewer auditors", func(h *header.Header) { h.Auditors-- })
	add("another depth", func(h *header.Header) { h.Depth, h.Nodes = 0, h.Nodes[:1] })
	for i, h := range without(x.h) {
		l["without a digest "+string([]byte{byte('a' + i)})] = h
	}
	return l
}

// Layer 19's error is ahead of all others.
func TestCertificatesOfHeadersThatAreNotNext(t *testing.T) {
	x := newStage(t, 5, 1, cover.Rules{Slots: 3, Needed: 2})
	for what, h := range x.nextOnes() {
		want := x.parent.Next(h)
		if want == api.OK {
			t.Fatal(what)
		}
		c := cover.Certificate{Header: h, Votes: x.votes(h)}
		if e := c.Check(x.parent, 5, x.rules); e != want {
			t.Errorf("%s: %d, want %d", what, e, want)
		}
		if e := c.Check(x.parent, -1, cover.Rules{}); e != want {
			t.Errorf("%s, no rules: %d, want %d", what, e, want)
		}
	}
	more := x.h
	more.Auditors++
	if e := (cover.Certificate{Header: more, Votes: x.votes(more)}).Check(x.parent, 5, x.rules); e != api.OK {
		t.Error("more auditors", e)
	}
}

// Windows' error is ahead of the votes'.
func TestCertificatesOfWrongRules(t *testing.T) {
	x := newStage(t, 5, 1, cover.Rules{Slots: 3, Needed: 2})
	l := x.votes(x.h)
	wrong := slices.Clone(l)
	wrong[0].Sig = xmss.Sig{}
	for _, votes := range [][]cover.Vote{nil, l, wrong, append(slices.Clone(l), l[0])} {
		c := cover.Certificate{Header: x.h, Votes: votes}
		for _, y := range []struct {
			auditors int
			r        cover.Rules
			want     api.Errno
		}{
			{5, cover.Rules{}, api.ErrArg}, {5, cover.Rules{Slots: 3}, api.ErrArg}, {5, cover.Rules{Slots: 3, Needed: 4}, api.ErrArg},
			{-1, x.rules, api.ErrArg}, {65, x.rules, api.ErrArg}, {2, x.rules, api.ErrCount}, {0, x.rules, api.ErrCount}, {5, cover.Rules{Slots: 6, Needed: 2}, api.ErrCount},
		} {
			if e := c.Check(x.parent, y.auditors, y.r); e != y.want {
				t.Errorf("%d votes, %d auditors, %v: %d, want %d", len(votes), y.auditors, y.r, e, y.want)
			}
		}
	}
}

// The windows are those of as many auditors as are told, not of those that the header ahead has.
func TestCertificatesOfFewerActiveAuditors(t *testing.T) {
	x := newStage(t, 9, 1, cover.Rules{Slots: 3, Needed: 3})
	var l []cover.Vote
	for b := range 2 {
		in, _ := window.Of(x.parent.Digest(), b, 4, 3)
		for _, number := range in {
			l = append(l, x.vote(x.h, b, number))
		}
	}
	c := cover.Certificate{Header: x.h, Votes: l}
	if e := c.Check(x.parent, 4, x.rules); e != api.OK {
		t.Error(e)
	}
	if e := c.Check(x.parent, 9, x.rules); e != api.ErrSlot {
		t.Error(e)
	}
}

// The room behind the votes is left as it is, and so is that behind a vote's lists.
func TestNothingHandedInIsChanged(t *testing.T) {
	x := newStage(t, 5, 1, cover.Rules{Slots: 3, Needed: 2})
	l := append(x.votes(x.h), cover.Vote{Auditor: roster.Auditor{Name: "behind"}})
	beside := append(slices.Clone(l[0].Proof.Beside), "behind")
	l[0].Proof.Beside = beside[:len(beside)-1]
	x.certified(api.OK, l[:6]...)
	if l[6].Auditor.Name != "behind" || beside[len(beside)-1] != "behind" {
		t.Error("changed")
	}
}

// P4, as far as it goes here: of two rivals not both are certified, where no more than the faulty ones sign both.
func TestNotBothRivalsAreCertified(t *testing.T) {
	for faulty := range 3 {
		x := newStage(t, 4, 0, cover.Rules{Slots: 4, Needed: window.Needed(4, faulty)})
		rival := x.behind("another value")
		one, two := x.votes(x.h), x.votes(rival)
		certified := 0
		for which := range 1 << 4 { // of each bit the honest one's header; the first ones of the window sign both
			var l, m []cover.Vote
			for slot := range 4 {
				if slot < faulty || which>>slot&1 == 0 {
					l = append(l, one[slot])
				}
				if slot < faulty || which>>slot&1 == 1 {
					m = append(m, two[slot])
				}
			}
			e := cover.Certificate{Header: x.h, Votes: l}.Check(x.parent, 4, x.rules)
			f := cover.Certificate{Header: rival, Votes: m}.Check(x.parent, 4, x.rules)
			if e == api.OK && f == api.OK {
				t.Error(faulty, which, "both")
			}
			if e == api.OK || f == api.OK {
				certified++
			}
		}
		if certified == 0 {
			t.Error("too little was tried")
		}
	}
}
