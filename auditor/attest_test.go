package auditor_test

import (
	"math"
	"math/rand"
	"slices"
	"testing"

	"plumbob/api"
	"plumbob/header"
	"plumbob/proof"
	"plumbob/smt"
	"plumbob/trans"
)

// P25.2

func TestAttestEachBandOfEachDepth(t *testing.T) {
	for depth := range 5 {
		d := disk(t, 80)
		m, a := newModel(t, 77, 5), on(t, d, 77, 5)
		g := genesis(t, depth)
		h, l := g.next(t, "value", "a", "d", "e", "f", "g", "h")
		for b, x := range l {
			if e := m.asked(t, a, b, g.h, h.h, x); e != api.OK {
				t.Fatal(depth, b, e)
			}
		}
		a = on(t, d, 77, 5)
		m.is(t, a)
		for b, x := range l {
			if e := m.asked(t, a, b+40, g.h, h.h, x); e != api.OK {
				t.Fatal(depth, b, e)
			}
		}
		m.is(t, on(t, d, 77, 5))
	}
}

// Header by header, epoch by epoch.
func TestAttestEpochs(t *testing.T) {
	m, a := newModel(t, 40, 4), on(t, disk(t, 50), 40, 4)
	x := genesis(t, 1)
	for i := range 7 {
		y, l := x.next(t, "value "+string([]byte{byte('0' + i)}), "a", "d")
		for b := range 2 {
			if e := m.asked(t, a, 1, x.h, y.h, l[b]); e != api.OK {
				t.Fatal(e)
			}
			if s, ok := a.Marked(uint64(i+1), b); !ok || s != y.h.Digest() {
				t.Fatal(i, b, ok)
			}
		}
		x = y
	}
}

func TestAttestOfNumbers(t *testing.T) {
	g := genesis(t, 0)
	h, l := g.next(t, "value", "a")
	for _, number := range []int{0, 1, 62, 63} {
		if e := newModel(t, 40, 0).asked(t, on(t, disk(t, 50), 40, 0), number, g.h, h.h, l[0]); e != api.OK {
			t.Error(number, e)
		}
	}
	m, a := newModel(t, 40, 0), on(t, disk(t, 50), 40, 0)
	for _, number := range []int{-1, 64, 65, 1 << 16, 1<<16 + 1, 1 << 32, -64, math.MinInt, math.MaxInt} {
		if e := m.asked(t, a, number, g.h, h.h, l[0]); e != api.ErrRange {
			t.Error(number, e)
		}
	}
}

// spoilt: what may not be attested, with the error of it by the chapter's words.
type spoilt struct {
	what      string
	parent, h header.Header
	x         trans.Transition
	want      api.Errno
}

func without(h header.Header) header.Header {
	h.Parent = ""
	return h
}

func spoiltOnes(t *testing.T) (epoch, epoch, trans.Transition, []spoilt) {
	t.Helper()
	g := genesis(t, 1)
	h, l := g.next(t, "value", "a", "d", "e", "f")
	_, m := g.next(t, "another value", "a", "d", "e", "f")
	later, n := h.next(t, "a later value", "a", "d", "e", "f")
	_, whole := epoch{g.tree, genesis(t, 0).h}.next(t, "value", "a", "d", "e", "f")
	fewer, otherDepth, twoOn := h.h, h.h, h.h
	fewer.Auditors--
	otherDepth.Depth, otherDepth.Nodes = 0, otherDepth.Nodes[:1]
	twoOn.Epoch++
	ofRival := later.h
	ofRival.Parent = noughts
	change := func(f func(x *trans.Transition)) trans.Transition {
		x := l[0]
		x.Steps = slices.Clone(x.Steps)
		f(&x)
		return x
	}
	return g, h, l[0], []spoilt{
		{"a header without a digest", g.h, without(h.h), l[0], api.ErrRange},
		{"none", g.h, header.Header{}, l[0], api.ErrRange},
		{"its own parent", h.h, h.h, l[0], api.ErrEpoch},
		{"the epoch behind", g.h, twoOn, l[0], api.ErrEpoch},
		{"the other way round", h.h, g.h, l[0], api.ErrEpoch},
		{"no digest ahead", without(g.h), h.h, l[0], api.ErrRoot},
		{"another header's", g.h, later.h, n[0], api.ErrEpoch},
		{"a rival's next", h.h, ofRival, n[0], api.ErrRoot},
		{"fewer auditors", g.h, fewer, l[0], api.ErrCount},
		{"another depth", g.h, otherDepth, l[0], api.ErrCount},
		{"a transition's depth", g.h, h.h, change(func(x *trans.Transition) { x.Depth = 5 }), api.ErrArg},
		{"its band", g.h, h.h, change(func(x *trans.Transition) { x.Band = 2 }), api.ErrRange},
		{"its band below 0", g.h, h.h, change(func(x *trans.Transition) { x.Band = -1 }), api.ErrRange},
		{"too many steps", g.h, h.h, change(func(x *trans.Transition) { x.Steps = make([]trans.Step, 257) }), api.ErrCount},
		{"a proof", g.h, h.h, change(func(x *trans.Transition) { x.Steps[0].Proof = proof.Proof{} }), api.ErrProof},
		{"its Old", g.h, h.h, change(func(x *trans.Transition) { x.Old = l[1].Old }), api.ErrProof},
		{"its New", g.h, h.h, change(func(x *trans.Transition) { x.New = l[1].New }), api.ErrRoot},
		{"a step less", g.h, h.h, change(func(x *trans.Transition) { x.Steps = x.Steps[:1] }), api.ErrRoot},
		{"none of both", g.h, h.h, trans.Transition{}, api.ErrRoot},
		{"a transition of the whole tree", g.h, h.h, whole[0], api.ErrRoot},
		{"a rival's", g.h, h.h, m[0], api.ErrRoot},
		{"a later one's", g.h, h.h, n[0], api.ErrRoot},
		{"one that changes nothing", g.h, h.h, trans.Transition{Depth: 1, Old: g.h.Nodes[0], New: g.h.Nodes[0]}, api.ErrRoot},
		{"one from what is there behind", g.h, h.h, trans.Transition{Depth: 1, Old: h.h.Nodes[0], New: h.h.Nodes[0]}, api.ErrRoot},
	}
}

func TestAttestOfWhatMayNotBe(t *testing.T) {
	d := disk(t, 50)
	m, a := newModel(t, 40, 1), on(t, d, 40, 1)
	was := sectors(t, d)
	g, h, right, all := spoiltOnes(t)
	for _, x := range all {
		if e := m.asked(t, a, 0, x.parent, x.h, x.x); e != x.want {
			t.Errorf("%s: %d, want %d", x.what, e, x.want)
		}
		if e := m.asked(t, a, -1, x.parent, x.h, x.x); e != x.want { // ahead of ErrRange
			t.Errorf("%s: %d, want %d", x.what, e, x.want)
		}
	}
	if !slices.Equal(sectors(t, d), was) {
		t.Error("written")
	}
	for range 2 {
		m.asked(t, a, 0, g.h, h.h, right)
	}
	for _, x := range all { // ahead of ErrTwice and ErrSpent, too
		if e := m.asked(t, a, 0, x.parent, x.h, x.x); e != x.want {
			t.Errorf("%s: %d, want %d", x.what, e, x.want)
		}
	}
}

// Next's error is ahead of Check's.
func TestBothHeadersAreLookedAtFirst(t *testing.T) {
	a := on(t, disk(t, 50), 40, 1)
	_, _, _, all := spoiltOnes(t)
	for _, x := range all[:10] {
		for _, y := range all[10:] {
			if _, e := a.Attest(0, x.parent, x.h, y.x); e != x.want {
				t.Errorf("%s, %s: %d, want %d", x.what, y.what, e, x.want)
			}
		}
	}
}

// A header whose nodes no tree has may be attested, band by band, as far as its transitions go.
func TestOnlyTheBandIsLookedAt(t *testing.T) {
	g := genesis(t, 1)
	h, l := g.next(t, "value", "a", "d", "e", "f")
	other := h.h
	other.Nodes = slices.Clone(other.Nodes)
	other.Nodes[1] = "\x02" + noughts
	m, a := newModel(t, 40, 2), on(t, disk(t, 50), 40, 2)
	if e := m.asked(t, a, 0, g.h, other, l[0]); e != api.OK {
		t.Error(e)
	}
	if e := m.asked(t, a, 0, g.h, other, l[1]); e != api.ErrRoot {
		t.Error(e)
	}
	if e := m.asked(t, a, 0, g.h, h.h, l[1]); e != api.OK {
		t.Error(e)
	}
}

// Of an empty tree all nodes of all depths are the same: a transition of another depth is refused though.
func TestAttestOfAnotherDepth(t *testing.T) {
	tree := smt.New()
	for depth := range 5 {
		g := header.Header{Parent: noughts, Depth: depth, Auditors: 1, Nodes: nodesOf(t, tree, depth)}
		x, l := epoch{tree, g}.next(t, "")
		m, a := newModel(t, 40, 4), on(t, disk(t, 50), 40, 4)
		for other := range 5 {
			for b := range 1 << other {
				y := trans.Transition{Band: b, Depth: other, Old: smt.Empty, New: smt.Empty}
				want := api.OK
				if other != depth {
					want = api.ErrRoot
				}
				if e := m.asked(t, a, 0, g, x.h, y); e != want {
					t.Fatal(depth, other, b, e)
				}
			}
		}
		if len(m.booked) != len(l) {
			t.Error(depth, len(m.booked))
		}
	}
}

func TestAttestOfARival(t *testing.T) {
	d := disk(t, 50)
	m, a := newModel(t, 40, 2), on(t, d, 40, 2)
	g := genesis(t, 1)
	h, l := g.next(t, "value", "a", "d", "e", "f")
	rival, n := g.next(t, "another value", "a", "d", "e", "f")
	m.asked(t, a, 0, g.h, h.h, l[0])
	for range 2 {
		if e := m.asked(t, a, 0, g.h, rival.h, n[0]); e != api.ErrTwice {
			t.Error(e)
		}
		if e := m.asked(t, a, 64, g.h, rival.h, n[0]); e != api.ErrRange {
			t.Error(e)
		}
		a = on(t, d, 40, 2)
	}
	if e := m.asked(t, a, 0, g.h, rival.h, n[1]); e != api.OK { // of another band it marked none
		t.Error(e)
	}
	if e := m.asked(t, a, 0, g.h, h.h, l[1]); e != api.ErrTwice {
		t.Error(e)
	}
	later, k := h.next(t, "a later value", "a")
	if e := m.asked(t, a, 0, h.h, later.h, k[0]); e != api.OK {
		t.Error(e)
	}
	m.asked(t, a, 0, g.h, h.h, l[0])
	if a.Left() != 0 {
		t.Fatal(a.Left())
	}
	if e := m.asked(t, a, 0, g.h, rival.h, n[0]); e != api.ErrTwice { // ahead of ErrSpent
		t.Error(e)
	}
	if e := m.asked(t, a, 0, g.h, h.h, l[0]); e != api.ErrSpent {
		t.Error(e)
	}
}

// A spent auditor marks nothing; ErrSpent is ahead of ErrFull.
func TestAttestOfASpentOne(t *testing.T) {
	d := disk(t, 50)
	m, a := newModel(t, 40, 0), on(t, d, 40, 0)
	g := genesis(t, 1)
	h, l := g.next(t, "value", "a", "d", "e", "f")
	m.asked(t, a, 0, g.h, h.h, l[0])
	was := sectors(t, d)
	for range 3 {
		if e := m.asked(t, a, 0, g.h, h.h, l[1]); e != api.ErrSpent {
			t.Error(e)
		}
	}
	if !slices.Equal(sectors(t, d), was) {
		t.Error("written")
	}
	full, b := newModel(t, 16, 2), on(t, disk(t, 50), 16, 2)
	g = genesis(t, 3)
	h, l = g.next(t, "value", "a")
	for _, x := range l[:4] {
		full.asked(t, b, 0, g.h, h.h, x)
	}
	if e := full.asked(t, b, 0, g.h, h.h, l[4]); e != api.ErrSpent {
		t.Error(e)
	}
}

// A book without room takes no mark any more; what is marked is attested still.
func TestAttestWithAFullBook(t *testing.T) {
	d := disk(t, 50)
	m, a := newModel(t, 17, 4), on(t, d, 17, 4)
	g := genesis(t, 3)
	h, l := g.next(t, "value", "a", "d", "e", "f")
	for _, x := range l[:4] {
		if e := m.asked(t, a, 0, g.h, h.h, x); e != api.OK {
			t.Fatal(e)
		}
	}
	for range 2 {
		for b, x := range l {
			want := api.OK
			if b >= 4 {
				want = api.ErrFull
			}
			if e := m.asked(t, a, 0, g.h, h.h, x); e != want {
				t.Fatal(b, e)
			}
		}
		a = on(t, d, 17, 4)
	}
}

// A mark is put once, however often its header is attested: the book has no second one.
func TestAMarkIsPutOnce(t *testing.T) {
	d := disk(t, 50)
	m, a := newModel(t, 16, 4), on(t, d, 16, 4)
	g := genesis(t, 0)
	h, l := g.next(t, "value", "a")
	for range 16 {
		if e := m.asked(t, a, 0, g.h, h.h, l[0]); e != api.OK {
			t.Fatal(e)
		}
	}
	if b := bookOn(t, d, 16); len(b.Records()) != 1 {
		t.Error(len(b.Records()))
	}
}

// With what it marked ahead its last mark counts, whatever was ahead of that.
func TestTheLastMarkCounts(t *testing.T) {
	g := genesis(t, 0)
	h, l := g.next(t, "value", "a")
	rival, n := g.next(t, "another value", "a")
	marks := []string{record(1, 0, rival.h.Digest()), record(1, 0, h.h.Digest())}
	d := booked(t, nil, marks)
	m, a := newModel(t, 48, 2), on(t, d, 48, 2)
	m.booked = marks
	if e := m.asked(t, a, 0, g.h, rival.h, n[0]); e != api.ErrTwice {
		t.Error(e)
	}
	if e := m.asked(t, a, 0, g.h, h.h, l[0]); e != api.OK {
		t.Error(e)
	}
	if b := bookOn(t, d, 48); len(b.Records()) != 2 {
		t.Error(len(b.Records()))
	}
}

// Headers, rivals and spoilt ones, in any order, with auditors that begin anew between.
func TestAttestAsTheModelDoes(t *testing.T) {
	t.Parallel()
	r := rand.New(rand.NewSource(25))
	told := map[api.Errno]int{}
	for range 30 {
		count, height := 16+r.Intn(12), 2+r.Intn(3)
		d := disk(t, 50)
		m, a := newModel(t, count, height), on(t, d, count, height)
		x := genesis(t, r.Intn(3))
		for range 40 {
			h, l := x.next(t, []string{"value", "another value"}[r.Intn(2)], "a", "d", "e")
			b, number := r.Intn(len(l)), []int{0, 63, -1, r.Intn(70)}[r.Intn(4)]
			parent := x.h
			if r.Intn(8) == 0 {
				parent = h.h
			}
			if r.Intn(8) == 0 {
				l[b].New = noughts
			}
			if r.Intn(8) == 0 {
				l[b].Old, l[b].New, l[b].Steps = h.h.Nodes[b], h.h.Nodes[b], nil
			}
			told[m.asked(t, a, number, parent, h.h, l[b])]++
			if r.Intn(6) == 0 {
				a = on(t, d, count, height)
				m.is(t, a)
			}
			if r.Intn(5) == 0 && x.h.Epoch < 6 {
				x = h
			}
		}
	}
	for _, e := range []api.Errno{api.OK, api.ErrEpoch, api.ErrRoot, api.ErrRange, api.ErrTwice, api.ErrSpent, api.ErrFull} {
		if told[e] < 10 {
			t.Error("too little was tried:", told)
		}
	}
}

// P1, Rules: nothing handed in is changed or kept, and what is told is new.
func TestNothingIsSharedOrChanged(t *testing.T) {
	d := disk(t, 50)
	a := on(t, d, 40, 2)
	g := genesis(t, 1)
	h, l := g.next(t, "value", "a", "d", "e", "f")
	keep := func(x []string) []string { return append(slices.Clone(x), "behind")[:len(x)] }
	parent, next, x := g.h, h.h, l[0]
	parent.Nodes, next.Nodes = keep(parent.Nodes), keep(next.Nodes)
	x.Steps = append(slices.Clone(x.Steps), trans.Step{Change: trans.Change{Key: "behind"}})[:len(x.Steps)]
	for i := range x.Steps {
		x.Steps[i].Proof.Beside = keep(x.Steps[i].Proof.Beside)
	}
	y, e := a.Attest(3, parent, next, x)
	if e != api.OK {
		t.Fatal(e)
	}
	for _, s := range [][]string{parent.Nodes, next.Nodes, x.Steps[0].Proof.Beside} {
		if s[:len(s)+1][len(s)] != "behind" {
			t.Error("changed")
		}
	}
	if x.Steps[:len(x.Steps)+1][len(x.Steps)].Key != "behind" || !slices.Equal(parent.Nodes, g.h.Nodes) || !slices.Equal(next.Nodes, h.h.Nodes) || x.Check() != api.OK {
		t.Error("changed")
	}
	parent.Nodes[0], next.Nodes[0] = "spoilt", "spoilt"
	clear(y.Sig.Chains)
	clear(y.Sig.Path)
	m := newModel(t, 40, 2)
	m.next, m.booked = 1, []string{record(1, 0, h.h.Digest())}
	m.asked(t, a, 3, g.h, h.h, l[0])
}

// Without power, and behind it: each layer's error is told.
func TestAttestWithoutPower(t *testing.T) {
	d := disk(t, 50)
	m, a := newModel(t, 40, 2), on(t, d, 40, 2)
	g := genesis(t, 1)
	h, l := g.next(t, "value", "a", "d", "e", "f")
	rival, n := g.next(t, "another value", "a", "d", "e", "f")
	m.asked(t, a, 0, g.h, h.h, l[0])
	d.Cut()
	none := func(x trans.Transition, to header.Header, want api.Errno) {
		t.Helper()
		if y, e := a.Attest(0, g.h, to, x); e != want || !isZero(y) {
			t.Fatal(e, want)
		}
		m.is(t, a)
	}
	none(l[1], h.h, api.ErrPower)
	none(l[1], rival.h, api.ErrRoot)
	none(n[0], rival.h, api.ErrTwice)
	none(l[1], h.h, api.ErrState) // the book's
	d.Start()
	none(l[1], h.h, api.ErrState)
	m.asked(t, a, 0, g.h, h.h, l[0]) // the signer's book had no error
	d.Cut()
	none(l[0], h.h, api.ErrPower) // the signer's
	d.Start()
	none(l[0], h.h, api.ErrState)
	m.is(t, on(t, d, 40, 2))
}
