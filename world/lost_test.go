package world_test

import (
	"math/rand"
	"strconv"
	"testing"

	"plumbob/api"
	"plumbob/attest"
	"plumbob/bag"
	"plumbob/cover"
	"plumbob/octet"
	"plumbob/trans"
	"plumbob/world"
)

// P28.4

// step that does something, as its chance has it.
func someStep(r *rand.Rand) world.Step {
	x := world.Step{N: r.Intn(40) - 8, M: r.Intn(1200) - 100, Text: []string{"alice", "bob", "a", "carol@x.org", "Eve", ""}[r.Intn(6)]}
	x.Kind = []int{
		world.Update, world.Update, world.Publish, world.Publish, world.Deliver, world.Deliver, world.Deliver, world.Drop, world.Again, world.Turn, world.Poll, world.Restart, world.Round,
	}[r.Intn(13)]
	return x
}

// poisoned: is there an auditor that can't attest the last epoch any more?
func (m *model) poisoned() bool {
	h := m.headers[len(m.headers)-1]
	for at, digest := range m.marks {
		if at.epoch == h.Epoch && digest != h.Digest() {
			return true
		}
	}
	for _, n := range m.signed {
		if n == signatures {
			return true
		}
	}
	return false
}

// follows: behind Rounds enough each client has all epochs.
func (m *model) follows(t *testing.T) bool {
	t.Helper()
	for range 3 {
		m.done(t, world.Step{Kind: world.Round})
	}
	m.answers(t)
	all := true
	for _, n := range m.clients {
		all = all && n == len(m.headers)
	}
	if !all && !m.poisoned() {
		t.Fatal("not all epochs", m.clients, len(m.headers), m.signed)
	}
	return all
}

// Whatever is lost, comes late, twice or spoilt.
func TestRandomSteps(t *testing.T) {
	t.Parallel()
	follow, epochs, votes := 0, 0, 0
	for run := range 40 {
		r := rand.New(rand.NewSource(int64(run)))
		auditors := 1 + r.Intn(6)
		slots := 1 + r.Intn(auditors)
		m := newModel(t, auditors, 1+r.Intn(4), r.Intn(3), cover.Rules{Slots: slots, Needed: 1 + r.Intn(slots)})
		for range 80 {
			x := someStep(r)
			if x.Kind == world.Round && r.Intn(3) > 0 {
				continue
			}
			m.do(t, x)
		}
		if m.follows(t) {
			follow++
		}
		epochs += m.certified
		votes += len(m.votes)
	}
	t.Log(follow, epochs, votes)
	if follow < 15 || epochs < 60 || votes < 60 {
		t.Error("too little was tried:", follow, epochs, votes)
	}
}

// With all letters lost, or late, but one round in some.
func TestLost(t *testing.T) {
	t.Parallel()
	for run := range 8 {
		r := rand.New(rand.NewSource(int64(100 + run)))
		m := newModel(t, 6, 2, 1, cover.Rules{Slots: 2, Needed: 2})
		for i := range 3 {
			m.done(t, world.Step{Kind: world.Update, Text: "alice", N: i}, world.Step{Kind: world.Publish})
			for range 6 {
				switch r.Intn(3) {
				case 0:
					m.do(t, world.Step{Kind: world.Drop, N: r.Int()})
				case 1:
					m.do(t, world.Step{Kind: world.Deliver, N: r.Int()})
				default:
					// Of the header ahead alone: what is spoilt there is marked by none.
					m.do(t, world.Step{Kind: world.Turn, N: r.Int(), M: r.Intn(40)})
				}
			}
			if !m.follows(t) {
				t.Fatal(run, i, m.signed)
			}
		}
	}
}

// Each byte of a task, and of a vote, is spoilt: nothing counts that isn't right.
func TestSpoilt(t *testing.T) {
	t.Parallel()
	m := newModel(t, 1, 1, 0, cover.Rules{Slots: 1, Needed: 1})
	m.done(t, world.Step{Kind: world.Update, Text: "alice"}, world.Step{Kind: world.Publish})
	n := len(m.letters[0].Body)
	for at := 0; at < n; at += 3 {
		m.done(t, world.Step{Kind: world.Turn, M: at})
		if m.deliverOne(t) > 0 {
			t.Fatal("a spoilt task is attested", at)
		}
		m.done(t, world.Step{Kind: world.Round})
		if m.certified != len(m.headers)-1 {
			t.Fatal("it hurt", at, n)
		}
		if m.signed[0] == signatures {
			m = newModel(t, 1, 1, 0, cover.Rules{Slots: 1, Needed: 1})
			m.done(t, world.Step{Kind: world.Update, Text: "alice"})
		}
		m.done(t, world.Step{Kind: world.Publish})
	}
}

// deliverOne letter, the first one: how many letters there are behind it.
func (m *model) deliverOne(t *testing.T) int {
	t.Helper()
	m.done(t, world.Step{Kind: world.Deliver})
	return len(m.letters)
}

func TestSpoiltVote(t *testing.T) {
	t.Parallel()
	m := newModel(t, 1, 1, 0, cover.Rules{Slots: 1, Needed: 1})
	m.done(t, world.Step{Kind: world.Update, Text: "alice"}, world.Step{Kind: world.Publish}, world.Step{Kind: world.Deliver})
	n := len(m.letters[0].Body)
	for at := range n {
		m.done(t, world.Step{Kind: world.Again}, world.Step{Kind: world.Turn, N: 1, M: at}, world.Step{Kind: world.Deliver, N: 1})
		if m.certified != 0 || len(m.votes) != 0 || len(m.letters) != 1 {
			t.Fatal("a spoilt vote counts", at, n)
		}
	}
	m.done(t, world.Step{Kind: world.Deliver})
	if m.certified != 1 {
		t.Error("not certified")
	}
}

// More auditors are registered past the world: two epochs behind they are active, and their votes count.
func TestOtherAuditors(t *testing.T) {
	t.Parallel()
	m := newModel(t, 2, 2, 0, cover.Rules{Slots: 2, Needed: 2})
	strangers := 6
	for i := range strangers {
		if n, e := m.w.Server().Register(stranger(t, i)); n != 2+i || e != api.OK {
			t.Fatal(n, e)
		}
	}
	voted := map[int]int{}
	for epoch := 1; epoch <= 8; epoch++ {
		if e := m.w.Do(world.Step{Kind: world.Publish}); e != api.OK {
			t.Fatal(epoch, e)
		}
		for i := range strangers {
			for m.w.Bag().For(3+i) >= 0 {
				x, _ := m.w.Bag().Take(m.w.Bag().For(3 + i))
				m.w.Bag().Put(ballotOf(t, i, x, voted[i]))
				voted[i]++
			}
		}
		if e := m.w.Do(world.Step{Kind: world.Round}); e != api.OK {
			t.Fatal(epoch, e)
		}
		h := m.w.Server().Headers()
		if m.w.Certified() != epoch || len(m.w.Client(1).Headers()) != epoch+1 || h[epoch].Auditors != 2+strangers {
			t.Fatal(epoch, m.w.Certified(), h[epoch].Auditors)
		}
		if epoch < 3 && len(voted) > 0 {
			t.Error("active too early")
		}
	}
	if len(voted) < 2 {
		t.Error("too little was tried:", voted)
	}
}

// ballotOf a stranger, for a task.
func ballotOf(t *testing.T, i int, x bag.Letter, index int) bag.Letter {
	t.Helper()
	_, h, tr, ok := asked(x.Body)
	if !ok || x.From != 0 || x.Kind != task {
		t.Fatal("no task", i)
	}
	a := attest.Attestation{Epoch: h.Epoch, Band: tr.Band, Header: h.Digest(), Number: 2 + i}
	sig, e := strangersKey(t, i).Sign(index, a.Message())
	if e != api.OK {
		t.Fatal(i, index, e)
	}
	a.Sig = sig
	b, e := a.Encode()
	if e != api.OK {
		t.Fatal(e)
	}
	return bag.Letter{To: 0, From: x.To, Kind: vote, Body: b}
}

// A client that has what isn't certified for the world yet, or all of it, is polled for the rest alone.
func TestPollOfOneAhead(t *testing.T) {
	t.Parallel()
	m := newModel(t, 1, 2, 0, cover.Rules{Slots: 1, Needed: 1})
	m.done(t, world.Step{Kind: world.Publish}, world.Step{Kind: world.Deliver})
	x, _ := m.w.Bag().Take(0)
	m.w.Bag().Put(x)
	a, e := attest.Decode(x.Body)
	who, p, f := m.w.Server().Member(0, 0)
	if e != api.OK || f != api.OK {
		t.Fatal(e, f)
	}
	c := cover.Certificate{Header: m.headers[1], Votes: []cover.Vote{{Attestation: a, Auditor: who, Proof: p}}}
	if e := m.w.Client(0).Accept(c); e != api.OK {
		t.Fatal(e)
	}
	m.clients[0] = 2
	for range 2 {
		if e := m.w.Do(world.Step{Kind: world.Poll}); e != api.OK {
			t.Fatal(e)
		}
		m.is(t)
	}
	m.done(t, world.Step{Kind: world.Round}, world.Step{Kind: world.Poll, N: 0}, world.Step{Kind: world.Poll, N: 1})
}

// A transition of more bytes than a Text has goes on in the next Text.
func TestLongTransition(t *testing.T) {
	t.Parallel()
	most := 0
	for _, n := range []int{5, 15, 27, 31, 60} {
		w, e := world.New(2, 1, 0, cover.Rules{Slots: 2, Needed: 2})
		if e != api.OK {
			t.Fatal(e)
		}
		for i := range n {
			if _, e := w.Server().Register(stranger(t, i)); e != api.OK {
				t.Fatal(i, e)
			}
		}
		for i := range 20 {
			if e := w.Do(world.Step{Kind: world.Update, Text: "a" + strconv.Itoa(i)}); e != api.OK {
				t.Fatal(i, e)
			}
		}
		if e := w.Do(world.Step{Kind: world.Publish}); e != api.OK {
			t.Fatal(e)
		}
		x, _ := w.Bag().Take(0)
		w.Bag().Put(x)
		most = max(most, transitionsTexts(t, w, x.Body, n+20))
		if e := w.Do(world.Step{Kind: world.Round}); e != api.OK || w.Certified() != 1 || len(w.Client(0).Headers()) != 2 {
			t.Error(n, e, w.Certified())
		}
	}
	if most < 3 {
		t.Error("too little was tried:", most)
	}
}

// transitionsTexts: how many there are. All but the last one are as long as a Text may be.
func transitionsTexts(t *testing.T, w *world.World, body string, steps int) int {
	t.Helper()
	r := octet.Read(body)
	for i, h := range w.Server().Headers() {
		if s, _ := h.Encode(); r.Text() != s {
			t.Fatal("another header", i)
		}
	}
	all, texts := "", 0
	for r.Left() > 0 {
		s := r.Text()
		if len(all) != texts*api.MaxText || s == "" {
			t.Fatal("a short Text ahead", texts)
		}
		all += s
		texts++
	}
	x, e := trans.Decode(all)
	if r.End() != api.OK || e != api.OK || x.Check() != api.OK || len(x.Steps) != steps {
		t.Fatal(e, len(x.Steps))
	}
	return texts
}
