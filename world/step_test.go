package world_test

import (
	"math"
	"slices"
	"strings"
	"testing"

	"plumbob/api"
	"plumbob/bag"
	"plumbob/cover"
	"plumbob/entry"
	"plumbob/policy"
	"plumbob/world"
	"plumbob/xmss"
)

var numbers = []int{0, 1, 2, 3, 5, 63, 64, 65, -1, -2, -63, -64, -65, 1 << 40, -(1 << 40), math.MaxInt, math.MinInt, math.MaxInt - 1, math.MinInt + 1}

// P28.2

func TestKinds(t *testing.T) {
	for i, k := range []int{world.Update, world.Publish, world.Deliver, world.Drop, world.Again, world.Turn, world.Poll, world.Restart, world.Round} {
		if k != i+1 {
			t.Error(i, k)
		}
	}
}

func TestExample(t *testing.T) {
	t.Parallel()
	m := newModel(t, 3, 4, 1, cover.Rules{Slots: 2, Needed: 2})
	m.done(t, world.Step{Kind: world.Update, Text: "alice"}, world.Step{Kind: world.Publish}, world.Step{Kind: world.Round})
	if m.w.Certified() != 1 {
		t.Error(m.w.Certified())
	}
	for i := range 4 {
		if len(m.w.Client(i).Headers()) != 2 {
			t.Error(i)
		}
	}
	m.answers(t)
}

// The key of each N, modulo 64, and each one's entry signed by the one ahead.
func TestUpdate(t *testing.T) {
	t.Parallel()
	m := newModel(t, 1, 1, 0, cover.Rules{Slots: 1, Needed: 1})
	var l []entry.Entry
	for _, n := range []int{1, 0, -1, 64, 127, math.MinInt, math.MaxInt, 63, 63, 10} {
		m.epoch(t, "alice", n)
		a, e := m.w.Server().Lookup("alice")
		if e != api.OK || len(a.History) != len(l)+1 || entry.History(a.History...) != api.OK {
			t.Fatal(n, len(a.History), e)
		}
		l = append(l, a.History[len(l)])
		if want := ownerKey(t, "alice", modulo(n, 64)).Public(); l[len(l)-1].Key != want || want.Height != 0 {
			t.Fatal("another key", n)
		}
		m.answers(t)
	}
	if k, e := xmss.New("owneralice63", 0); e != api.OK || l[2].Key != k.Public() || l[7].Key != k.Public() {
		t.Error("another seed", e)
	}
	if k, e := xmss.New("owneralice0", 0); e != api.OK || l[1].Key != k.Public() || l[3].Key != k.Public() || l[5].Key != k.Public() {
		t.Error("another seed", e)
	}
}

func TestUpdateOfWrongLabels(t *testing.T) {
	t.Parallel()
	m := newModel(t, 1, 1, 0, cover.Rules{Slots: 1, Needed: 1})
	for name, want := range map[string]api.Errno{
		"":                              api.ErrRune,
		"Alice":                         api.ErrForm,
		"a b":                           api.ErrRune,
		"\xff":                          api.ErrForm,
		"-a":                            api.ErrRune,
		strings.Repeat("a", 65):         api.ErrLong,
		strings.Repeat("a", 100000):     api.ErrLong,
		strings.Repeat("a", 64):         api.OK,
		strings.Repeat("я", 64):         api.OK,
		"alice@example.org":             api.OK,
		strings.Repeat("\u03b1", 63):    api.OK,
		"a" + strings.Repeat(".b-c", 9): api.OK,
	} {
		for _, n := range []int{1, 1 << 40} {
			if e := m.do(t, world.Step{Kind: world.Update, Text: name, N: n}); e != want {
				t.Errorf("%q: %d, want %d", name, e, want)
			}
			if want == api.OK {
				want = api.ErrVersion
			}
		}
	}
	m.done(t, world.Step{Kind: world.Publish}, world.Step{Kind: world.Round})
	m.answers(t)
}

// A second one ahead of a Publish: it is as if it weren't asked for.
func TestSecondUpdate(t *testing.T) {
	t.Parallel()
	m := newModel(t, 2, 1, 1, cover.Rules{Slots: 1, Needed: 1})
	for n := range 3 {
		m.done(t, world.Step{Kind: world.Update, Text: "alice", N: n}, world.Step{Kind: world.Update, Text: "bob", N: n})
		for _, other := range []int{n, n + 1, 40} {
			if e := m.do(t, world.Step{Kind: world.Update, Text: "alice", N: other}); e != api.ErrVersion {
				t.Fatal(n, other, e)
			}
		}
		m.done(t, world.Step{Kind: world.Publish})
		if n == 1 { // what is published counts, certified or not
			m.done(t, world.Step{Kind: world.Update, Text: "alice", N: 9})
		}
		m.done(t, world.Step{Kind: world.Round})
		if n == 1 {
			m.done(t, world.Step{Kind: world.Publish}, world.Step{Kind: world.Round})
		}
		m.answers(t)
	}
}

// Two labels and numbers may have one key's seed.
func TestUpdateOfOneSeed(t *testing.T) {
	t.Parallel()
	m := newModel(t, 1, 1, 0, cover.Rules{Slots: 1, Needed: 1})
	m.done(t, world.Step{Kind: world.Update, Text: "alice", N: 11}, world.Step{Kind: world.Update, Text: "alice1", N: 1})
	m.done(t, world.Step{Kind: world.Publish}, world.Step{Kind: world.Round})
	m.done(t, world.Step{Kind: world.Update, Text: "alice1", N: 3}, world.Step{Kind: world.Update, Text: "alice", N: 4})
	m.done(t, world.Step{Kind: world.Publish}, world.Step{Kind: world.Round})
	m.answers(t)
	if m.histories["alice"][0].Key != m.histories["alice1"][0].Key || len(m.histories["alice1"]) != 2 {
		t.Error("too little was tried")
	}
}

// An entry by a key that isn't the world's: who doesn't have it can't sign the next one.
func TestUpdateBehindAStranger(t *testing.T) {
	t.Parallel()
	for _, known := range []bool{false, true} {
		m := newModel(t, 1, 1, 0, cover.Rules{Slots: 1, Needed: 1})
		x, k := entry.Entry{Version: 1, Prev: noughts}, strangersKey(t, 1)
		signing := k
		if known {
			m.epoch(t, "alice", 5)
			x.Version, x.Prev, signing = 2, m.histories["alice"][0].Value(), ownerKey(t, "alice", 5)
		}
		x.Key = k.Public()
		u, e := policy.Sign(signing, 0, "alice", x)
		if e != api.OK || m.w.Server().Submit(u) != api.OK {
			t.Fatal(e)
		}
		m.waiting = append(m.waiting, submitted{label: "alice", x: x})
		m.done(t, world.Step{Kind: world.Publish}, world.Step{Kind: world.Round})
		for n := range 3 {
			if e := m.w.Do(world.Step{Kind: world.Update, Text: "alice", N: n * 5}); e != api.ErrSig {
				t.Fatal(known, n, e)
			}
		}
		m.is(t)
	}
}

// The tasks of each band go to each auditor of its window.
func TestPublish(t *testing.T) {
	t.Parallel()
	for _, x := range []struct{ auditors, depth, slots int }{{1, 0, 1}, {6, 0, 6}, {6, 2, 3}, {4, 4, 2}, {6, 4, 6}} {
		m := newModel(t, x.auditors, 1, x.depth, cover.Rules{Slots: x.slots, Needed: 1})
		m.done(t, world.Step{Kind: world.Update, Text: "alice"}, world.Step{Kind: world.Update, Text: "bob"}, world.Step{Kind: world.Publish})
		if len(m.letters) != x.slots<<x.depth {
			t.Error(x, len(m.letters))
		}
		for range 2 {
			if e := m.do(t, world.Step{Kind: world.Publish}); e != api.ErrState {
				t.Error(x, e)
			}
		}
		if m.w.Bag().For(0) != -1 || m.w.Bag().For(x.auditors+1) != -1 {
			t.Error("a letter to another node")
		}
	}
}

// A Publish is ErrState until the last one's epoch is certified: one vote less doesn't do.
func TestPublishOfOneAfterTheOther(t *testing.T) {
	t.Parallel()
	for _, needed := range []int{1, 2, 3} {
		m := newModel(t, 3, 2, 1, cover.Rules{Slots: 3, Needed: needed})
		for range 2 {
			m.done(t, world.Step{Kind: world.Publish})
			for m.certified < len(m.headers)-1 {
				if e := m.do(t, world.Step{Kind: world.Publish}); e != api.ErrState {
					t.Fatal(e)
				}
				m.done(t, world.Step{Kind: world.Deliver})
			}
		}
		m.done(t, world.Step{Kind: world.Publish})
	}
}

// An epoch that another one published has no tasks: it isn't certified.
func TestPublishPastTheWorld(t *testing.T) {
	t.Parallel()
	m := newModel(t, 2, 1, 0, cover.Rules{Slots: 1, Needed: 1})
	m.epoch(t, "alice", 1)
	if _, _, e := m.w.Server().Publish(); e != api.OK {
		t.Fatal(e)
	}
	for _, k := range []int{world.Publish, world.Round, world.Publish} {
		want := api.OK
		if k == world.Publish {
			want = api.ErrState
		}
		if e := m.w.Do(world.Step{Kind: k}); e != want || m.w.Bag().Len() != 0 || m.w.Certified() != 1 || len(m.w.Client(0).Headers()) != 2 {
			t.Error(k, e)
		}
	}
}

// A task or a vote comes to its node, in whatever order.
func TestDeliver(t *testing.T) {
	t.Parallel()
	for _, n := range numbers {
		m := newModel(t, 3, 1, 1, cover.Rules{Slots: 3, Needed: 3})
		m.done(t, world.Step{Kind: world.Update, Text: "alice"}, world.Step{Kind: world.Publish})
		for range 12 {
			m.done(t, world.Step{Kind: world.Deliver, N: n})
		}
		if m.certified != 1 || len(m.letters) != 0 {
			t.Error(n, m.certified, len(m.letters))
		}
		if len(m.w.Client(0).Headers()) != 1 {
			t.Error("a client has it without a Poll")
		}
	}
}

// Late, or twice: a letter that comes again is attested again, and its vote counts but once.
func TestDeliverAgain(t *testing.T) {
	t.Parallel()
	m := newModel(t, 2, 1, 0, cover.Rules{Slots: 2, Needed: 2})
	m.done(t, world.Step{Kind: world.Publish}, world.Step{Kind: world.Again, N: 0}, world.Step{Kind: world.Again, N: 0})
	m.done(t, world.Step{Kind: world.Drop, N: 1}, world.Step{Kind: world.Deliver}, world.Step{Kind: world.Deliver}, world.Step{Kind: world.Deliver})
	m.done(t, world.Step{Kind: world.Again, N: 1})
	for len(m.letters) > 0 {
		m.done(t, world.Step{Kind: world.Deliver})
	}
	if m.certified != 0 || len(m.votes) != 1 {
		t.Error(m.certified, len(m.votes))
	}
	m.done(t, world.Step{Kind: world.Round})
	if m.certified != 1 {
		t.Error("not certified")
	}
}

// A vote of an epoch that is certified, or of an earlier one, is none any more.
func TestDeliverLate(t *testing.T) {
	t.Parallel()
	m := newModel(t, 3, 1, 0, cover.Rules{Slots: 3, Needed: 1})
	m.done(t, world.Step{Kind: world.Publish})
	for range 4 { // three tasks, and the first one's vote
		m.done(t, world.Step{Kind: world.Deliver})
	}
	if m.certified != 1 || len(m.letters) != 2 {
		t.Fatal(m.certified, len(m.letters))
	}
	m.done(t, world.Step{Kind: world.Deliver}, world.Step{Kind: world.Update, Text: "alice"}, world.Step{Kind: world.Publish}, world.Step{Kind: world.Deliver})
	if m.certified != 1 || len(m.votes) != 0 {
		t.Error("a late vote counts")
	}
	m.done(t, world.Step{Kind: world.Round})
}

// Of the letters that others put into the bag none hurts.
func TestDeliverStrangeLetters(t *testing.T) {
	t.Parallel()
	m := newModel(t, 2, 2, 0, cover.Rules{Slots: 1, Needed: 1})
	m.done(t, world.Step{Kind: world.Update, Text: "alice"}, world.Step{Kind: world.Publish})
	right := *m.letters[0]
	m.done(t, world.Step{Kind: world.Deliver})
	ballot := *m.letters[0]
	m.done(t, world.Step{Kind: world.Drop})
	for _, to := range append(numbers, 4, 6, 7) {
		for _, kind := range []int{0, 1, 2, 3, -1, math.MinInt, math.MaxInt} {
			for _, body := range []string{"", "a", right.Body, ballot.Body, right.Body + "a", right.Body + "\x00\x00", right.Body[:len(right.Body)-1], ballot.Body + "a", strings.Repeat("a", 70000)} {
				if to == 0 && kind == vote && body == ballot.Body || m.signed[max(0, min(to-1, 1))] > 10 {
					continue
				}
				x := bag.Letter{To: to, From: 1, Kind: kind, Body: body}
				m.put(letter{Letter: x})
				m.w.Bag().Put(x)
				m.done(t, world.Step{Kind: world.Deliver})
				for len(m.letters) > 0 {
					m.done(t, world.Step{Kind: world.Drop})
				}
			}
		}
	}
	if len(m.votes) != 0 || m.certified != 0 || slices.Max(m.signed) < 2 {
		t.Error("a strange letter counts", m.signed)
	}
	m.done(t, world.Step{Kind: world.Round})
	m.answers(t)
	if m.certified != 1 {
		t.Error("it hurt")
	}
}

// A task that comes to another auditor than the window's: its vote is wrong, as is one that has the slot in another name.
func TestDeliverToAnotherAuditor(t *testing.T) {
	t.Parallel()
	m := newModel(t, 6, 1, 0, cover.Rules{Slots: 1, Needed: 1})
	m.done(t, world.Step{Kind: world.Publish})
	right := m.letters[0].Letter
	for to := range 8 {
		if to == right.To {
			continue
		}
		x := right
		x.To = to
		m.put(letter{Letter: x})
		m.w.Bag().Put(x)
	}
	m.done(t, world.Step{Kind: world.Drop})
	for len(m.letters) > 0 {
		m.done(t, world.Step{Kind: world.Deliver})
	}
	if len(m.votes) != 0 || m.certified != 0 || slices.Max(m.signed) != 1 {
		t.Error(len(m.votes), m.signed)
	}
}

func TestDropAgainTurn(t *testing.T) {
	t.Parallel()
	for _, n := range numbers {
		m := newModel(t, 3, 1, 1, cover.Rules{Slots: 2, Needed: 2})
		m.done(t, world.Step{Kind: world.Publish})
		for _, at := range numbers {
			m.done(t, world.Step{Kind: world.Again, N: n}, world.Step{Kind: world.Turn, N: n, M: at}, world.Step{Kind: world.Turn, N: at, M: n})
			m.done(t, world.Step{Kind: world.Drop, N: n})
		}
		for len(m.letters) > 0 {
			m.done(t, world.Step{Kind: world.Drop, N: n})
		}
	}
}

// A bag without room, or a body without bytes, is no error.
func TestAgainWithoutRoom(t *testing.T) {
	t.Parallel()
	m := newModel(t, 1, 1, 0, cover.Rules{Slots: 1, Needed: 1})
	m.w.Bag().Put(bag.Letter{To: 9})
	m.put(letter{Letter: bag.Letter{To: 9}})
	m.done(t, world.Step{Kind: world.Turn}, world.Step{Kind: world.Turn, N: 5, M: -5})
	for range 258 {
		m.done(t, world.Step{Kind: world.Again})
	}
	if m.w.Bag().Len() != room {
		t.Error(m.w.Bag().Len())
	}
	m.done(t, world.Step{Kind: world.Publish}) // whose task is lost
	if m.w.Bag().For(1) != -1 {
		t.Error("a letter too many")
	}
	m.done(t, world.Step{Kind: world.Round}, world.Step{Kind: world.Round})
	if m.certified != 1 {
		t.Error("not certified")
	}
}

func TestPoll(t *testing.T) {
	t.Parallel()
	for _, n := range numbers {
		m := newModel(t, 2, 3, 0, cover.Rules{Slots: 1, Needed: 1})
		m.done(t, world.Step{Kind: world.Poll, N: n})
		for i := range 4 {
			m.done(t, world.Step{Kind: world.Update, Text: "alice", N: i}, world.Step{Kind: world.Publish})
			m.done(t, world.Step{Kind: world.Poll, N: n}) // it isn't certified yet
			m.done(t, world.Step{Kind: world.Deliver}, world.Step{Kind: world.Deliver})
			if i != 1 {
				m.done(t, world.Step{Kind: world.Poll, N: n}, world.Step{Kind: world.Poll, N: n})
			}
		}
		m.answers(t)
		if m.certified != 4 || m.clients[modulo(n, 3)] != 5 {
			t.Error(n, m.certified, m.clients)
		}
	}
}

// What an auditor marked, and which index is its next one, it has from its disk.
func TestRestart(t *testing.T) {
	t.Parallel()
	for _, n := range numbers {
		m := newModel(t, 3, 1, 1, cover.Rules{Slots: 3, Needed: 3})
		m.done(t, world.Step{Kind: world.Restart, N: n}, world.Step{Kind: world.Publish}, world.Step{Kind: world.Again, N: 0})
		for range 6 {
			m.done(t, world.Step{Kind: world.Deliver, N: 0}, world.Step{Kind: world.Restart, N: n})
		}
		m.done(t, world.Step{Kind: world.Deliver, N: 0}, world.Step{Kind: world.Restart, N: n}, world.Step{Kind: world.Round})
		if m.certified != 1 {
			t.Error(m.certified, m.signed)
		}
	}
}

// The header of a task is turned in the other band's node: who attested the right one doesn't attest that, however often it began anew.
func TestRestartHasMarks(t *testing.T) {
	t.Parallel()
	for _, wrongFirst := range []bool{false, true} {
		m := newModel(t, 1, 1, 1, cover.Rules{Slots: 1, Needed: 1})
		for _, name := range []string{"alice", "bob", "carol", "dave", "eve"} {
			m.done(t, world.Step{Kind: world.Update, Text: name})
		}
		m.done(t, world.Step{Kind: world.Publish})
		last := len(m.headers) - 1
		if len(m.headers[last].Nodes[1]) != 17 {
			t.Fatal("an empty band")
		}
		parent, _ := m.headers[last-1].Encode()
		h, _ := m.headers[last].Encode()
		node := 2 + len(parent) + 2 + len(h) - 1 // of the last band
		m.done(t, world.Step{Kind: world.Again, N: 0}, world.Step{Kind: world.Turn, N: 2, M: node})
		first, second := 0, 1
		if wrongFirst {
			first, second = 2, 0
		}
		m.done(t, world.Step{Kind: world.Deliver, N: first}, world.Step{Kind: world.Restart}, world.Step{Kind: world.Deliver, N: second})
		if len(m.letters) != 2 || m.signed[0] != 1 || m.letters[1].Kind != vote || m.letters[1].says.Band != 0 {
			t.Fatal(wrongFirst, len(m.letters), m.signed)
		}
		m.done(t, world.Step{Kind: world.Round}, world.Step{Kind: world.Round})
		if (m.certified == 1) == wrongFirst {
			t.Error(wrongFirst, m.certified)
		}
	}
}

// Each task is sent again to whom there is no vote of: to no other one.
func TestRound(t *testing.T) {
	t.Parallel()
	m := newModel(t, 4, 2, 1, cover.Rules{Slots: 3, Needed: 3})
	m.done(t, world.Step{Kind: world.Round}) // nothing is there
	m.done(t, world.Step{Kind: world.Publish})
	for range 3 {
		m.done(t, world.Step{Kind: world.Deliver, N: 1}, world.Step{Kind: world.Deliver, N: -1})
	}
	for len(m.letters) > 0 {
		m.done(t, world.Step{Kind: world.Drop})
	}
	signed := slices.Clone(m.signed)
	m.done(t, world.Step{Kind: world.Round})
	all := 0
	for i, n := range m.signed {
		all += n - signed[i]
	}
	if m.certified != 1 || all != 3 {
		t.Error(m.certified, all)
	}
	m.done(t, world.Step{Kind: world.Round}) // all are certified
	if m.w.Bag().Len() != 0 {
		t.Error("letters of a certified epoch")
	}
}

// Of an epoch that is certified nothing is sent again, though votes of it are missing.
func TestRoundOfACertifiedEpoch(t *testing.T) {
	t.Parallel()
	m := newModel(t, 3, 1, 0, cover.Rules{Slots: 3, Needed: 2})
	for range 3 {
		m.done(t, world.Step{Kind: world.Publish}, world.Step{Kind: world.Drop, N: 1})
		m.deliverAll(t)
		if len(m.votes) != 2 || m.certified != len(m.headers)-1 {
			t.Fatal(len(m.votes), m.certified)
		}
		m.done(t, world.Step{Kind: world.Round}, world.Step{Kind: world.Round})
	}
}

// A round delivers 300 letters: those that are there, and those that come.
func TestRoundIsBounded(t *testing.T) {
	t.Parallel()
	m := newModel(t, 6, 2, 4, cover.Rules{Slots: 6, Needed: 6})
	for range 150 {
		m.w.Bag().Put(bag.Letter{To: 50, Body: "a"})
		m.put(letter{Letter: bag.Letter{To: 50, Body: "a"}})
	}
	m.done(t, world.Step{Kind: world.Publish})
	if len(m.letters) != 246 {
		t.Fatal(len(m.letters))
	}
	m.done(t, world.Step{Kind: world.Round}) // 10 more tasks, and 96 votes: 352 in all
	if len(m.letters) != 52 || m.certified != 0 || m.clients[0] != 1 {
		t.Fatal(len(m.letters), m.certified)
	}
	m.done(t, world.Step{Kind: world.Round})
	if len(m.letters) != 0 || m.certified != 1 || m.clients[1] != 2 {
		t.Error(len(m.letters), m.certified)
	}
}

// Clients poll behind the letters, also where nothing was to be sent.
func TestRoundPolls(t *testing.T) {
	t.Parallel()
	m := newModel(t, 1, 3, 0, cover.Rules{Slots: 1, Needed: 1})
	for range 3 {
		m.done(t, world.Step{Kind: world.Publish}, world.Step{Kind: world.Deliver}, world.Step{Kind: world.Deliver})
	}
	m.done(t, world.Step{Kind: world.Poll, N: 1}, world.Step{Kind: world.Round})
	if slices.Min(m.clients) != 4 {
		t.Error(m.clients)
	}
}

// An auditor's key has 16 signatures: behind them an epoch waits for the others.
func TestSpent(t *testing.T) {
	t.Parallel()
	m := newModel(t, 2, 1, 3, cover.Rules{Slots: 2, Needed: 2})
	for i := range 2 {
		m.epoch(t, "alice", i)
	}
	if m.certified != 2 || m.signed[0] != signatures || m.signed[1] != signatures {
		t.Error(m.certified, m.signed)
	}
	m.done(t, world.Step{Kind: world.Publish}, world.Step{Kind: world.Restart}, world.Step{Kind: world.Round})
	m.deliverAll(t)
	if m.certified != 2 || m.w.Certified() != 2 || m.do(t, world.Step{Kind: world.Publish}) != api.ErrState {
		t.Error("certified by spent keys", m.certified)
	}
}

// P28.3

func TestWrongSteps(t *testing.T) {
	t.Parallel()
	var none *world.World
	m := newModel(t, 2, 1, 0, cover.Rules{Slots: 1, Needed: 1})
	for _, k := range []int{0, 10, 11, -1, 256 + 1, 1<<32 + 1, math.MaxInt, math.MinInt} {
		if e := m.do(t, world.Step{Kind: k, Text: "alice", N: 1}); e != api.ErrArg {
			t.Error(k, e)
		}
		if e := none.Do(world.Step{Kind: k}); e != api.ErrArg {
			t.Error(k, e)
		}
	}
	for k := 1; k <= 9; k++ {
		if e := none.Do(world.Step{Kind: k, Text: "alice"}); e != api.ErrArg {
			t.Error(k, e)
		}
	}
	for _, k := range []int{world.Deliver, world.Drop, world.Again, world.Turn} {
		for _, n := range numbers {
			if e := m.do(t, world.Step{Kind: k, N: n, M: n}); e != api.ErrNone {
				t.Error(k, n, e)
			}
		}
	}
	for _, k := range []int{world.Poll, world.Restart, world.Round} {
		for _, n := range numbers {
			m.done(t, world.Step{Kind: k, N: n, M: n, Text: "Alice"})
		}
	}
}
