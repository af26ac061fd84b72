package server_test

import (
	"math/rand"
	"slices"
	"strconv"
	"testing"

	"plumbob/api"
	"plumbob/entry"
	"plumbob/logbook"
	"plumbob/policy"
	"plumbob/roster"
	"plumbob/sector"
	"plumbob/server"
	"plumbob/trans"
)

// P24.3

func TestPublish(t *testing.T) {
	for depth := range 5 {
		d := disk(t, 400)
		s := opened(t, d, depth, auditors(3)...)
		m := newModel(t, depth, auditors(3)...)
		m.published(t, s) // nothing waits
		for i := range 4 {
			m.submits(t, s, update(t, "a"+strconv.Itoa(i), 1))
		}
		m.registers(t, s, auditor(5))
		m.published(t, s)
		m.registers(t, s, auditor(6))
		m.submits(t, s, update(t, "a1", 2))
		m.published(t, s)
		m.published(t, s)
		m.wrote(t, d, 0, 400)
		m.is(t, opened(t, d, depth, auditors(3)...))
	}
}

// Of a label that has two entries more, both are steps, in order.
func TestPublishOfTwoEntriesOfOneLabel(t *testing.T) {
	s := opened(t, disk(t, 200), 0)
	var want []trans.Change
	for _, u := range []policy.Update{update(t, "alice", 1), update(t, "bob", 1), update(t, "alice", 2), update(t, "alice", 3)} {
		if e := s.Submit(u); e != api.OK {
			t.Fatal(u.Label, u.Entry.Version, e)
		}
		want = append(want, trans.Change{Key: entry.Name(u.Label), Value: u.Entry.Value()})
	}
	h, x, e := s.Publish()
	if e != api.OK || len(x) != 1 || len(x[0].Steps) != 4 || x[0].Check() != api.OK || x[0].New != h.Root() {
		t.Fatal(e)
	}
	for i, step := range x[0].Steps {
		if step.Change != want[i] {
			t.Error(i)
		}
	}
	a, _ := s.Lookup("alice")
	if len(a.History) != 3 || entry.History(a.History...) != api.OK || !a.Proof.Has(h.Root(), entry.Name("alice"), a.History[2].Value(), 0) {
		t.Error(len(a.History))
	}
}

// The example: the header's Auditors are one more.
func TestPublishOfAnAuditor(t *testing.T) {
	s := opened(t, disk(t, 50), 1, auditors(4)...)
	if n, e := s.Register(auditor(9)); n != 4 || e != api.OK {
		t.Fatal(n, e)
	}
	if s.Headers()[0].Auditors != 4 {
		t.Error("early")
	}
	if h, _, e := s.Publish(); h.Auditors != 5 || h.Epoch != 1 || e != api.OK {
		t.Error(h.Auditors, e)
	}
}

// unpublished: it isn't done, and nothing is changed by it.
func (m *model) unpublished(t *testing.T, s *server.Server, want api.Errno) {
	t.Helper()
	if h, l, e := s.Publish(); h.Epoch != 0 || h.Parent != "" || h.Depth != 0 || h.Auditors != 0 || len(h.Nodes) != 0 || len(l) != 0 || e != want {
		t.Fatalf("epoch %d, %d transitions, %d, want %d", h.Epoch, len(l), e, want)
	}
	m.is(t, s)
}

// Four sectors: as many records of one part as fit are published, one more isn't, and nothing of it is written.
func TestPublishWhereTheBookIsFull(t *testing.T) {
	for _, count := range []int{8, 9, 10, 11} {
		for things := range 6 {
			d := disk(t, 12)
			s, e := server.New(d, 0, count, 1)
			if e != api.OK {
				t.Fatal(e)
			}
			m := newModel(t, 1)
			for i := range things {
				m.registers(t, s, auditor(i))
			}
			before := sectors(t, d)
			if things+1 <= count/2 {
				m.published(t, s)
				m.wrote(t, d, 0, count)
				continue
			}
			m.unpublished(t, s, api.ErrFull)
			m.unpublished(t, s, api.ErrFull) // and not ErrState
			if !slices.Equal(sectors(t, d), before) {
				t.Error("written")
			}
		}
	}
}

// Records of many parts: what is left is counted in sectors.
func TestPublishWhereTheBookIsFullOfParts(t *testing.T) {
	one := thing{u: update(t, "alice", 1)}
	parts := logbook.Parts(len(one.record()))
	for _, spare := range []int{-1, 0, 1} {
		d := disk(t, 100)
		s, e := server.New(d, 0, 2*(2*parts+2+spare), 2)
		if e != api.OK {
			t.Fatal(e)
		}
		m := newModel(t, 2)
		m.submits(t, s, one.u)
		m.published(t, s)
		m.submits(t, s, update(t, "bobby", 1))
		if spare < 0 {
			m.unpublished(t, s, api.ErrFull)
			continue
		}
		m.published(t, s)
		for range spare {
			m.published(t, s)
		}
		m.unpublished(t, s, api.ErrFull)
	}
}

func TestPublishTillTheBookIsFull(t *testing.T) {
	d := disk(t, 60)
	s := opened(t, d, 4, auditors(2)...)
	m := newModel(t, 4, auditors(2)...)
	for range 30 {
		m.published(t, s)
	}
	m.unpublished(t, s, api.ErrFull)
	m.registers(t, s, auditor(5))
	m.unpublished(t, s, api.ErrFull)
	m.waiting = nil
	s = opened(t, d, 4, auditors(2)...)
	m.is(t, s)
	m.unpublished(t, s, api.ErrFull)
}

// Behind an error of layer 9's nothing more is published; all else goes on.
func TestPublishBehindAnError(t *testing.T) {
	for fuse := range 4 {
		d := disk(t, 40)
		s := opened(t, d, 1, auditors(2)...)
		m := newModel(t, 1, auditors(2)...)
		m.registers(t, s, auditor(5))
		d.Fuse(fuse)
		m.unpublished(t, s, api.ErrPower)
		m.unpublished(t, s, api.ErrState) // ahead of the power that is off
		d.Start()
		before := sectors(t, d)
		m.unpublished(t, s, api.ErrState)
		m.registers(t, s, auditor(6))
		m.submits(t, s, update(t, "alice", 1))
		m.submits(t, s, update(t, "alice", 2))
		m.unpublished(t, s, api.ErrState) // ahead of ErrFull
		if !slices.Equal(sectors(t, d), before) {
			t.Error("written")
		}
	}
}

// The power is off from the beginning on: that is layer 9's error, too.
func TestPublishWithoutPower(t *testing.T) {
	d := disk(t, 40)
	s := opened(t, d, 1)
	m := newModel(t, 1)
	m.submits(t, s, update(t, "alice", 1))
	d.Cut()
	m.unpublished(t, s, api.ErrPower)
	d.Start()
	m.unpublished(t, s, api.ErrState)
	m.waiting = nil
	s = opened(t, d, 1)
	m.is(t, s)
	m.published(t, s)
}

// ErrFull is ahead of the power.
func TestPublishWithoutPowerWhereTheBookIsFull(t *testing.T) {
	d := disk(t, 8)
	s := opened(t, d, 1)
	m := newModel(t, 1)
	m.submits(t, s, update(t, "alice", 1))
	d.Cut()
	m.unpublished(t, s, api.ErrFull)
	d.Start()
	m.unpublished(t, s, api.ErrFull)
}

// Headers, transitions and answers are new memory: nobody who changes them changes the server.
func TestAnswersAreNewMemory(t *testing.T) {
	s := opened(t, disk(t, 200), 1, auditors(3)...)
	m := newModel(t, 1, auditors(3)...)
	m.submits(t, s, update(t, "alice", 1))
	m.registers(t, s, auditor(5))
	m.publish(t)
	h, l, e := s.Publish()
	if e != api.OK {
		t.Fatal(e)
	}
	for b, x := range l {
		for i := range x.Steps {
			clear(x.Steps[i].Proof.Beside)
		}
		clear(x.Steps)
		h.Nodes[b] = "x"
	}
	clear(l)
	m.is(t, s)
	headers := s.Headers()
	for _, x := range headers {
		clear(x.Nodes)
	}
	clear(headers)
	m.is(t, s)
	a, _ := s.Lookup("alice")
	clear(a.History)
	_ = append(a.History, entry.Entry{})
	clear(a.Proof.Beside)
	_, p, _ := s.Member(1, 3)
	clear(p.Beside)
	m.is(t, s)
	m.submits(t, s, update(t, "alice", 2))
	m.published(t, s)
}

// What was told goes its own way: later epochs don't change it.
func TestAnswersLast(t *testing.T) {
	s := opened(t, disk(t, 200), 1, auditors(3)...)
	m := newModel(t, 1, auditors(3)...)
	m.submits(t, s, update(t, "alice", 1))
	m.published(t, s)
	headers, old := s.Headers(), newModel(t, 1)
	old.epochs = m.epochs
	a, _ := s.Lookup("alice")
	history := slices.Clone(a.History)
	for v := 2; v < 6; v++ {
		m.submits(t, s, update(t, "alice", v))
		m.published(t, s)
	}
	if !slices.Equal(a.History, history) || !a.Proof.Has(headers[1].Root(), entry.Name("alice"), history[0].Value(), 0) || len(headers) != 2 || !headers[1].Same(old.epochs[1].h) {
		t.Error("changed")
	}
}

// P24.4

// What waits isn't told, neither as a label's entry nor as a member.
func TestLookupAndMemberOfWhatWaits(t *testing.T) {
	s := opened(t, disk(t, 200), 1, auditors(3)...)
	m := newModel(t, 1, auditors(3)...)
	m.submits(t, s, update(t, "alice", 1))
	m.registers(t, s, auditor(5))
	noMember(t, s, 0, 3, api.ErrNone)
	m.is(t, s)
	m.published(t, s)
	noMember(t, s, 0, 3, api.ErrNone)
	if a, _, e := s.Member(1, 3); a != auditor(5) || e != api.OK {
		t.Error(a.Name, e)
	}
	m.submits(t, s, update(t, "alice", 2))
	if a, e := s.Lookup("alice"); len(a.History) != 1 || e != api.OK {
		t.Error(len(a.History), e)
	}
}

// An auditor's name is no label that has entries, till it gets one.
func TestLookupOfAnAuditorsName(t *testing.T) {
	s := opened(t, disk(t, 200), 1, auditors(3)...)
	m := newModel(t, 1, auditors(3)...)
	m.is(t, s)
	m.submits(t, s, update(t, "x1", 1))
	m.published(t, s)
	if a, e := s.Lookup("x1"); len(a.History) != 1 || e != api.OK {
		t.Error(len(a.History), e)
	}
}

// Things by chance, against the model; now and then another server begins on the disk.
func TestByChance(t *testing.T) {
	t.Parallel()
	r := rand.New(rand.NewSource(24))
	for range 12 {
		x := newRun(t, r, r.Intn(5), r.Intn(4))
		for range 40 {
			x.step()
		}
		if len(x.m.epochs) < 3 {
			t.Error("too little was tried", len(x.m.epochs))
		}
	}
}

// run of a server, against its model.
type run struct {
	t       *testing.T
	r       *rand.Rand
	d       *sector.Disk
	s       *server.Server
	m       *model
	genesis []roster.Auditor
	version map[string]int // with all that waits done
	names   int
}

func newRun(t *testing.T, r *rand.Rand, depth, n int) *run {
	x := &run{t: t, r: r, d: disk(t, 1000), genesis: auditors(n), version: map[string]int{}, names: n}
	x.s, x.m = opened(t, x.d, depth, x.genesis...), newModel(t, depth, x.genesis...)
	return x
}

func (x *run) step() {
	x.t.Helper()
	switch x.r.Intn(8) {
	case 0, 1, 2:
		label := "a" + strconv.Itoa(x.r.Intn(5))
		x.version[label]++
		x.m.submits(x.t, x.s, update(x.t, label, x.version[label]))
	case 3:
		x.m.registers(x.t, x.s, auditor(x.names))
		x.names++
	case 4:
		x.m.refused(x.t, x.s, update(x.t, "a1", x.version["a1"]+2), api.ErrVersion, "a version left out")
	case 5, 6:
		x.m.publishedOrFull(x.t, x.s)
	case 7:
		x.begin()
	}
}

// publishedOrFull: what the book has no room for goes on waiting.
func (m *model) publishedOrFull(t *testing.T, s *server.Server) {
	t.Helper()
	used := 0
	for i, x := range m.epochs {
		for _, record := range x.records() {
			if i > 0 {
				used += logbook.Parts(len(record))
			}
		}
	}
	for _, record := range (epoch{things: m.waiting}).records() {
		used += logbook.Parts(len(record))
	}
	if used > 500 {
		m.unpublished(t, s, api.ErrFull)
		return
	}
	m.published(t, s)
}

// begin anew: what waits is lost.
func (x *run) begin() {
	x.t.Helper()
	x.m.waiting = nil
	x.s = opened(x.t, x.d, x.m.depth, x.genesis...)
	x.m.is(x.t, x.s)
	clear(x.version)
	for i := range 5 {
		label := "a" + strconv.Itoa(i)
		x.version[label] = len(x.m.history(label))
	}
	x.names = len(x.m.auditors(len(x.m.epochs)))
}
