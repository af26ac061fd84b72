package server_test

import (
	"math/rand"
	"slices"
	"testing"

	"plumbob/api"
	"plumbob/logbook"
	"plumbob/roster"
	"plumbob/sector"
	"plumbob/server"
)

// P24.5

// calls of the disk that a Publish of what waits makes: of each record its parts' writes, and a sync.
func (m *model) calls() int {
	n := 0
	for _, record := range (epoch{things: m.waiting}).records() {
		n += logbook.Parts(len(record)) + 1
	}
	return n
}

// wholeBehind: a server that begins anew has the epochs ahead, or these and the one under way, whole; whether it has that is told.
func (m *model) wholeBehind(t *testing.T, d *sector.Disk, genesis []roster.Auditor) (*server.Server, bool) {
	t.Helper()
	d.Start()
	s := opened(t, d, m.depth, genesis...)
	ahead := len(m.epochs)
	if len(s.Headers()) == ahead {
		m.waiting = nil
		m.is(t, s)
		return s, false
	}
	m.publish(t)
	m.is(t, s)
	return s, true
}

func (m *model) copied() *model {
	return &model{depth: m.depth, epochs: slices.Clone(m.epochs), waiting: slices.Clone(m.waiting)}
}

// begun: a disk on which one epoch was published, and a server for which things wait.
func begun(t *testing.T) (*sector.Disk, *model, func(d *sector.Disk) (*server.Server, *model)) {
	t.Helper()
	genesis := auditors(2)
	d := disk(t, 200)
	s := opened(t, d, 1, genesis...)
	m := newModel(t, 1, genesis...)
	m.submits(t, s, update(t, "alice", 1))
	m.published(t, s)
	two, three, bob := update(t, "alice", 2), update(t, "alice", 3), update(t, "bob", 1)
	return d, m, func(d *sector.Disk) (*server.Server, *model) {
		t.Helper()
		s, m := opened(t, d, 1, genesis...), m.copied()
		m.registers(t, s, auditor(5))
		m.submits(t, s, two)
		m.submits(t, s, bob)
		m.submits(t, s, three)
		return s, m
	}
}

// The power fails in place of each of the calls that a Publish makes, with many choices of what is kept.
func TestWhereverThePowerFails(t *testing.T) {
	t.Parallel()
	whole := map[bool]int{}
	clean, m, next := begun(t)
	s, waits := next(clean.Copy())
	calls := waits.calls()
	if s.Pending() != 4 || calls < 50 {
		t.Fatal(calls)
	}
	for fuse := range calls {
		for _, keep := range [][]uint8{nil, {64}, {63}, slices.Repeat([]uint8{64}, 20), slices.Repeat([]uint8{56}, 20), append(slices.Repeat([]uint8{64}, 8), 0, 64, 64)} {
			d := clean.Copy()
			s, waits := next(d)
			d.Fuse(fuse, keep...)
			waits.unpublished(t, s, api.ErrPower)
			began, is := waits.wholeBehind(t, d, auditors(2))
			whole[is]++
			if want := fuse == calls-1 && len(keep) > 0 && keep[0] == 64; is != want {
				t.Fatal(fuse, keep, is)
			}
			if fuse%7 == 0 || is {
				waits.goesOn(t, d, began)
			}
		}
	}
	if whole[true] != 3 || whole[false] != 6*calls-3 || len(m.epochs) != 2 {
		t.Error("too little was tried:", whole)
	}
}

// goesOn: what is published behind a failure is there for all later servers.
func (m *model) goesOn(t *testing.T, d *sector.Disk, s *server.Server) {
	t.Helper()
	m.submits(t, s, update(t, "carol", 1))
	m.registers(t, s, auditor(8))
	m.published(t, s)
	m.published(t, s)
	m.is(t, opened(t, d, m.depth, auditors(2)...))
}

// Where the fuse is long enough, all is there.
func TestThePowerFailsBehindAPublish(t *testing.T) {
	clean, _, next := begun(t)
	d := clean.Copy()
	s, waits := next(d)
	d.Fuse(waits.calls())
	waits.published(t, s)
	d.Cut()
	waits.waiting = []thing{{a: auditor(9)}}
	if _, is := waits.wholeBehind(t, d, auditors(2)); is {
		t.Error("an epoch too many")
	}
}

// It fails again and again, what waits then is another thing each time, and what was left of a failure is no later epoch's.
func TestThePowerFailsAgainAndAgain(t *testing.T) {
	t.Parallel()
	r := rand.New(rand.NewSource(5))
	failed, whole, published := 0, 0, 0
	for range 10 {
		x := newRun(t, r, r.Intn(3), 2)
		for x.bookLeft() > 120 {
			for range r.Intn(4) {
				x.add()
			}
			if r.Intn(3) == 0 {
				x.m.published(t, x.s)
				published++
				continue
			}
			x.d.Fuse(r.Intn(x.m.calls()), keeps(r)...)
			if r.Intn(2) == 0 {
				x.d.Fuse(x.m.calls()-1, keeps(r)...)
			}
			x.m.unpublished(t, x.s, api.ErrPower)
			failed++
			_, is := x.m.wholeBehind(t, x.d, x.genesis)
			if is {
				whole++
			}
			x.begin()
		}
	}
	if failed < 40 || whole < 10 || published < 30 {
		t.Error("too little was tried:", failed, whole, published)
	}
}

// add something that waits.
func (x *run) add() {
	x.t.Helper()
	label := "a" + string([]byte{byte('0' + x.r.Intn(5))})
	if x.r.Intn(2) == 0 && x.names < 14 {
		x.m.registers(x.t, x.s, auditor(x.names))
		x.names++
		return
	}
	x.version[label]++
	x.m.submits(x.t, x.s, update(x.t, label, x.version[label]))
}

func (x *run) bookLeft() int {
	x.t.Helper()
	b, e := logbook.Open(x.d, 0, x.d.Count())
	if e != api.OK {
		x.t.Fatal(e)
	}
	return b.Left()
}

func keeps(r *rand.Rand) []uint8 {
	var l []uint8
	for range r.Intn(25) {
		l = append(l, []uint8{64, 64, 64, uint8(r.Intn(65))}[r.Intn(4)])
	}
	return l
}
