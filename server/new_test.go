package server_test

import (
	"math"
	"slices"
	"strings"
	"testing"

	"plumbob/api"
	"plumbob/logbook"
	"plumbob/roster"
	"plumbob/sector"
	"plumbob/server"
	"plumbob/xmss"
)

// P24.1

func TestNew(t *testing.T) {
	for depth := range 5 {
		for _, n := range []int{0, 1, 5, 64} {
			d := disk(t, 20)
			s := opened(t, d, depth, auditors(n)...)
			m := newModel(t, depth, auditors(n)...)
			m.is(t, s)
			if h := s.Headers()[0]; h.Genesis() != api.OK || h.Auditors != n || h.Depth != depth {
				t.Error(depth, n, h)
			}
			if !slices.Equal(sectors(t, d), sectors(t, disk(t, 20))) {
				t.Error("the genesis epoch was written")
			}
		}
	}
}

func noServer(t *testing.T, d *sector.Disk, first, count, depth int, genesis []roster.Auditor, want api.Errno) {
	t.Helper()
	if s, e := server.New(d, first, count, depth, genesis...); s != nil || e != want {
		t.Errorf("%d %d %d, %d auditors: %d, want %d", first, count, depth, len(genesis), e, want)
	}
}

// wrongAuditors: lists of which one may not be registered, with what layer 20 tells of it.
func wrongAuditors() map[api.Errno][]roster.Auditor {
	with := func(f func(a *roster.Auditor)) []roster.Auditor {
		l := auditors(3)
		f(&l[1])
		return l
	}
	return map[api.Errno][]roster.Auditor{
		api.ErrRune:  with(func(a *roster.Auditor) { a.Name = "a b" }),
		api.ErrLong:  with(func(a *roster.Auditor) { a.Name = strings.Repeat("a", 65) }),
		api.ErrForm:  with(func(a *roster.Auditor) { a.Name = "Eve" }),
		api.ErrRange: with(func(a *roster.Auditor) { a.Key.Height = 7 }),
		api.ErrTwice: with(func(a *roster.Auditor) { *a = auditor(2) }),
		api.ErrFull:  auditors(65),
	}
}

// booked: a disk whose book, on the sectors 3 on, has these records.
func booked(t *testing.T, records ...string) *sector.Disk {
	t.Helper()
	d := disk(t, 300)
	b, e := logbook.Open(d, 3, 290)
	if e != api.OK {
		t.Fatal(e)
	}
	for _, x := range records {
		if e := b.Put(x); e != api.OK {
			t.Fatal(e)
		}
	}
	return d
}

// Each error is told ahead of the ones that the chapter names behind it.
func TestNewOfWrongOnes(t *testing.T) {
	no := booked(t, "no server's")
	off := disk(t, 300)
	off.Cut()
	for _, depth := range []int{-1, 5, 16, math.MaxInt, math.MinInt} {
		noServer(t, no, 3, 290, depth, auditors(65), api.ErrArg)
		noServer(t, nil, 3, 290, depth, auditors(3), api.ErrArg)
		noServer(t, disk(t, 20), 0, 20, depth, nil, api.ErrArg)
	}
	for want, l := range wrongAuditors() {
		for _, d := range []*sector.Disk{no, off, nil, disk(t, 300)} {
			noServer(t, d, 3, 290, 2, l, want)
		}
		noServer(t, off, 3, 7, 2, l, want)
	}
	for _, x := range [][2]int{{3, 7}, {-1, 290}, {3, 298}, {0, 301}, {301, 8}, {3, math.MaxInt}, {math.MinInt, 8}, {3, -1}} {
		for _, d := range []*sector.Disk{no, off, nil} {
			noServer(t, d, x[0], x[1], 2, auditors(3), api.ErrArg)
		}
	}
	noServer(t, nil, 0, 20, 2, auditors(3), api.ErrArg)
	noServer(t, off, 3, 290, 2, auditors(3), api.ErrPower)
	noServer(t, no, 3, 290, 2, auditors(3), api.ErrForm)
}

// noServers: lists of records, each with one that no server wrote there.
func noServers(t *testing.T) map[string][]string {
	eve, alice := thing{a: auditor(9)}.record(), thing{u: update(t, "alice", 1)}.record()
	later := thing{u: update(t, "alice", 2)}.record()
	one := behind(1, 1)
	l := map[string][]string{
		"an epoch ahead of its own":          {behind(0, 2)},
		"an epoch again":                     {behind(0, 1), behind(0, 1)},
		"the genesis epoch":                  {behind(0, 0)},
		"an epoch left out":                  {behind(0, 1), behind(0, 3)},
		"an epoch of more bytes":             {behind(0, 1) + "\x00"},
		"an epoch of fewer bytes":            {behind(0, 1)[:6]},
		"more than there are":                {eve, behind(2, 1)},
		"one more than none":                 {one},
		"more than there are, by a great":    {eve, behind(65535, 1)},
		"what another epoch had":             {eve, one, behind(1, 2)},
		"what stands ahead of an epoch":      {eve, behind(0, 1), behind(1, 2)},
		"an auditor twice":                   {eve, eve, behind(2, 1)},
		"an auditor twice, in two epochs":    {eve, one, eve, behind(1, 2)},
		"an auditor of the genesis epoch":    {thing{a: auditor(1)}.record(), one},
		"an auditor whose name may not be":   {thing{a: roster.Auditor{Name: "Eve", Key: auditor(9).Key}}.record(), one},
		"an update twice":                    {alice, alice, behind(2, 1)},
		"an update twice, in two epochs":     {alice, one, alice, behind(1, 2)},
		"a later update first":               {later, one},
		"a later update ahead of the first":  {later, alice, behind(2, 1)},
		"a later update, the first no one's": {alice, behind(0, 1), later, behind(1, 2)},
	}
	spoilt := update(t, "alice", 1)
	spoilt.Sig = update(t, "bob", 1).Sig
	l["another one's signature"] = []string{thing{u: spoilt}.record(), one}
	spoilt = update(t, "alice", 1)
	spoilt.Label = "Alice"
	l["a label that isn't its normal form"] = []string{thing{u: spoilt}.record(), one}
	return l
}

// noRecords that a server writes.
func noRecords(t *testing.T) map[string]string {
	eve, alice := thing{a: auditor(9)}.record(), thing{u: update(t, "alice", 1)}.record()
	high := auditor(9)
	high.Key.Height = 6
	tooHigh := thing{a: high}.record()
	return map[string]string{
		"an empty one": "", "another mark": "x", "a mark alone": "u", "an auditor's mark": "r", "an epoch's mark": "c",
		"a great letter": "U" + alice[1:], "a great one": "R" + eve[1:], "a great one too": "C" + behind(0, 1)[1:],
		"an update without a mark": alice[1:], "an auditor without a mark": eve[1:],
		"an update as an auditor": "r" + alice[1:], "an auditor as an update": "u" + eve[1:], "an auditor as an epoch": "c" + eve[1:],
		"more bytes of an update": alice + "\x00", "fewer bytes of an update": alice[:len(alice)-1],
		"more bytes of an auditor": eve + "\x00", "fewer bytes of an auditor": eve[:len(eve)-1],
		"a name that isn't all there": eve[:4], "half a length": eve[:2], "a name that is too long": "r\x10\x01" + strings.Repeat("a", 800),
		"a key that is too high":   tooHigh[:len(tooHigh)-1] + "\x07",
		"an update's spoilt entry": alice[:10] + "\x00\x00\x00\x00" + alice[14:],
	}
}

func TestNewOfRecordsThatAreNoServers(t *testing.T) {
	for what, l := range noServers(t) {
		t.Run(what, func(t *testing.T) {
			noServer(t, booked(t, l...), 3, 290, 2, auditors(3), api.ErrForm)
		})
	}
	for what, x := range noRecords(t) {
		t.Run(what, func(t *testing.T) {
			noServer(t, booked(t, x), 3, 290, 2, auditors(3), api.ErrForm)
			noServer(t, booked(t, x, behind(1, 1)), 3, 290, 2, auditors(3), api.ErrForm)
			noServer(t, booked(t, x, behind(0, 1)), 3, 290, 2, auditors(3), api.ErrForm)
			noServer(t, booked(t, behind(0, 1), x), 3, 290, 2, auditors(3), api.ErrForm)
		})
	}
}

// Records that were written by hand, as the chapter has them.
func TestNewOfRecordsByHand(t *testing.T) {
	m := newModel(t, 2, auditors(3)...)
	var l []string
	for _, things := range [][]thing{
		{{u: update(t, "alice", 1)}},
		{},
		{{a: auditor(7)}, {u: update(t, "bob", 1)}, {u: update(t, "alice", 2)}, {u: update(t, "alice", 3)}, {a: auditor(8)}},
		{{u: update(t, "alice", 4)}},
	} {
		m.waiting = things
		m.publish(t)
		l = append(l, m.epochs[len(m.epochs)-1].records()...)
	}
	d := booked(t, l...)
	before := sectors(t, d)
	s, e := server.New(d, 3, 290, 2, auditors(3)...)
	if e != api.OK {
		t.Fatal(e)
	}
	m.is(t, s)
	if !slices.Equal(sectors(t, d), before) {
		t.Error("written")
	}
	m.submits(t, s, update(t, "alice", 5))
	m.registers(t, s, auditor(9))
	m.published(t, s)
	m.wrote(t, d, 3, 290)
}

// Records that stand ahead of an epoch's own ones, or behind the last epoch's, are none's.
func TestNewOfRecordsThatAreNoEpochs(t *testing.T) {
	eve, alice := thing{a: auditor(9)}, thing{u: update(t, "alice", 1)}
	for _, x := range []struct {
		records []string
		epochs  [][]thing
	}{
		{[]string{eve.record()}, nil},
		{[]string{alice.record(), eve.record(), alice.record(), eve.record()}, nil},
		{[]string{eve.record(), alice.record(), behind(1, 1)}, [][]thing{{alice}}},
		{[]string{alice.record(), eve.record(), behind(1, 1)}, [][]thing{{eve}}},
		{[]string{alice.record(), eve.record(), behind(0, 1)}, [][]thing{{}}},
		{[]string{eve.record(), eve.record(), alice.record(), behind(2, 1)}, [][]thing{{eve, alice}}},
		{[]string{eve.record(), behind(0, 1), eve.record(), behind(1, 2), alice.record()}, [][]thing{{}, {eve}}},
		{[]string{alice.record(), behind(1, 1), eve.record(), eve.record(), behind(1, 2), eve.record()}, [][]thing{{alice}, {eve}}},
	} {
		m := newModel(t, 1, auditors(3)...)
		for _, things := range x.epochs {
			m.waiting = things
			m.publish(t)
		}
		d := booked(t, x.records...)
		s, e := server.New(d, 3, 290, 1, auditors(3)...)
		if e != api.OK {
			t.Fatal(len(x.records), e)
		}
		m.is(t, s)
		m.submits(t, s, update(t, "bob", 1))
		m.published(t, s)
		s, e = server.New(d, 3, 290, 1, auditors(3)...)
		if e != api.OK {
			t.Fatal(len(x.records), e)
		}
		m.is(t, s)
	}
}

// What waits is not there any more for a server that begins anew.
func TestNewHasNothingThatWaits(t *testing.T) {
	d := disk(t, 100)
	s := opened(t, d, 1, auditors(2)...)
	m := newModel(t, 1, auditors(2)...)
	m.submits(t, s, update(t, "alice", 1))
	m.published(t, s)
	m.submits(t, s, update(t, "alice", 2))
	m.registers(t, s, auditor(5))
	m.waiting = nil
	s = opened(t, d, 1, auditors(2)...)
	m.is(t, s)
	m.registers(t, s, auditor(6))
	m.submits(t, s, update(t, "alice", 2))
	m.published(t, s)
}

// The list of auditors that is handed in is neither changed nor kept.
func TestNewKeepsNothing(t *testing.T) {
	l := append(auditors(3), auditor(77))
	m := newModel(t, 1, auditors(3)...)
	s := opened(t, disk(t, 100), 1, l[:3]...)
	m.registers(t, s, auditor(5))
	m.published(t, s)
	if !slices.Equal(l, append(auditors(3), auditor(77))) {
		t.Error("changed")
	}
	for i := range l {
		l[i] = roster.Auditor{Name: "other", Key: xmss.Public{Open: noughts, Root: noughts}}
	}
	m.is(t, s)
}

// Two servers, each on its own sectors of one disk.
func TestTwoServersOnOneDisk(t *testing.T) {
	d := disk(t, 100)
	a, e := server.New(d, 0, 50, 1, auditors(1)...)
	b, f := server.New(d, 50, 50, 2, auditors(2)...)
	if e != api.OK || f != api.OK {
		t.Fatal(e, f)
	}
	m, n := newModel(t, 1, auditors(1)...), newModel(t, 2, auditors(2)...)
	m.registers(t, a, auditor(5))
	n.submits(t, b, update(t, "alice", 1))
	m.published(t, a)
	n.published(t, b)
	m.is(t, a)
	m.wrote(t, d, 0, 50)
	n.wrote(t, d, 50, 50)
}
