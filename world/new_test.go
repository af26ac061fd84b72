package world_test

import (
	"math"
	"strconv"
	"testing"

	"plumbob/api"
	"plumbob/cover"
	"plumbob/label"
	"plumbob/roster"
	"plumbob/world"
	"plumbob/xmss"
)

// P28.1

func TestNew(t *testing.T) {
	t.Parallel()
	for auditors := 1; auditors <= 6; auditors++ {
		clients, depth := 1+auditors%4, auditors%5
		w, e := world.New(auditors, clients, depth, cover.Rules{Slots: auditors, Needed: 1})
		if e != api.OK || w == nil {
			t.Fatal(auditors, e)
		}
		l := w.Server().Headers()
		if len(l) != 1 || l[0].Genesis() != api.OK || l[0].Auditors != auditors || l[0].Depth != depth || w.Server().Pending() != 0 {
			t.Error("another genesis epoch", auditors)
		}
		if w.Server() != w.Server() || w.Bag() != w.Bag() || w.Certified() != 0 || w.Bag().Len() != 0 {
			t.Error("not new", w.Certified(), w.Bag().Len())
		}
		hasClients(t, w, clients, auditors)
		hasAuditors(t, w, auditors)
	}
}

func hasClients(t *testing.T, w *world.World, clients, auditors int) {
	t.Helper()
	for i := range clients {
		c := w.Client(i)
		if c == nil || c != w.Client(i) || len(c.Headers()) != 1 || !c.Headers()[0].Same(w.Server().Headers()[0]) || c.Active() != auditors {
			t.Fatal("client", i)
		}
		if i > 0 && c == w.Client(i-1) {
			t.Error("the same one twice", i)
		}
	}
	for _, i := range []int{-1, clients, clients + 1, 4, math.MaxInt, math.MinInt} {
		if w.Client(i) != nil {
			t.Error("a client", i)
		}
	}
}

// Each has a key of height 4, and a name of its own.
func hasAuditors(t *testing.T, w *world.World, auditors int) {
	t.Helper()
	for i := range auditors {
		a, p, e := w.Server().Member(0, i)
		if e != api.OK || a.Key.Height != 4 || len(p.Beside) > 128 {
			t.Fatal(i, e, a.Key.Height)
		}
		if s, e := label.Normal(a.Name); e != api.OK || s != a.Name {
			t.Error(a.Name, e)
		}
		for k := range i {
			if b, _, _ := w.Server().Member(0, k); b.Name == a.Name || b.Key == a.Key {
				t.Error("the same name, or key", i, k)
			}
		}
	}
	if _, _, e := w.Server().Member(0, auditors); e != api.ErrNone {
		t.Error(e)
	}
}

func TestNewOfWrongOnes(t *testing.T) {
	t.Parallel()
	right := cover.Rules{Slots: 2, Needed: 2}
	for _, x := range []struct {
		auditors, clients, depth int
		r                        cover.Rules
		want                     api.Errno
	}{
		{0, 1, 1, right, api.ErrArg},
		{7, 1, 1, right, api.ErrArg},
		{-1, 1, 1, right, api.ErrArg},
		{math.MaxInt, 1, 1, right, api.ErrArg},
		{math.MinInt, 1, 1, right, api.ErrArg},
		{3, 0, 1, right, api.ErrArg},
		{3, 5, 1, right, api.ErrArg},
		{3, -1, 1, right, api.ErrArg},
		{3, math.MaxInt, 1, right, api.ErrArg},
		{3, math.MinInt, 1, right, api.ErrArg},
		{3, 1, -1, right, api.ErrArg},
		{3, 1, 5, right, api.ErrArg},
		{3, 1, math.MaxInt, right, api.ErrArg},
		{3, 1, math.MinInt, right, api.ErrArg},
		{3, 1, 1, cover.Rules{}, api.ErrArg},
		{3, 1, 1, cover.Rules{Slots: 2, Needed: 0}, api.ErrArg},
		{3, 1, 1, cover.Rules{Slots: 2, Needed: 3}, api.ErrArg},
		{3, 1, 1, cover.Rules{Slots: -2, Needed: -3}, api.ErrArg},
		{3, 1, 1, cover.Rules{Slots: math.MaxInt, Needed: math.MinInt}, api.ErrArg},
		// Which of the errors is the first one: Needed of a client's stands ahead of its Slots.
		{3, 1, 1, cover.Rules{Slots: 4, Needed: 5}, api.ErrArg},
		{3, 1, 1, cover.Rules{Slots: 4, Needed: 4}, api.ErrCount},
		{3, 1, 1, cover.Rules{Slots: math.MaxInt, Needed: 1}, api.ErrCount},
		{1, 4, 0, right, api.ErrCount},
		// The server's, and what auditors or clients may be, ahead of a client's.
		{1, 1, 5, right, api.ErrArg},
		{7, 1, 1, cover.Rules{Slots: 8, Needed: 1}, api.ErrArg},
		{1, 5, 1, right, api.ErrArg},
	} {
		if w, e := world.New(x.auditors, x.clients, x.depth, x.r); w != nil || e != x.want {
			t.Error(x, e)
		}
	}
}

func TestEdgesOfNew(t *testing.T) {
	t.Parallel()
	for _, auditors := range []int{1, 6} {
		for _, clients := range []int{1, 4} {
			for _, depth := range []int{0, 4} {
				for _, r := range []cover.Rules{{Slots: 1, Needed: 1}, {Slots: auditors, Needed: auditors}} {
					if w, e := world.New(auditors, clients, depth, r); w == nil || e != api.OK {
						t.Error(auditors, clients, depth, r, e)
					}
				}
			}
		}
	}
}

func TestNil(t *testing.T) {
	t.Parallel()
	var w *world.World
	if w.Server() != nil || w.Bag() != nil || w.Certified() != 0 {
		t.Error("of nil")
	}
	for _, i := range []int{0, 1, -1, math.MaxInt, math.MinInt} {
		if w.Client(i) != nil {
			t.Error("a client of nil", i)
		}
	}
}

// Two worlds have nothing in common but what they begin with.
func TestTwoWorlds(t *testing.T) {
	t.Parallel()
	m := newModel(t, 2, 1, 1, cover.Rules{Slots: 2, Needed: 2})
	n := newModel(t, 2, 1, 1, cover.Rules{Slots: 2, Needed: 2})
	m.epoch(t, "alice", 1)
	n.is(t)
	if m.certified != 1 || n.w.Certified() != 0 || n.w.Bag().Len() != 0 {
		t.Error("of the other one")
	}
	n.epoch(t, "alice", 1)
	if !m.headers[1].Same(n.headers[1]) {
		t.Error("the same steps, another header")
	}
}

// epoch: an update, published, certified, and polled by all.
func (m *model) epoch(t *testing.T, label string, n int) {
	t.Helper()
	m.done(t, world.Step{Kind: world.Update, Text: label, N: n}, world.Step{Kind: world.Publish})
	m.deliverAll(t)
	m.done(t, world.Step{Kind: world.Round})
}

// deliverAll letters, in order: other than in a round no task is sent twice.
func (m *model) deliverAll(t *testing.T) {
	t.Helper()
	for len(m.letters) > 0 {
		m.done(t, world.Step{Kind: world.Deliver})
	}
}

// The server's disk has 1024 sectors: of the 512 of a half this many updates
// (of a label of 2 runes: 624 bytes, that are 16 parts), auditors (of a name of
// 3 runes: 39 bytes, 1 part) and the epoch's record leave none.
func TestTheServersDisk(t *testing.T) {
	t.Parallel()
	for more, want := range []api.Errno{api.OK, api.ErrFull} {
		w, e := world.New(1, 1, 0, cover.Rules{Slots: 1, Needed: 1})
		if e != api.OK {
			t.Fatal(e)
		}
		for i := range 31 {
			if e := w.Do(world.Step{Kind: world.Update, Text: "a" + string([]byte{"0123456789bcdefghijklmnopqrstuvw"[i]})}); e != api.OK {
				t.Fatal(i, e)
			}
		}
		for i := range 15 + more {
			if _, e := w.Server().Register(stranger(t, i)); e != api.OK {
				t.Fatal(i, e)
			}
		}
		for range 2 - more {
			if e := w.Do(world.Step{Kind: world.Publish}); e != want {
				t.Fatal(more, e)
			}
			want = api.ErrState
		}
		if w.Bag().Len() != 1-more || len(w.Server().Headers()) != 2-more || (w.Server().Pending() > 0) != (more > 0) {
			t.Error(more, w.Bag().Len(), w.Server().Pending())
		}
	}
}

// stranger: an auditor that may be registered, and isn't one of the world's.
func stranger(t *testing.T, i int) roster.Auditor {
	t.Helper()
	return roster.Auditor{Name: "x" + string([]byte{byte('a' + i/10), byte('0' + i%10)}), Key: strangersKey(t, i).Public()}
}

func strangersKey(t *testing.T, i int) *xmss.Key {
	t.Helper()
	k, e := xmss.New("stranger "+strconv.Itoa(i), 1)
	if e != api.OK {
		t.Fatal(e)
	}
	return k
}
