package auditor_test

import (
	"math/rand"
	"slices"
	"testing"

	"plumbob/api"
	"plumbob/auditor"
	"plumbob/header"
	"plumbob/sector"
	"plumbob/trans"
)

// P25.3

// What an auditor may be asked: two rivals of one epoch, with both bands' transitions.
type rivals struct {
	parent header.Header
	h      [2]header.Header
	x      [2][]trans.Transition
}

func rivalsOf(t *testing.T, x epoch) (rivals, epoch) {
	t.Helper()
	y, l := x.next(t, "value", "a", "d", "e", "f")
	z, m := x.next(t, "another value", "a", "d", "e", "f")
	return rivals{parent: x.h, h: [2]header.Header{y.h, z.h}, x: [2][]trans.Transition{l, m}}, y
}

// history of some sectors: what their auditors attested.
type history struct {
	t       *testing.T
	disk    *sector.Disk
	headers map[[2]int]string // by epoch and band
	indices map[int]bool
}

func newHistory(t *testing.T, count int) *history {
	return &history{t: t, disk: disk(t, count), headers: map[[2]int]string{}, indices: map[int]bool{}}
}

// ask for one of two rivals: what is attested is no rival of another one, and its index is new.
func (h *history) ask(a *auditor.Auditor, r rivals, which, band int) api.Errno {
	h.t.Helper()
	y, e := a.Attest(which+7, r.parent, r.h[which], r.x[which][band])
	if e != api.OK {
		if !isZero(y) {
			h.t.Fatal("beside an error")
		}
		return e
	}
	if !y.Verify(a.Public()) || y.Header != r.h[which].Digest() || y.Epoch != r.h[which].Epoch || y.Band != band || y.Number != which+7 {
		h.t.Fatal("not its attestation")
	}
	at := [2]int{int(y.Epoch), y.Band}
	if was, ok := h.headers[at]; ok && was != y.Header {
		h.t.Fatal("two headers of", at)
	}
	if h.indices[y.Sig.Index] {
		h.t.Fatal("twice:", y.Sig.Index)
	}
	h.headers[at], h.indices[y.Sig.Index] = y.Header, true
	if s, ok := a.Marked(y.Epoch, y.Band); !ok || s != y.Header {
		h.t.Fatal("not marked")
	}
	return api.OK
}

// The power fails in place of each of the calls that an Attest makes: of the mark's write and sync, and the index's.
func TestWhereverThePowerFails(t *testing.T) {
	t.Parallel()
	r, _ := rivalsOf(t, genesis(t, 1))
	for before := range 6 {
		for fuse := range 5 {
			for _, keep := range []int{-1, 0, 1, 8, 16, 27, 38, 55, 56, 57, 63, 64, 255} {
				h := newHistory(t, 50)
				a := on(t, h.disk, 40, 3)
				for range before {
					h.ask(a, r, 0, 0)
				}
				if keep < 0 {
					h.disk.Fuse(fuse)
				} else {
					h.disk.Fuse(fuse, uint8(keep))
				}
				want := api.ErrPower
				if fuse == 4 {
					want = api.OK
				}
				if e := h.ask(a, r, 0, 1); e != want {
					t.Fatal(before, fuse, keep, e)
				}
				whole := keep >= 64
				h.behind(a, r, before, fuse > 1 || fuse == 1 && whole, fuse > 3 || fuse == 3 && whole)
			}
		}
	}
}

// behind a failure: what lasts is told by an auditor that begins anew, and the rival may be attested only where no mark lasts.
func (h *history) behind(failed *auditor.Auditor, r rivals, before int, marked, reserved bool) {
	h.t.Helper()
	h.disk.Cut()
	h.disk.Start()
	a := on(h.t, h.disk, 40, 3)
	left := 8 - before
	if reserved {
		left--
	}
	if s, ok := a.Marked(1, 1); ok != marked || ok && s != r.h[0].Digest() || a.Left() != left {
		h.t.Fatal(ok, marked, a.Left(), left)
	}
	want := api.OK
	if marked {
		want = api.ErrTwice
	}
	if e := h.ask(a, r, 1, 1); e != want {
		h.t.Fatal(e, want)
	}
	for which := range 2 {
		for range 2 {
			h.ask(a, r, which, 1)
		}
	}
	if len(h.headers) == 0 {
		h.t.Fatal("none attested")
	}
	if before > 0 && h.ask(a, r, 1, 0) != api.ErrTwice {
		h.t.Fatal("a rival of what was attested ahead")
	}
}

// Where the mark lasts and the signature fails: the mark counts at once, also for the one that failed.
func TestTheMarkOfAFailedSignatureCounts(t *testing.T) {
	r, _ := rivalsOf(t, genesis(t, 1))
	for fuse := 2; fuse < 4; fuse++ {
		h := newHistory(t, 50)
		a := on(t, h.disk, 40, 3)
		h.disk.Fuse(fuse)
		if e := h.ask(a, r, 0, 0); e != api.ErrPower {
			t.Fatal(e)
		}
		if s, ok := a.Marked(1, 0); !ok || s != r.h[0].Digest() || a.Left() != 8 {
			t.Error(ok, a.Left())
		}
		if e := h.ask(a, r, 1, 0); e != api.ErrTwice {
			t.Error(e)
		}
		h.disk.Start()
		if e := h.ask(a, r, 1, 0); e != api.ErrTwice {
			t.Error(e)
		}
		if e := h.ask(a, r, 0, 0); e != api.ErrState { // the signer's book
			t.Error(e)
		}
		a = on(t, h.disk, 40, 3)
		if e := h.ask(a, r, 1, 0); e != api.ErrTwice {
			t.Error(e)
		}
		if e := h.ask(a, r, 0, 0); e != api.OK {
			t.Error(e)
		}
	}
}

// Where the mark's own writing fails none is marked, and that auditor marks none any more.
func TestAFailedMarkIsNone(t *testing.T) {
	r, _ := rivalsOf(t, genesis(t, 1))
	for fuse := range 2 {
		h := newHistory(t, 50)
		a := on(t, h.disk, 40, 3)
		h.ask(a, r, 0, 0)
		h.disk.Fuse(fuse, 64)
		if e := h.ask(a, r, 0, 1); e != api.ErrPower {
			t.Fatal(e)
		}
		h.disk.Start()
		for _, which := range []int{0, 1, 0} {
			if e := h.ask(a, r, which, 1); e != api.ErrState {
				t.Error(e)
			}
		}
		if _, ok := a.Marked(1, 1); ok || a.Left() != 7 {
			t.Error(ok, a.Left())
		}
		if e := h.ask(a, r, 0, 0); e != api.OK { // as marked ahead: the signer's book is another one
			t.Error(e)
		}
	}
}

// Auditors one behind the other, asked for both rivals of many epochs, till the key is spent.
func TestThePowerFailsAgainAndAgain(t *testing.T) {
	t.Parallel()
	var all []rivals
	for x := genesis(t, 1); len(all) < 12; {
		var r rivals
		r, x = rivalsOf(t, x)
		all = append(all, r)
	}
	rnd := rand.New(rand.NewSource(253))
	told := map[api.Errno]int{}
	for range 40 {
		height := 3 + rnd.Intn(3)
		h := newHistory(t, 100)
		a := on(t, h.disk, 97, height)
		for range 300 {
			if rnd.Intn(3) == 0 {
				h.disk.Fuse(rnd.Intn(6), uint8(rnd.Intn(66)), 64)
			}
			e := h.ask(a, all[rnd.Intn(len(all))], rnd.Intn(2), rnd.Intn(2))
			told[e]++
			if e == api.ErrSpent {
				break
			}
			if e == api.ErrPower || e == api.ErrState && rnd.Intn(2) == 0 {
				h.disk.Start()
				a = on(t, h.disk, 97, height)
			}
			if rnd.Intn(8) == 0 {
				h.disk.Cut(uint8(rnd.Intn(65)))
				h.disk.Start()
			}
			if rnd.Intn(8) == 0 {
				a = on(t, h.disk, 97, height)
			}
		}
	}
	for _, e := range []api.Errno{api.OK, api.ErrPower, api.ErrTwice, api.ErrSpent} {
		if told[e] < 20 {
			t.Error("too little was tried:", told)
		}
	}
}

// P4, as far as it goes here: no two of its attestations clash.
func TestNoTwoClash(t *testing.T) {
	x := genesis(t, 1)
	h := newHistory(t, 60)
	a := on(t, h.disk, 57, 5)
	rnd := rand.New(rand.NewSource(4))
	for range 6 {
		var r rivals
		r, x = rivalsOf(t, x)
		first := rnd.Intn(2)
		for band := range 2 {
			y, e := a.Attest(1, r.parent, r.h[first], r.x[first][band])
			z, f := a.Attest(1, r.parent, r.h[1-first], r.x[1-first][band])
			if e != api.OK || f != api.ErrTwice || y.Clash(z) && !isZero(z) {
				t.Fatal(e, f)
			}
			w, e := a.Attest(1, r.parent, r.h[first], r.x[first][band])
			if e != api.OK || y.Clash(w) || y.Sig.Index == w.Sig.Index || slices.Equal(y.Sig.Chains, w.Sig.Chains) {
				t.Fatal(e)
			}
		}
	}
}
