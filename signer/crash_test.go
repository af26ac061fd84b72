package signer_test

import (
	"math/rand"
	"strconv"
	"testing"

	"plumbob/api"
	"plumbob/sector"
	"plumbob/signer"
)

// P11.3

// history of some sectors: what their signers told, and reserved.
type history struct {
	t    *testing.T
	disk *sector.Disk
	told map[int]string // by index
	lost map[int]bool   // reserved, and not told
}

func newHistory(t *testing.T) *history {
	return &history{t: t, disk: disk(t, 20), told: map[int]string{}, lost: map[int]bool{}}
}

// sign by a signer: what it tells, it tells for the first time.
func (h *history) sign(s *signer.Signer) api.Errno {
	h.t.Helper()
	next := s.Next()
	message := "message " + strconv.Itoa(len(h.told))
	x, e := s.Sign(message)
	if e != api.OK {
		if !isZero(x) || s.Next() != next {
			h.t.Fatal(x.Index, next, s.Next())
		}
		return e
	}
	if was, ok := h.told[x.Index]; ok || h.lost[x.Index] {
		h.t.Fatalf("%d twice: %q, and lost: %t", x.Index, was, h.lost[x.Index])
	}
	if x.Index != next || s.Next() != next+1 || !s.Public().Verify(message, x) {
		h.t.Fatal(x.Index, next, s.Next())
	}
	h.told[x.Index] = message
	return api.OK
}

// behind a failure under way: a signer that begins anew uses the index again, where it doesn't last that it was reserved; else it skips it.
func (h *history) behind(failed *signer.Signer, height int) *signer.Signer {
	h.t.Helper()
	h.disk.Start()
	s := on(h.t, h.disk, height)
	switch s.Next() {
	case failed.Next():
	case failed.Next() + 1:
		h.lost[failed.Next()] = true
	default:
		h.t.Fatal(failed.Next(), s.Next())
	}
	return s
}

// all indices were told or lost.
func (h *history) all(count int) {
	h.t.Helper()
	for i := range count {
		if _, ok := h.told[i]; ok == h.lost[i] {
			h.t.Fatal(i, ok, h.lost[i])
		}
	}
	if len(h.told)+len(h.lost) != count {
		h.t.Fatal(len(h.told), len(h.lost), count)
	}
}

// The power fails once, behind some signatures, at each call, with each choice of what is kept.
func TestWhereverThePowerFails(t *testing.T) {
	t.Parallel()
	const height = 4
	for before := range 10 {
		for fuse := range 2 {
			for _, keep := range []int{-1, 0, 1, 4, 16, 17, 18, 19, 20, 55, 56, 57, 63, 64, 255} {
				h := newHistory(t)
				s := on(t, h.disk, height)
				for range before {
					if e := h.sign(s); e != api.OK {
						t.Fatal(e)
					}
				}
				if keep < 0 {
					h.disk.Fuse(fuse)
				} else {
					h.disk.Fuse(fuse, uint8(keep))
				}
				if e := h.sign(s); e != api.ErrPower {
					t.Fatal(e)
				}
				s = h.behind(s, height)
				if whole := fuse == 1 && keep >= 64; h.lost[before] != whole {
					t.Fatal(before, fuse, keep, h.lost)
				}
				for range 5 {
					if e := h.sign(s); e != api.OK {
						t.Fatal(e)
					}
				}
			}
		}
	}
}

// Whether the first failure's record lasts or not: the second one is behind it.
func TestThePowerFailsTwice(t *testing.T) {
	for before := range 6 {
		for first := range 2 {
			for second := range 2 {
				h := newHistory(t)
				s := on(t, h.disk, 3)
				for range before {
					h.sign(s)
				}
				for _, keep := range []int{first, second} {
					h.disk.Fuse(1, uint8(64*keep))
					if e := h.sign(s); e != api.ErrPower {
						t.Fatal(e)
					}
					s = h.behind(s, 3)
				}
				if len(h.lost) != first+second || s.Next() != before+first+second {
					t.Fatal(before, first, second, h.lost, s.Next())
				}
				for h.sign(s) == api.OK {
				}
				h.all(8)
			}
		}
	}
}

// Signers one behind the other, whose power fails under way and between, till the key is spent.
func TestThePowerFailsAgainAndAgain(t *testing.T) {
	t.Parallel()
	r := rand.New(rand.NewSource(11))
	lost, failed := 0, 0
	for range 60 {
		height := 2 + r.Intn(4)
		h := newHistory(t)
		s := on(t, h.disk, height)
		for {
			if r.Intn(3) == 0 {
				h.disk.Fuse(r.Intn(4), uint8(r.Intn(65)), 64)
				if r.Intn(2) == 0 {
					h.disk.Fuse(r.Intn(2), 64)
				}
			}
			e := h.sign(s)
			if e == api.ErrSpent {
				break
			}
			if e != api.OK {
				if e != api.ErrPower {
					t.Fatal(e)
				}
				failed++
				s = h.behind(s, height)
			}
			if r.Intn(6) == 0 {
				h.disk.Cut(uint8(r.Intn(65)))
				h.disk.Start()
			}
			if r.Intn(6) == 0 {
				s = on(t, h.disk, height)
			}
		}
		h.all(1 << height)
		lost += len(h.lost)
	}
	if lost < 50 || failed-lost < 100 {
		t.Error("too little was tried:", lost, failed)
	}
}

// Also of other seeds and heights: the sectors have the indices.
func TestOtherSignersOnTheSameSectors(t *testing.T) {
	d := disk(t, 20)
	for i, x := range []struct {
		seed   string
		height int
	}{{"a", 2}, {"b", 2}, {"a", 3}, {"c", 6}, {"a", 3}, {"a", 4}} {
		s, e := signer.Open(d, 3, 8, x.seed, x.height)
		if e != api.OK {
			t.Fatal(e)
		}
		signs(t, s, "hello", keyOf(t, x.seed, x.height), i)
	}
	refuses(t, on(t, d, 2), api.ErrSpent)
}

// A signer whose power failed never tells what another one told behind it.
func TestAFailedSignerStaysSilent(t *testing.T) {
	for _, keep := range []uint8{0, 64} {
		h := newHistory(t)
		old := on(t, h.disk, 3)
		h.sign(old)
		h.disk.Fuse(1, keep)
		if e := h.sign(old); e != api.ErrPower {
			t.Fatal(e)
		}
		s := h.behind(old, 3)
		for h.sign(s) == api.OK {
			if e := h.sign(old); e != api.ErrState {
				t.Fatal(e)
			}
		}
		h.all(8)
	}
}
