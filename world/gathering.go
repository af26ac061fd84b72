package world

import (
	"slices"

	"plumbob/api"
	"plumbob/attest"
	"plumbob/cover"
	"plumbob/header"
	"plumbob/server"
)

// What the server gathers for an epoch that isn't certified yet.
type gathering struct {
	parent, header header.Header
	windows        [][]int  // of each band
	tasks          []string // of each band: its letters' body
	votes          map[seat]cover.Vote
}

// A seat is held by one vote at most.
type seat struct{ band, number int }

// missing: the seats of which there is no vote, band by band, each one's in its window's order.
func (g *gathering) missing() []seat {
	var l []seat
	for band, window := range g.windows {
		for _, number := range window {
			at := seat{band: band, number: number}
			if _, ok := g.votes[at]; !ok {
				l = append(l, at)
			}
		}
	}
	return l
}

// take a vote's bytes: is it right?
func (g *gathering) take(s *server.Server, body string) bool {
	a, e := attest.Decode(body)
	if e != api.OK {
		return false
	}
	who, p, e := s.Member(g.parent.Epoch, a.Number)
	if e != api.OK {
		return false
	}
	v := cover.Vote{Attestation: a, Auditor: who, Proof: p}
	if v.Check(g.parent, g.header, g.windows) != api.OK {
		return false
	}
	g.votes[seat{band: a.Band, number: a.Number}] = v
	return true
}

// covers tells whether each band has votes enough. A certificate with fewer is
// wrong: to look at all its votes again behind each one would take long.
func (g *gathering) covers(needed int) bool {
	votes := make([]int, len(g.windows))
	for at := range g.votes {
		votes[at.band]++
	}
	return !slices.ContainsFunc(votes, func(n int) bool { return n < needed })
}

// certificate with the votes that there are, by bands, then by numbers.
func (g *gathering) certificate() cover.Certificate {
	c := cover.Certificate{Header: g.header}
	for band, window := range g.windows {
		for _, number := range slices.Sorted(slices.Values(window)) {
			if v, ok := g.votes[seat{band: band, number: number}]; ok {
				c.Votes = append(c.Votes, v)
			}
		}
	}
	return c
}
