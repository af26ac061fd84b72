package world

import (
	"strconv"

	"plumbob/api"
	"plumbob/bag"
	"plumbob/client"
	"plumbob/cover"
	"plumbob/entry"
	"plumbob/header"
	"plumbob/policy"
	"plumbob/trans"
	"plumbob/xmss"
)

const (
	ownerKeys   = 64 // that a label's owner has: more numbers are taken modulo it
	ownerHeight = 0  // of each of them
	ownerIndex  = 0  // that each of them signs with

	// noughts stand where an entry would have the value of the one ahead of it.
	noughts = "\x00\x00\x00\x00\x00\x00\x00\x00\x00\x00\x00\x00\x00\x00\x00\x00"
)

// update a label: its next entry behind those that are published, of the owner's key of a number.
func (w *World) update(label string, number int) api.Errno {
	answer, e := w.server.Lookup(label)
	if e != api.OK {
		return e
	}
	key, e := ownerKey(label, number)
	if e != api.OK {
		return e
	}
	next, signing := entry.Entry{Version: entry.First, Key: key.Public(), Prev: noughts}, key
	if count := len(answer.History); count > 0 {
		ahead := answer.History[count-1]
		next.Version, next.Prev = ahead.Version+1, ahead.Value()
		// While an entry waits, this isn't the key ahead, but then the version is wrong anyhow.
		if signing, e = ownerKey(label, w.owners[label]); e != api.OK {
			return e
		}
	}
	u, e := policy.Sign(signing, ownerIndex, label, next)
	if e != api.OK {
		return e
	}
	if e := w.server.Submit(u); e != api.OK {
		return e
	}
	w.owners[label] = number
	return api.OK
}

func ownerKey(label string, number int) (*xmss.Key, api.Errno) {
	return xmss.New("owner"+label+strconv.Itoa(number), ownerHeight)
}

// publish the next epoch, and send its tasks.
func (w *World) publish() api.Errno {
	published := w.server.Headers()
	if len(published)-1 > w.Certified() {
		return api.ErrState
	}
	h, transitions, e := w.server.Publish()
	if e != api.OK {
		return e
	}
	w.gather(published[len(published)-1], h, transitions)
	w.sendTasks()
	return api.OK
}

// gather votes for an epoch. There are no errors: the clients' beginning
// looked at the rules, and what a server publishes has bytes.
func (w *World) gather(parent, h header.Header, transitions []trans.Transition) {
	windows, _ := cover.Windows(parent, w.witness.Active(), w.rules)
	g := &gathering{parent: parent, header: h, windows: windows, votes: map[seat]cover.Vote{}}
	for _, t := range transitions {
		body, _ := request{parent: parent, header: h, transition: t}.body()
		g.tasks = append(g.tasks, body)
	}
	w.gathering = g
}

// sendTasks to those of whom there is no vote. Where the bag has no room, a letter is lost.
func (w *World) sendTasks() {
	if w.gathering == nil {
		return
	}
	for _, at := range w.gathering.missing() {
		w.bag.Put(bag.Letter{To: firstAuditor + at.number, From: serverNode, Kind: task, Body: w.gathering.tasks[at.band]})
	}
}

// handle the letter of a number. That a bag without room has it but once, and
// that an empty body has no byte to turn, is no error.
func (w *World) handle(x Step) api.Errno {
	if w.bag.Len() == 0 {
		return api.ErrNone
	}
	switch x.Kind {
	case Deliver:
		w.deliver(x.N)
	case Drop:
		w.bag.Take(x.N)
	case Again:
		w.bag.Again(x.N)
	case Turn:
		w.bag.Turn(x.N, x.M, turnedBy)
	}
	return api.OK
}

// deliver the letter of a number to its node: what is none of its letters, it leaves.
func (w *World) deliver(n int) {
	x, ok := w.bag.Take(n)
	if !ok {
		return
	}
	number := x.To - firstAuditor
	switch {
	case x.Kind == vote && x.To == serverNode:
		w.takeVote(x.Body)
	case x.Kind == task && number >= 0 && number < len(w.auditors):
		w.attest(number, x.Body)
	}
}

// attest what a task asks for. There is room for the vote: its task's.
func (w *World) attest(number int, body string) {
	x, e := readRequest(body)
	if e != api.OK {
		return
	}
	a, e := w.auditors[number].Attest(number, x.parent, x.header, x.transition)
	if e != api.OK {
		return
	}
	b, e := a.Encode()
	if e != api.OK {
		return
	}
	w.bag.Put(bag.Letter{To: serverNode, From: firstAuditor + number, Kind: vote, Body: b})
}

// takeVote that is right: with it the epoch may be certified.
func (w *World) takeVote(body string) {
	g := w.gathering
	if g == nil || !g.take(w.server, body) || !g.covers(w.rules.Needed) {
		return
	}
	c := g.certificate()
	if w.witness.Accept(c) != api.OK {
		return
	}
	w.certificates = append(w.certificates, c)
	w.gathering = nil
}

// poll: a client gets all certificates that it hasn't.
func (w *World) poll(c *client.Client) {
	for next := len(c.Headers()) - 1; next < len(w.certificates); next++ {
		c.Accept(w.certificates[next])
	}
}

// round: what was lost is sent again, all letters are delivered, all clients poll.
func (w *World) round() {
	w.sendTasks()
	for range roundLetters {
		w.deliver(0)
	}
	for _, c := range w.clients {
		w.poll(c)
	}
}
