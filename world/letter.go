package world

import (
	"plumbob/api"
	"plumbob/header"
	"plumbob/octet"
	"plumbob/trans"
)

// The kinds of letters.
const (
	task = iota + 1
	vote
)

// A request is what a task asks an auditor to attest.
type request struct {
	parent, header header.Header
	transition     trans.Transition
}

// body of a task. A transition that is too long for a Text goes on in the
// next one: else its epoch could never be certified.
func (x request) body() (string, api.Errno) {
	parent, e := x.parent.Encode()
	if e != api.OK {
		return "", e
	}
	h, e := x.header.Encode()
	if e != api.OK {
		return "", e
	}
	t, e := x.transition.Encode()
	if e != api.OK {
		return "", e
	}
	var w octet.Writer
	w.Text(parent).Text(h)
	for len(t) > api.MaxText {
		w.Text(t[:api.MaxText])
		t = t[api.MaxText:]
	}
	return w.Text(t).Bytes()
}

// readRequest of a task's body.
func readRequest(body string) (request, api.Errno) {
	r := octet.Read(body)
	parentBytes, headerBytes, piece := r.Text(), r.Text(), r.Text()
	transitionBytes := piece
	for len(piece) == api.MaxText && r.Left() > 0 {
		piece = r.Text()
		transitionBytes += piece
	}
	if e := r.End(); e != api.OK {
		return request{}, e
	}
	parent, e := header.Decode(parentBytes)
	if e != api.OK {
		return request{}, e
	}
	h, e := header.Decode(headerBytes)
	if e != api.OK {
		return request{}, e
	}
	t, e := trans.Decode(transitionBytes)
	if e != api.OK {
		return request{}, e
	}
	return request{parent: parent, header: h, transition: t}, api.OK
}
