package trans

import (
	"plumbob/api"
	"plumbob/octet"
	"plumbob/proof"
)

const (
	byteSize  = 1 // of a band, and of a depth
	countSize = 2 // bytes of how many steps
)

// Encode a transition.
func (x Transition) Encode() (string, api.Errno) {
	proofs, e := x.proofs()
	if e != api.OK {
		return "", e
	}
	// A number below 0 is a great one here: it doesn't fit either.
	var w octet.Writer
	w.Num(uint64(x.Band), byteSize).Num(uint64(x.Depth), byteSize).Text(x.Old).Text(x.New)
	w.Num(uint64(len(x.Steps)), countSize)
	for i, s := range x.Steps {
		w.Text(s.Key).Text(s.Value).Text(proofs[i])
	}
	return w.Bytes()
}

// Decode a transition.
func Decode(s string) (Transition, api.Errno) {
	r := octet.Read(s)
	x := Transition{Band: int(r.Num(byteSize)), Depth: int(r.Num(byteSize)), Old: r.Text(), New: r.Text()}
	formed := true
	for range r.Num(countSize) {
		step, e := readStep(r)
		x.Steps = append(x.Steps, step)
		formed = formed && e == api.OK
	}
	if e := r.End(); e != api.OK {
		return Transition{}, e
	}
	if len(x.Steps) > api.MaxItems || !formed {
		return Transition{}, api.ErrForm
	}
	return x, api.OK
}

// proofs of all steps, in bytes: all of them ahead of what else is written,
// whose errors come behind theirs.
func (x Transition) proofs() ([]string, api.Errno) {
	var l []string
	for _, s := range x.Steps {
		p, e := s.Proof.Encode()
		if e != api.OK {
			return nil, e
		}
		l = append(l, p)
	}
	return l, api.OK
}

// readStep: a step, and the error of its proof's bytes.
func readStep(r *octet.Reader) (Step, api.Errno) {
	c := Change{Key: r.Text(), Value: r.Text()}
	p, e := proof.Decode(r.Text())
	return Step{Change: c, Proof: p}, e
}
