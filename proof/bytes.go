package proof

import (
	"plumbob/api"
	"plumbob/bits"
	"plumbob/octet"
)

const byteSize = 1 // of how many are beside, and of whether a leaf is there

// Encode a proof.
func (p Proof) Encode() (string, api.Errno) {
	if len(p.Beside) > bits.Size {
		return "", api.ErrCount
	}
	var w octet.Writer
	w.Num(uint64(len(p.Beside)), byteSize)
	for _, node := range p.Beside {
		w.Text(node)
	}
	there := uint64(0)
	if p.There {
		there = 1
	}
	return w.Num(there, byteSize).Text(p.Key).Text(p.Value).Bytes()
}

// Decode a proof.
func Decode(s string) (Proof, api.Errno) {
	r := octet.Read(s)
	var p Proof
	for range r.Num(byteSize) {
		p.Beside = append(p.Beside, r.Text())
	}
	there := r.Num(byteSize)
	p.There, p.Key, p.Value = there == 1, r.Text(), r.Text()
	if e := r.End(); e != api.OK {
		return Proof{}, e
	}
	if len(p.Beside) > bits.Size || there > 1 {
		return Proof{}, api.ErrForm
	}
	return p, api.OK
}
