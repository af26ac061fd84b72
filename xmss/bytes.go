package xmss

import (
	"plumbob/api"
	"plumbob/digits"
	"plumbob/octet"
	"plumbob/sha"
)

const (
	byteSize = 1 // of a height, an index, and the count of a path's texts
	maxIndex = 1<<api.MaxHeight - 1
)

// Encode a public key.
func (p Public) Encode() (string, api.Errno) {
	if !heightMayBe(p.Height) {
		return "", api.ErrRange
	}
	var w octet.Writer
	w.Fixed(p.Open, sha.Short).Fixed(p.Root, sha.Short)
	return w.Num(uint64(p.Height), byteSize).Bytes()
}

// DecodePublic key.
func DecodePublic(s string) (Public, api.Errno) {
	r := octet.Read(s)
	open, root := r.Fixed(sha.Short), r.Fixed(sha.Short)
	height := int(r.Num(byteSize))
	if e := r.End(); e != api.OK {
		return Public{}, e
	}
	if !heightMayBe(height) {
		return Public{}, api.ErrForm
	}
	return Public{Open: open, Root: root, Height: height}, api.OK
}

// Encode a signature.
func (s Sig) Encode() (string, api.Errno) {
	if s.Index < 0 || s.Index > maxIndex || len(s.Chains) != digits.All || len(s.Path) > api.MaxHeight {
		return "", api.ErrRange
	}
	var w octet.Writer
	w.Num(uint64(s.Index), byteSize)
	write(&w, s.Chains)
	w.Num(uint64(len(s.Path)), byteSize)
	write(&w, s.Path)
	return w.Bytes()
}

// DecodeSig of bytes.
func DecodeSig(s string) (Sig, api.Errno) {
	r := octet.Read(s)
	index := int(r.Num(byteSize))
	chains := read(r, digits.All)
	count := int(r.Num(byteSize))
	path := read(r, min(count, api.MaxHeight))
	e := r.End()
	// Bytes that are left are told last: behind a path that is too long some are.
	if e != api.ErrShort && (index > maxIndex || count > api.MaxHeight) {
		e = api.ErrForm
	}
	if e != api.OK {
		return Sig{}, e
	}
	return Sig{Index: index, Chains: chains, Path: path}, api.OK
}

func write(w *octet.Writer, l []string) {
	for _, x := range l {
		w.Fixed(x, sha.Short)
	}
}

func read(r *octet.Reader, count int) []string {
	l := make([]string, count)
	for i := range l {
		l[i] = r.Fixed(sha.Short)
	}
	return l
}
