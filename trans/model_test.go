package trans_test

import (
	"crypto/sha256"
	"encoding/binary"
	"fmt"
	"maps"
	"math/rand"
	"slices"
	"strings"

	"plumbob/proof"
	"plumbob/smt"
	"plumbob/trans"
)

// digest of a tag and texts, by the library of Go's own.
func digest(tag byte, l ...string) string {
	x := []byte{tag}
	for _, s := range l {
		x = binary.BigEndian.AppendUint32(x, uint32(len(s)))
		x = append(x, s...)
	}
	d := sha256.Sum256(x)
	return string(d[:16])
}

func leafOf(key, value string) string { return "\x01" + digest(9, key, value) }

func nodeOf(a, b string) string { return "\x02" + digest(10, a, b) }

// written: a key's bits as noughts and ones.
func written(s string) string {
	b := make([]byte, 8*len(s))
	for i := range b {
		b[i] = '0' + s[i/8]>>(7-i%8)&1
	}
	return string(b)
}

// keyOf 128 noughts and ones, of which the beginning is told.
func keyOf(beginning string) string {
	w := beginning + strings.Repeat("0", 128-len(beginning))
	b := make([]byte, 16)
	for i := range 128 {
		b[i/8] = 2*b[i/8] + w[i] - '0'
	}
	return string(b)
}

// bandOf: the first bits of a band's keys.
func bandOf(band, depth int) string {
	if depth == 0 {
		return ""
	}
	return fmt.Sprintf("%0*b", depth, band)
}

// mirrored: keys with their values, by their bits.
type mirrored map[string]string

func (m mirrored) tree() *smt.Tree {
	t := smt.New()
	for k, v := range m {
		t.Put(k, v)
	}
	return t
}

// below: the keys that begin so, rising.
func (m mirrored) below(beginning string) []string {
	var keys []string
	for _, k := range slices.Sorted(maps.Keys(m)) {
		if strings.HasPrefix(written(k), beginning) {
			keys = append(keys, k)
		}
	}
	return keys
}

// above the keys whose bits begin so: the node, by the words of layer 13.
func (m mirrored) above(beginning string) string {
	return m.aboveKeys(m.below(beginning), len(beginning))
}

func (m mirrored) aboveKeys(keys []string, depth int) string {
	switch len(keys) {
	case 0:
		return "\x00"
	case 1:
		return leafOf(keys[0], m[keys[0]])
	}
	var below [2][]string
	for _, k := range keys {
		next := written(k)[depth] - '0'
		below[next] = append(below[next], k)
	}
	a, b := m.aboveKeys(below[0], depth+1), m.aboveKeys(below[1], depth+1)
	switch {
	case a == "\x00" && b[0] == 1:
		return b
	case b == "\x00" && a[0] == 1:
		return a
	}
	return nodeOf(a, b)
}

// prove by the words of layer 14.
func (m mirrored) prove(key string, from int) proof.Proof {
	var p proof.Proof
	w := written(key)
	for depth := from; len(m.below(w[:depth])) > 1; depth++ {
		p.Beside = append(p.Beside, m.above(w[:depth]+string('0'+'1'-w[depth])))
	}
	for _, k := range m.below(w[:from+len(p.Beside)]) {
		p.There, p.Key, p.Value = true, k, m[k]
	}
	return p
}

// with all changes done.
func (m mirrored) with(l ...trans.Change) mirrored {
	after := maps.Clone(m)
	for _, c := range l {
		after[c.Key] = c.Value
	}
	return after
}

// transition by the chapter's words.
func (m mirrored) transition(band, depth int, l ...trans.Change) trans.Transition {
	w := bandOf(band, depth)
	x := trans.Transition{Band: band, Depth: depth, Old: m.above(w), New: m.with(l...).above(w)}
	for i, c := range l {
		x.Steps = append(x.Steps, trans.Step{Change: c, Proof: m.with(l[:i]...).prove(c.Key, depth)})
	}
	return x
}

// is: does a tree have these values, and no others?
func (m mirrored) is(x *smt.Tree) bool {
	for k, v := range m {
		if got, ok := x.Get(k); !ok || got != v {
			return false
		}
	}
	return x.Len() == len(m) && x.Root() == m.above("")
}

// changes that steps make.
func changes(x trans.Transition) []trans.Change {
	var l []trans.Change
	for _, s := range x.Steps {
		l = append(l, s.Change)
	}
	return l
}

func sameProof(p, q proof.Proof) bool {
	return slices.Equal(p.Beside, q.Beside) && p.There == q.There && p.Key == q.Key && p.Value == q.Value
}

func sameStep(a, b trans.Step) bool {
	return a.Key == b.Key && a.Value == b.Value && sameProof(a.Proof, b.Proof)
}

func same(x, y trans.Transition) bool {
	return x.Band == y.Band && x.Depth == y.Depth && x.Old == y.Old && x.New == y.New && slices.EqualFunc(x.Steps, y.Steps, sameStep)
}

func isZero(x trans.Transition) bool { return same(x, trans.Transition{}) }

// cloned: another one, that shares no list.
func cloned(x trans.Transition) trans.Transition {
	x.Steps = slices.Clone(x.Steps)
	for i := range x.Steps {
		x.Steps[i].Proof.Beside = slices.Clone(x.Steps[i].Proof.Beside)
	}
	return x
}

// shown: a transition's beginning, for what a test tells.
func shown(x trans.Transition) string {
	s := fmt.Sprintf("band %d at depth %d, %d steps: %.100q %.100q", x.Band, x.Depth, len(x.Steps), x.Old, x.New)
	for _, c := range x.Steps[:min(4, len(x.Steps))] {
		p := c.Proof
		s += fmt.Sprintf("\n\t%.50q %.50q: %.200q %t %.50q %.50q", c.Key, c.Value, p.Beside, p.There, p.Key, p.Value)
	}
	return s
}

var values = []string{"", "a", "b", "\x00", "\x01", "ж\xff", strings.Repeat("x", 16), strings.Repeat("long", 1500)}

// inBand: a key of that band, for a key.
func inBand(key string, band, depth int) string {
	return keyOf(bandOf(band, depth) + written(key)[depth:])
}

// someKey: by chance, near to a base, or one that parts from it only late.
func someKey(r *rand.Rand, base string) string {
	k := []byte(base)
	switch r.Intn(4) {
	case 0:
		r.Read(k)
	case 1:
		k[0] = byte(r.Intn(256))
	case 2:
		k[r.Intn(16)] ^= 128 >> r.Intn(8)
	case 3:
		k[15] = byte(r.Intn(256))
	}
	return string(k)
}

func someBase(r *rand.Rand) string {
	b := make([]byte, 16)
	r.Read(b)
	return string(b)
}

func someValues(r *rand.Rand, base string, n int) mirrored {
	m := mirrored{}
	for range n {
		m[someKey(r, base)] = values[r.Intn(len(values))]
	}
	return m
}

// someChanges of a band: of keys that are there and such as aren't, some of them twice.
func someChanges(r *rand.Rand, m mirrored, base string, band, depth, n int) []trans.Change {
	var l []trans.Change
	keys := m.below(bandOf(band, depth))
	for range n {
		k := inBand(someKey(r, base), band, depth)
		if len(keys) > 0 && r.Intn(2) == 0 {
			k = keys[r.Intn(len(keys))]
		}
		keys = append(keys, k)
		l = append(l, trans.Change{Key: k, Value: values[r.Intn(len(values))]})
	}
	return l
}

// A made one: what a tree had, its transition and the changes.
type madeOne struct {
	m       mirrored
	x       trans.Transition
	changes []trans.Change
}

// someMade by the model, at all depths.
func someMade(seed int64) []madeOne {
	r := rand.New(rand.NewSource(seed))
	var l []madeOne
	for depth := range 5 {
		for n := range 9 {
			base := someBase(r)
			m := someValues(r, base, n*2)
			band := r.Intn(1 << depth)
			if r.Intn(2) == 0 && n > 0 { // one that has keys
				k := m.below("")[0]
				band = int(k[0]) >> (8 - depth)
			}
			c := someChanges(r, m, base, band, depth, n)
			l = append(l, madeOne{m, m.transition(band, depth, c...), c})
		}
	}
	return l
}
