package trans_test

import (
	"math"
	"math/rand"
	"slices"
	"strings"
	"testing"

	"plumbob/api"
	"plumbob/proof"
	"plumbob/smt"
	"plumbob/trans"
)

var notDepths = []int{math.MinInt, math.MinInt + 1, -1 << 32, -1<<32 + 1, -256, -4, -1, 5, 6, 8, 16, 17, 63, 64, 128, 256, 260, 1 << 31, 1 << 32, 1<<32 + 1, math.MaxInt - 1, math.MaxInt}

// notBands at a depth.
func notBands(depth int) []int {
	n := 1 << depth
	return []int{math.MinInt, -1 << 32, -n, -1, n, n + 1, 2 * n, 16, 256, 1 << 32, math.MaxInt}
}

// notKeys: texts that are no key.
var notKeys = []string{"", "a", strings.Repeat("\x00", 15), strings.Repeat("\x00", 17), strings.Repeat("\xff", 15), strings.Repeat("\xff", 32), strings.Repeat("x", 5000)}

// P16.1

func TestMake(t *testing.T) {
	for _, c := range someMade(16) {
		x := c.m.tree()
		given := slices.Clone(c.changes)
		y, after, e := trans.Make(x, c.x.Band, c.x.Depth, given...)
		if e != api.OK || !same(y, c.x) {
			t.Fatalf("%s, %d, want %s", shown(y), e, shown(c.x))
		}
		if !c.m.with(c.changes...).is(after) {
			t.Errorf("%s: the tree behind it has %q", shown(y), after.Keys())
		}
		if !c.m.is(x) || !slices.Equal(given, c.changes) {
			t.Errorf("%s: what was handed in is changed", shown(y))
		}
	}
}

func TestMakeByHand(t *testing.T) {
	a, b, c := keyOf("100"), keyOf("101"), keyOf("1011")
	other := keyOf("0")
	y, after, e := trans.Make(mirrored{other: "o", a: "1"}.tree(), 1, 1,
		trans.Change{Key: b, Value: "2"}, trans.Change{Key: c, Value: "3"}, trans.Change{Key: a, Value: "4"})
	low, high := leafOf(b, "2"), leafOf(c, "3")
	with := func(last string) string { return nodeOf(nodeOf(leafOf(a, last), nodeOf(low, high)), "\x00") }
	want := trans.Transition{Band: 1, Depth: 1, Old: leafOf(a, "1"), New: with("4"), Steps: []trans.Step{
		{Change: trans.Change{Key: b, Value: "2"}, Proof: proof.Proof{There: true, Key: a, Value: "1"}},
		{Change: trans.Change{Key: c, Value: "3"}, Proof: proof.Proof{Beside: []string{"\x00", leafOf(a, "1")}, There: true, Key: b, Value: "2"}},
		{Change: trans.Change{Key: a, Value: "4"}, Proof: proof.Proof{Beside: []string{"\x00", nodeOf(low, high)}, There: true, Key: a, Value: "1"}},
	}}
	if e != api.OK || !same(y, want) {
		t.Errorf("%s, %d, want %s", shown(y), e, shown(want))
	}
	if y.Check() != api.OK || after.Root() != nodeOf(leafOf(other, "o"), with("4")) {
		t.Errorf("%d, %q", y.Check(), after.Root())
	}
}

// Without steps: Old is New.
func TestMakeWithoutSteps(t *testing.T) {
	for _, c := range someMade(1) {
		for _, l := range [][]trans.Change{nil, {}} {
			x := c.m.tree()
			y, after, e := trans.Make(x, c.x.Band, c.x.Depth, l...)
			want := trans.Transition{Band: c.x.Band, Depth: c.x.Depth, Old: c.x.Old, New: c.x.Old}
			if e != api.OK || !same(y, want) || y.Check() != api.OK || !c.m.is(after) || after == x {
				t.Errorf("%s, %d", shown(y), e)
			}
		}
	}
}

func TestMakeOnAnEmptyTree(t *testing.T) {
	k := keyOf("11")
	for depth := range 5 {
		band := 3 << 2 >> (4 - depth)
		y, after, e := trans.Make(smt.New(), band, depth, trans.Change{Key: k, Value: "v"})
		want := trans.Transition{Band: band, Depth: depth, Old: "\x00", New: leafOf(k, "v"), Steps: []trans.Step{{Change: trans.Change{Key: k, Value: "v"}}}}
		if e != api.OK || !same(y, want) || y.Check() != api.OK || !(mirrored{k: "v"}).is(after) {
			t.Errorf("%d: %s, %d", depth, shown(y), e)
		}
	}
}

// One key again and again, at last with the value that it had.
func TestMakeOfOneKey(t *testing.T) {
	a, b := keyOf("10"), keyOf("11")
	m := mirrored{a: "1", b: "2"}
	l := []trans.Change{{Key: a, Value: "1"}, {Key: a, Value: "3"}, {Key: a}, {Key: a, Value: "1"}}
	y, after, e := trans.Make(m.tree(), 1, 1, l...)
	if e != api.OK || !same(y, m.transition(1, 1, l...)) || y.Old != y.New || len(y.Steps) != 4 || y.Check() != api.OK || !m.is(after) {
		t.Errorf("%s, %d", shown(y), e)
	}
}

// many changes of a band at depth 2.
func many(n int) []trans.Change {
	var l []trans.Change
	for i := range n {
		l = append(l, trans.Change{Key: "\x80" + string([]byte{byte(i >> 8), byte(i)}) + strings.Repeat("k", 13), Value: "v"})
	}
	return l
}

func TestMakeOfManyChanges(t *testing.T) {
	for _, n := range []int{255, 256} {
		y, after, e := trans.Make(smt.New(), 2, 2, many(n)...)
		if e != api.OK || len(y.Steps) != n || y.Check() != api.OK || y.New != after.Node("\x80", 2) || after.Len() != n {
			t.Errorf("%d: %s, %d", n, shown(y), e)
		}
	}
	for _, n := range []int{257, 258, 512, 1000} {
		x := smt.New()
		if y, after, e := trans.Make(x, 2, 2, many(n)...); e != api.ErrCount || !isZero(y) || after != nil || x.Len() != 0 {
			t.Errorf("%d: %s, %d", n, shown(y), e)
		}
	}
	same := slices.Repeat([]trans.Change{{Key: keyOf("10"), Value: "v"}}, 257) // they count, also of one key
	if y, after, e := trans.Make(smt.New(), 2, 2, same...); e != api.ErrCount || !isZero(y) || after != nil {
		t.Errorf("%s, %d", shown(y), e)
	}
}

func refused(t *testing.T, x *smt.Tree, band, depth int, want api.Errno, l ...trans.Change) {
	t.Helper()
	if y, after, e := trans.Make(x, band, depth, l...); e != want || !isZero(y) || after != nil {
		t.Errorf("band %d at depth %d, %.200q: %s, %d, want %d", band, depth, l, shown(y), e, want)
	}
}

func TestMakeOfNoDepthOrTree(t *testing.T) {
	m := mirrored{keyOf("0"): "v", keyOf("1"): "w"}
	strange := append(many(257), trans.Change{Key: "no key"})
	for _, depth := range notDepths {
		for _, band := range []int{math.MinInt, -1, 0, 1, math.MaxInt} { // ahead of the other errors
			for _, x := range []*smt.Tree{nil, smt.New(), m.tree()} {
				refused(t, x, band, depth, api.ErrArg)
				refused(t, x, band, depth, api.ErrArg, trans.Change{Key: keyOf("1")})
				refused(t, x, band, depth, api.ErrArg, strange...)
			}
		}
	}
	for depth := range 5 {
		for _, band := range append(notBands(depth), 0) {
			refused(t, nil, band, depth, api.ErrArg)
			refused(t, nil, band, depth, api.ErrArg, trans.Change{Key: keyOf("")})
			refused(t, nil, band, depth, api.ErrArg, strange...)
		}
	}
}

func TestMakeOfNoBand(t *testing.T) {
	x := mirrored{keyOf("0"): "v", keyOf("1"): "w"}.tree()
	for depth := range 5 {
		for _, band := range notBands(depth) {
			refused(t, x, band, depth, api.ErrRange)
			refused(t, x, band, depth, api.ErrRange, trans.Change{Key: keyOf("")})
			refused(t, x, band, depth, api.ErrRange, many(257)...) // ahead of the count
		}
	}
}

func TestMakeOfKeysOfOtherBands(t *testing.T) {
	m := mirrored{keyOf("0"): "v", keyOf("1"): "w"}
	x := m.tree()
	for depth := range 5 {
		for band := range 1 << depth {
			own := trans.Change{Key: keyOf(bandOf(band, depth) + "01"), Value: "v"}
			var strange []string
			for other := range 1 << depth {
				if other != band {
					strange = append(strange, keyOf(bandOf(other, depth)+"01"))
				}
			}
			for _, k := range append(strange, notKeys...) {
				c := trans.Change{Key: k, Value: "v"}
				refused(t, x, band, depth, api.ErrRange, c)
				refused(t, x, band, depth, api.ErrRange, c, own)
				refused(t, x, band, depth, api.ErrRange, own, own, c)
				refused(t, x, band, depth, api.ErrRange, append(slices.Repeat([]trans.Change{own}, 256), c)...) // ahead of the count
			}
			refused(t, x, band, depth, api.ErrCount, slices.Repeat([]trans.Change{own}, 257)...)
		}
	}
	if !m.is(x) {
		t.Error("the tree is changed")
	}
}

// The tree behind goes its own way, and so does the transition.
func TestMadeOnesAreNewMemory(t *testing.T) {
	a, b, c := keyOf("00"), keyOf("01"), keyOf("011")
	m := mirrored{a: "1", b: "2"}
	x := m.tree()
	room := append(make([]trans.Change, 0, 8), trans.Change{Key: c, Value: "3"}, trans.Change{Key: a, Value: "4"})
	want := m.transition(0, 1, room...)
	y, after, _ := trans.Make(x, 0, 1, room...)
	z, _, _ := trans.Make(x, 0, 1, room...)
	if spare := room[:8][2]; spare != (trans.Change{}) {
		t.Errorf("%q", spare)
	}
	after.Put(b, "5")
	after.Put(keyOf("1"), "6")
	if !m.is(x) {
		t.Error("the tree is changed by the one behind it")
	}
	x.Put(a, "7")
	room[0].Value, room[1].Key = "8", "9"
	z.Steps[0].Proof.Beside[0] = "10"
	z.Steps[1].Value = "11"
	if !same(y, want) {
		t.Errorf("%s, want %s", shown(y), shown(want))
	}
	if v, _ := after.Get(a); v != "4" {
		t.Errorf("%q", v)
	}
	y.Steps[0].Proof.Beside[0] = "12"
	y.Steps[1].Key = "13"
	if n := after.Node(a, 1); n != (mirrored{a: "4", b: "5", c: "3"}).above("0") {
		t.Errorf("%q", n)
	}
}

// A step's fields are its change's.
func TestStepHasItsChange(t *testing.T) {
	c := trans.Change{Key: keyOf("1"), Value: "v"}
	s := trans.Step{Change: c}
	if s.Key != c.Key || s.Value != c.Value {
		t.Errorf("%q, %q", s.Key, s.Value)
	}
	s.Key, s.Value = "k", "w"
	if s.Change != (trans.Change{Key: "k", Value: "w"}) {
		t.Errorf("%q", s.Change)
	}
}

// P16.2

func TestCheckOfWhatIsMade(t *testing.T) {
	for _, c := range someMade(2) {
		was := cloned(c.x)
		if e := c.x.Check(); e != api.OK {
			t.Errorf("%s: %d", shown(c.x), e)
		}
		if !same(c.x, was) {
			t.Errorf("%s is changed: %s", shown(was), shown(c.x))
		}
	}
}

// A value may be longer than a Text.
func TestCheckOfLongValues(t *testing.T) {
	long := strings.Repeat("x", 70000)
	m := mirrored{keyOf("0"): long}
	y, _, e := trans.Make(m.tree(), 0, 1, trans.Change{Key: keyOf("01"), Value: long + "y"}, trans.Change{Key: keyOf("0"), Value: ""})
	if e != api.OK || y.Check() != api.OK || y.New != (mirrored{keyOf("0"): "", keyOf("01"): long + "y"}).above("0") {
		t.Errorf("%d, %d", e, y.Check())
	}
}

func checked(t *testing.T, x trans.Transition, want api.Errno, what string) {
	t.Helper()
	if e := x.Check(); e != want {
		t.Errorf("%s: %s: %d, want %d", what, shown(x), e, want)
	}
}

// Without steps: whatever the node is, it is the one behind all.
func TestCheckWithoutSteps(t *testing.T) {
	nodes := []string{"", "\x00", leafOf("k", "v"), nodeOf("a", "b"), "no node", strings.Repeat("x", 5000)}
	for depth := range 5 {
		for band := range 1 << depth {
			for i, old := range nodes {
				for j, now := range nodes {
					want := api.OK
					if i != j {
						want = api.ErrRoot
					}
					checked(t, trans.Transition{Band: band, Depth: depth, Old: old, New: now}, want, "no steps")
					checked(t, trans.Transition{Band: band, Depth: depth, Old: old, New: now, Steps: []trans.Step{}}, want, "no steps")
				}
			}
		}
	}
}

func TestCheckOfNoDepth(t *testing.T) {
	for _, c := range someMade(3) {
		y := cloned(c.x)
		for _, depth := range notDepths {
			y.Depth = depth
			checked(t, y, api.ErrArg, "no depth")
			z := y
			z.Band, z.New = -1, "x" // ahead of the other errors
			checked(t, z, api.ErrArg, "no depth, no band")
			z.Steps = make([]trans.Step, 257)
			checked(t, z, api.ErrArg, "no depth, too many")
		}
	}
}

// The count is named ahead of the bands and keys here.
func TestCheckOfTooManySteps(t *testing.T) {
	y, after, e := trans.Make(smt.New(), 2, 2, many(256)...)
	if e != api.OK {
		t.Fatal(e)
	}
	checked(t, y, api.OK, "256")
	more := cloned(y)
	k := many(257)[256]
	p, _ := proof.Prove(after, k.Key, 2)
	more.Steps = append(more.Steps, trans.Step{Change: k, Proof: p})
	checked(t, more, api.ErrCount, "257")
	for _, n := range []int{257, 258, 512, 1000} {
		for _, s := range []trans.Step{{}, {Change: trans.Change{Key: keyOf("0")}}, {Change: k}, {Change: trans.Change{Key: "no key"}}} {
			z := trans.Transition{Band: 2, Depth: 2, Old: "\x00", New: "\x00", Steps: slices.Repeat([]trans.Step{s}, n)}
			checked(t, z, api.ErrCount, "too many")
			for _, band := range notBands(2) {
				z.Band = band
				checked(t, z, api.ErrCount, "too many of no band")
			}
		}
	}
}

func TestCheckOfNoBand(t *testing.T) {
	for _, c := range someMade(4) {
		for _, band := range notBands(c.x.Depth) {
			y := cloned(c.x)
			y.Band = band
			checked(t, y, api.ErrRange, "no band")
			y.Old, y.New = "x", "y" // ahead of the other errors
			checked(t, y, api.ErrRange, "no band")
		}
		for band := range 1 << c.x.Depth {
			y := cloned(c.x)
			y.Band = band
			want := api.OK
			if band != c.x.Band && len(y.Steps) > 0 {
				want = api.ErrRange
			}
			checked(t, y, want, "another band")
		}
	}
}

func TestCheckOfStrangeKeys(t *testing.T) {
	for _, c := range someMade(5) {
		for i, s := range c.x.Steps {
			strange := notKeys
			if c.x.Depth > 0 {
				strange = append([]string{inBand(s.Key, c.x.Band^1, c.x.Depth), inBand(s.Key, c.x.Band^1<<(c.x.Depth-1), c.x.Depth)}, notKeys...)
			}
			for _, k := range append(strange, s.Key+"\x00", s.Key[:15]) {
				y := cloned(c.x)
				y.Steps[i].Key = k
				checked(t, y, api.ErrRange, "another band's key")
				y.Old = "x" // ahead of the first step's proof
				y.Steps[0].Proof.Beside = []string{"no node"}
				checked(t, y, api.ErrRange, "another band's key, no proof")
			}
		}
	}
}

func TestCheckOfAnotherOld(t *testing.T) {
	for _, c := range someMade(6) {
		for _, old := range []string{"", "\x00", c.x.New, "x", c.x.Old + "\x00", c.x.Old[:len(c.x.Old)-1], leafOf("k", "v"), nodeOf("a", "b")} {
			y := cloned(c.x)
			y.Old = old
			switch {
			case old == c.x.Old:
				checked(t, y, api.OK, "as it was")
			case len(y.Steps) > 0:
				checked(t, y, api.ErrProof, "another Old")
				y.New = "x" // ahead of New
				checked(t, y, api.ErrProof, "another Old, and New")
			case old != y.New:
				checked(t, y, api.ErrRoot, "another Old")
			}
		}
	}
}

func TestCheckOfAnotherNew(t *testing.T) {
	for _, c := range someMade(7) {
		for _, now := range []string{"", "\x00", c.x.Old, "x", c.x.New + "\x00", c.x.New[:len(c.x.New)-1], leafOf("k", "v"), nodeOf("a", "b")} {
			y := cloned(c.x)
			y.New = now
			want := api.ErrRoot
			if now == c.x.New {
				want = api.OK
			}
			checked(t, y, want, "another New")
		}
	}
}

// Old may be the empty text, as the node of a proof that may not be is.
func TestCheckOfProofsThatMayNotBe(t *testing.T) {
	k := keyOf("1")
	for _, p := range []proof.Proof{
		{Beside: []string{"no node"}}, {Beside: []string{"\x00"}}, {Beside: []string{leafOf("a", "")}}, {Key: k}, {Value: "v"},
		{There: true}, {There: true, Key: k[:15]}, {There: true, Key: keyOf("0")}, {Beside: slices.Repeat([]string{nodeOf("a", "")}, 128), There: true, Key: k},
	} {
		for _, old := range []string{"", "\x00"} {
			for _, now := range []string{"", "\x00", leafOf(k, "v"), leafOf(k, "")} {
				y := trans.Transition{Band: 1, Depth: 1, Old: old, New: now, Steps: []trans.Step{{Change: trans.Change{Key: k, Value: "v"}, Proof: p}}}
				checked(t, y, api.ErrProof, "a proof that may not be")
				y.Steps = append([]trans.Step{{Change: trans.Change{Key: k}, Proof: proof.Proof{}}}, y.Steps...)
				checked(t, y, api.ErrProof, "a second proof that may not be")
			}
		}
	}
}

// How many Beside may be hangs on the depth.
func TestCheckOfKeysThatPartLate(t *testing.T) {
	for depth := range 5 {
		a := keyOf(strings.Repeat("01", 64))
		b := keyOf(strings.Repeat("01", 63) + "00")
		band := int(a[0]) >> (8 - depth)
		m := mirrored{a: "1", b: "2"}
		l := []trans.Change{{Key: b, Value: "3"}, {Key: a, Value: ""}}
		y, after, e := trans.Make(m.tree(), band, depth, l...)
		if e != api.OK || !same(y, m.transition(band, depth, l...)) || len(y.Steps[0].Proof.Beside) != 128-depth || !m.with(l...).is(after) {
			t.Fatalf("%s, %d", shown(y), e)
		}
		checked(t, y, api.OK, "keys that part late")
		for i := range y.Steps[0].Proof.Beside {
			z := cloned(y)
			z.Steps[0].Proof.Beside[i] = nodeOf("x", "")
			checked(t, z, api.ErrProof, "another one beside")
		}
	}
}

// A proof of another depth tells another node, or may not be.
func TestCheckOfProofsFromAnotherDepth(t *testing.T) {
	l := []string{"0000", "0001", "0010", "0011", "01", "1"}
	m := mirrored{}
	for _, w := range l {
		m[keyOf(w)] = w
	}
	k := keyOf("00011")
	for depth := range 5 {
		for from := range 6 {
			y := m.transition(1>>(4-depth), depth, trans.Change{Key: k, Value: "v"})
			y.Steps[0].Proof = m.prove(k, from)
			want := api.OK
			if from != depth && m.above(written(k)[:from]) != y.Old {
				want = api.ErrProof
			}
			checked(t, y, want, "a proof from another depth")
		}
	}
}

// Of each step the proof is of what is there ahead of it, not of the first tree, nor behind it.
func TestCheckOfOtherTreesProofs(t *testing.T) {
	for _, c := range someMade(8) {
		for i, s := range c.x.Steps {
			for n := range len(c.changes) + 1 {
				y := cloned(c.x)
				m := c.m.with(c.changes[:n]...)
				y.Steps[i].Proof = m.prove(s.Key, y.Depth)
				want := api.ErrProof
				if m.above(bandOf(y.Band, y.Depth)) == c.m.with(c.changes[:i]...).above(bandOf(y.Band, y.Depth)) {
					want = api.OK
				}
				checked(t, y, want, "another tree's proof")
			}
		}
	}
}

// forged transitions, each with one thing another one, or one thing more or less.
func forged(x trans.Transition, keys, nodes []string) []trans.Transition {
	var l []trans.Transition
	with := func(change func(y *trans.Transition)) {
		y := cloned(x)
		change(&y)
		if !same(x, y) {
			l = append(l, y)
		}
	}
	for _, n := range nodes {
		with(func(y *trans.Transition) { y.Old = n })
		with(func(y *trans.Transition) { y.New = n })
	}
	for i := range x.Steps {
		with(func(y *trans.Transition) { y.Steps = slices.Delete(y.Steps, i, i+1) })
		with(func(y *trans.Transition) { y.Steps = slices.Insert(y.Steps, i, y.Steps[i]) })
		with(func(y *trans.Transition) { y.Steps[i].Value += "x" })
		with(func(y *trans.Transition) { y.Steps[i].Proof = proof.Proof{} })
		with(func(y *trans.Transition) { y.Steps[i].Proof.Value += "x" })
		with(func(y *trans.Transition) { y.Steps[i].Proof.There = !y.Steps[i].Proof.There })
		for j := range i {
			with(func(y *trans.Transition) { y.Steps[i], y.Steps[j] = y.Steps[j], y.Steps[i] })
			with(func(y *trans.Transition) { y.Steps[i].Change, y.Steps[j].Change = y.Steps[j].Change, y.Steps[i].Change })
			with(func(y *trans.Transition) { y.Steps[i].Proof, y.Steps[j].Proof = y.Steps[j].Proof, y.Steps[i].Proof })
		}
		for _, k := range keys {
			with(func(y *trans.Transition) { y.Steps[i].Key = k })
			with(func(y *trans.Transition) { y.Steps[i].Proof.Key = k })
			with(func(y *trans.Transition) { y.Steps[i].Proof.There, y.Steps[i].Proof.Key = true, k })
		}
		for _, n := range nodes {
			with(func(y *trans.Transition) { y.Steps[i].Proof.Beside = append(y.Steps[i].Proof.Beside, n) })
			for j := range min(3, len(x.Steps[i].Proof.Beside)) {
				with(func(y *trans.Transition) { y.Steps[i].Proof.Beside[j] = n })
				with(func(y *trans.Transition) { y.Steps[i].Proof.Beside = y.Steps[i].Proof.Beside[:j] })
			}
		}
	}
	return l
}

// lies: is one OK, and goes from a tree's node to another one than its changes do?
func lies(m mirrored, x trans.Transition) bool {
	w := bandOf(x.Band, x.Depth)
	return x.Check() == api.OK && x.Old == m.above(w) && x.New != m.with(changes(x)...).above(w)
}

func TestForgedOnesTellNothingElse(t *testing.T) {
	r := rand.New(rand.NewSource(9))
	fine := 0
	for depth := range 5 {
		for n := range 4 {
			base := someBase(r)
			m := someValues(r, base, 3*n)
			band := int(base[0]) >> (8 - depth)
			c := someChanges(r, m, base, band, depth, 3)
			x := m.transition(band, depth, c...)
			w := bandOf(band, depth)
			nodes := []string{"", "\x00", x.Old, x.New, m.above(w + "0"), m.above(w + "1"), m.with(c[:1]...).above(w), leafOf(c[0].Key, c[0].Value)}
			keys := []string{c[0].Key, c[1].Key, c[2].Key, inBand(someBase(r), band, depth)}
			for _, y := range forged(x, keys, nodes) {
				if lies(m, y) {
					t.Fatalf("%s, of %q", shown(y), m)
				}
				if y.Check() == api.OK {
					fine++
				}
			}
		}
	}
	if fine == 0 { // such as put a value again, behind another one
		t.Error("none of them is true")
	}
}
