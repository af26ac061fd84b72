package roster_test

import (
	"crypto/sha256"
	"encoding/binary"
	"fmt"
	"math"
	"math/rand"
	"slices"
	"strings"
	"testing"

	"plumbob/api"
	"plumbob/label"
	"plumbob/roster"
	"plumbob/smt"
	"plumbob/xmss"
)

const (
	open16 = "0123456789abcdef"
	root16 = "\x00\xff234567890ABCDE"
)

// tagged by the library of Go's own.
func tagged(tag byte, l ...string) string {
	b := []byte{tag}
	for _, s := range l {
		b = binary.BigEndian.AppendUint32(b, uint32(len(s)))
		b = append(b, s...)
	}
	d := sha256.Sum256(b)
	return string(d[:16])
}

// keyOf a number: for each another one.
func keyOf(n int) xmss.Public {
	return xmss.Public{Open: open16, Root: root16[:14] + string([]byte{byte(n >> 8), byte(n)}), Height: 2}
}

// auditorOf a number: for each another one.
func auditorOf(n int) roster.Auditor {
	return roster.Auditor{Name: fmt.Sprintf("auditor-%d", n), Key: keyOf(n)}
}

func valueOf(a roster.Auditor) string {
	return tagged(16, a.Name, a.Key.Open+a.Key.Root+string([]byte{byte(a.Key.Height)}))
}

func placeOf(n uint16) string {
	return tagged(15, string(binary.BigEndian.AppendUint16(nil, n)))
}

// noKeys have no bytes.
func noKeys() []xmss.Public {
	l := []xmss.Public{{}, {Open: open16, Root: root16, Height: -1}, {Open: open16, Root: root16, Height: 7}, {Open: open16, Root: root16, Height: 256}, {Open: open16, Root: root16, Height: math.MinInt}}
	for _, x := range []string{"", "x", open16[1:], open16 + "x", strings.Repeat("x", 5000)} {
		l = append(l, xmss.Public{Open: x, Root: root16}, xmss.Public{Open: open16, Root: x})
	}
	return l
}

// noNames: what layer 1 says of them.
func noNames() map[string]api.Errno {
	l := map[string]api.Errno{
		"\xff":                    api.ErrForm,
		"eve\xc3":                 api.ErrForm,
		strings.Repeat("a", 65):   api.ErrLong,
		strings.Repeat("A", 65):   api.ErrLong,
		strings.Repeat("ж", 65):   api.ErrLong,
		strings.Repeat("a", 5000): api.ErrLong,
		"":                        api.ErrRune,
		".eve":                    api.ErrRune,
		"eve.":                    api.ErrRune,
		"a..b":                    api.ErrRune,
		"a b":                     api.ErrRune,
		"a@b@c":                   api.ErrRune,
		"aж":                      api.ErrRune,
		"Eve!":                    api.ErrRune,
	}
	for s, want := range l {
		if _, e := label.Normal(s); e != want {
			panic(s)
		}
	}
	return l
}

// notNormal: labels that may be, but aren't their own normal form.
var notNormal = []string{"Eve", "eVe", "EVE", "Ж", "eve@Example.org", "aΩ"[1:], strings.Repeat("A", 64)}

// is: does a roster have these auditors, in order, and no others?
func is(t *testing.T, r *roster.Roster, want []roster.Auditor) {
	t.Helper()
	if r.Len() != len(want) {
		t.Errorf("%d auditors, want %d", r.Len(), len(want))
	}
	for n, a := range want {
		if x, e := r.At(n); x != a || e != api.OK {
			t.Errorf("%d: %v %d, want %v", n, x, e, a)
		}
	}
	for _, n := range []int{len(want), len(want) + 1, len(want) + 64, len(want) + 1<<16, len(want) + 1<<32, 64, 256, math.MaxInt, -1, -2, -len(want) - 1, -1 << 32, math.MinInt, math.MinInt + 1} {
		if x, e := r.At(n); n >= 0 && n < len(want) {
			continue
		} else if x != (roster.Auditor{}) || e != api.ErrNone {
			t.Errorf("%d: %v %d", n, x, e)
		}
	}
}

func refuses(t *testing.T, r *roster.Roster, a roster.Auditor, want api.Errno) {
	t.Helper()
	if n, e := r.Add(a); n != 0 || e != want {
		t.Errorf("%.70q %.40v: %d %d, want %d", a.Name, a.Key, n, e, want)
	}
}

func add(t *testing.T, r *roster.Roster, a roster.Auditor, want int) {
	t.Helper()
	if n, e := r.Add(a); n != want || e != api.OK {
		t.Errorf("%.70q %.40v: %d %d, want %d", a.Name, a.Key, n, e, want)
	}
}

// rosterOf so many auditors.
func rosterOf(t *testing.T, n int) (*roster.Roster, []roster.Auditor) {
	t.Helper()
	r := roster.New()
	var l []roster.Auditor
	for i := range n {
		add(t, r, auditorOf(i), i)
		l = append(l, auditorOf(i))
	}
	return r, l
}

// P20.1

func TestNew(t *testing.T) {
	is(t, roster.New(), nil)
	r, other := roster.New(), roster.New()
	add(t, r, auditorOf(0), 0)
	is(t, other, nil)
}

func TestAddUpToMaxNames(t *testing.T) {
	r := roster.New()
	var l []roster.Auditor
	for i := range 64 {
		add(t, r, auditorOf(i), i)
		l = append(l, auditorOf(i))
		is(t, r, l)
	}
	for i := 64; i < 70; i++ {
		refuses(t, r, auditorOf(i), api.ErrFull)
	}
	is(t, r, l)
	for i := range 64 { // ErrTwice is ahead of ErrFull
		refuses(t, r, auditorOf(i), api.ErrTwice)
		refuses(t, r, roster.Auditor{Name: auditorOf(i).Name, Key: keyOf(99)}, api.ErrTwice)
		refuses(t, r, roster.Auditor{Name: "another", Key: keyOf(i)}, api.ErrTwice)
	}
	refuses(t, r, roster.Auditor{Name: "", Key: keyOf(99)}, api.ErrRune)
	refuses(t, r, roster.Auditor{Name: "Another", Key: keyOf(99)}, api.ErrForm)
	refuses(t, r, roster.Auditor{Name: "another"}, api.ErrRange)
	is(t, r, l)
}

func TestAddOfNames(t *testing.T) {
	for _, n := range []int{0, 1, 5, 64} {
		r, l := rosterOf(t, n)
		for name, want := range noNames() {
			refuses(t, r, roster.Auditor{Name: name, Key: keyOf(99)}, want)
			refuses(t, r, roster.Auditor{Name: name, Key: keyOf(0)}, want) // ahead of ErrTwice
			for _, key := range noKeys() {                                 // ahead of the key
				refuses(t, r, roster.Auditor{Name: name, Key: key}, want)
			}
		}
		for _, name := range notNormal {
			refuses(t, r, roster.Auditor{Name: name, Key: keyOf(99)}, api.ErrForm)
			refuses(t, r, roster.Auditor{Name: name, Key: keyOf(0)}, api.ErrForm)
			for _, key := range noKeys() {
				refuses(t, r, roster.Auditor{Name: name, Key: key}, api.ErrForm)
			}
		}
		refuses(t, r, roster.Auditor{Name: "Auditor-0", Key: keyOf(99)}, api.ErrForm) // also where its normal form is there
		is(t, r, l)
	}
	r := roster.New()
	for i, name := range []string{"a", "eve", "0", "alice@example.org", "жук", "ω-1_а.z", strings.Repeat("a", 64), strings.Repeat("ж", 64)} {
		add(t, r, roster.Auditor{Name: name, Key: keyOf(i)}, i)
	}
}

func TestAddOfKeysWithoutBytes(t *testing.T) {
	r, l := rosterOf(t, 3)
	for _, key := range noKeys() {
		refuses(t, r, roster.Auditor{Name: "eve", Key: key}, api.ErrRange)
		refuses(t, r, roster.Auditor{Name: "auditor-1", Key: key}, api.ErrRange) // ahead of ErrTwice
	}
	refuses(t, r, roster.Auditor{}, api.ErrRune)
	is(t, r, l)
}

// None is called as another one, and none has another one's key; a name, or a part of a key alone, does no harm.
func TestAddTwice(t *testing.T) {
	r, l := rosterOf(t, 8)
	for i := range 8 {
		for k := range 8 {
			refuses(t, r, roster.Auditor{Name: auditorOf(i).Name, Key: keyOf(k)}, api.ErrTwice)
		}
		refuses(t, r, roster.Auditor{Name: auditorOf(i).Name, Key: keyOf(99)}, api.ErrTwice)
		refuses(t, r, roster.Auditor{Name: "another", Key: keyOf(i)}, api.ErrTwice)
	}
	is(t, r, l)
	key := keyOf(3)
	for i, other := range []xmss.Public{{Open: key.Open, Root: key.Root, Height: 3}, {Open: key.Open, Root: root16, Height: 2}, {Open: root16, Root: key.Root, Height: 2}, {Open: key.Root, Root: key.Open, Height: 2}} {
		a := roster.Auditor{Name: fmt.Sprintf("auditor-3%d", i), Key: other}
		add(t, r, a, 8+i)
		l = append(l, a)
	}
	is(t, r, l)
}

// What is refused is as if it hadn't been told: neither its name nor its key is taken.
func TestRefusedOnesTakeNothing(t *testing.T) {
	r, l := rosterOf(t, 2)
	refuses(t, r, roster.Auditor{Name: "auditor-0", Key: keyOf(2)}, api.ErrTwice)
	refuses(t, r, roster.Auditor{Name: "auditor-2", Key: keyOf(1)}, api.ErrTwice)
	refuses(t, r, roster.Auditor{Name: "Auditor-2", Key: keyOf(2)}, api.ErrForm)
	add(t, r, auditorOf(2), 2)
	is(t, r, append(l, auditorOf(2)))
}

func TestOfNil(t *testing.T) {
	var r *roster.Roster
	refuses(t, r, auditorOf(0), api.ErrArg)
	refuses(t, r, roster.Auditor{}, api.ErrArg) // ahead of the name
	is(t, r, nil)
	if r.Copy() != nil {
		t.Error("a copy of nil")
	}
}

func TestCopyGoesItsOwnWay(t *testing.T) {
	for n := range 65 {
		r, l := rosterOf(t, n)
		c := r.Copy()
		is(t, c, l)
		if n == 64 {
			refuses(t, c, auditorOf(64), api.ErrFull)
			continue
		}
		add(t, c, auditorOf(100), n)
		is(t, r, l)
		add(t, r, auditorOf(101), n)
		d := r.Copy()
		is(t, r, append(slices.Clone(l), auditorOf(101)))
		is(t, c, append(slices.Clone(l), auditorOf(100)))
		refuses(t, c, auditorOf(100), api.ErrTwice)
		refuses(t, d, auditorOf(101), api.ErrTwice)
		if n < 63 {
			add(t, c, auditorOf(101), n+1)
			add(t, d, auditorOf(100), n+1)
		}
		is(t, r, append(slices.Clone(l), auditorOf(101)))
	}
}

// By a model: some auditors of few names and keys, by chance, also to copies.
func TestAddByChance(t *testing.T) {
	g := rand.New(rand.NewSource(20))
	for range 40 {
		rosters, models := []*roster.Roster{roster.New()}, [][]roster.Auditor{nil}
		for range 200 {
			i := g.Intn(len(rosters))
			if len(rosters) < 4 && g.Intn(40) == 0 {
				rosters, models = append(rosters, rosters[i].Copy()), append(models, slices.Clone(models[i]))
				continue
			}
			a := roster.Auditor{Name: fmt.Sprintf("a%d", g.Intn(100)), Key: keyOf(g.Intn(100))}
			want := api.OK
			for _, b := range models[i] {
				if b.Name == a.Name || b.Key == a.Key {
					want = api.ErrTwice
				}
			}
			if want == api.OK && len(models[i]) == 64 {
				want = api.ErrFull
			}
			if want != api.OK {
				refuses(t, rosters[i], a, want)
				continue
			}
			add(t, rosters[i], a, len(models[i]))
			models[i] = append(models[i], a)
		}
		for i := range rosters {
			is(t, rosters[i], models[i])
		}
	}
}

// P20.2

func TestPlace(t *testing.T) {
	seen := map[string]int{}
	for n := range 1 << 16 {
		p := roster.Place(n)
		if other, ok := seen[p]; ok || p != placeOf(uint16(n)) {
			t.Fatalf("%d, %d: %q", n, other, p)
		}
		seen[p] = n
	}
	for n, want := range map[int]uint16{
		1 << 16: 0, 1<<16 + 1: 1, 1<<17 - 1: 65535, 1 << 32: 0, 1<<32 + 258: 258, 1<<62 + 5: 5, math.MaxInt: 65535,
		-1: 65535, -2: 65534, -256: 65280, -65535: 1, -65536: 0, -65537: 65535, -1<<32 + 3: 3, math.MinInt: 0, math.MinInt + 7: 7,
	} {
		if p := roster.Place(n); p != placeOf(want) {
			t.Errorf("%d: %q, want that of %d", n, p, want)
		}
	}
}

func TestPlaceByHand(t *testing.T) {
	if p := roster.Place(258); p != tagged(15, "\x01\x02") {
		t.Errorf("%q", p)
	}
}

func TestValue(t *testing.T) {
	seen := map[string]roster.Auditor{}
	for _, name := range []string{"", "a", "eve", "Eve", "\xff", "жук", strings.Repeat("a", 65), strings.Repeat("long", 3000)} { // of any name
		for height := 0; height <= api.MaxHeight; height++ {
			for _, key := range []xmss.Public{{Open: open16, Root: root16, Height: height}, {Open: root16, Root: open16, Height: height}} {
				a := roster.Auditor{Name: name, Key: key}
				v := a.Value()
				if other, ok := seen[v]; ok || v != valueOf(a) || len(v) != 16 {
					t.Errorf("%.20q %v, %.20q %v: %q", name, key, other.Name, other.Key, v)
				}
				seen[v] = a
			}
		}
		for _, key := range noKeys() {
			if v := (roster.Auditor{Name: name, Key: key}).Value(); v != "" {
				t.Errorf("%.20q %.40v: %q", name, key, v)
			}
		}
	}
}

func TestValueByHand(t *testing.T) {
	a := roster.Auditor{Name: "eve", Key: xmss.Public{Open: "oooooooooooooooo", Root: "rrrrrrrrrrrrrrrr", Height: 5}}
	if v := a.Value(); v != tagged(16, "eve", "oooooooooooooooorrrrrrrrrrrrrrrr\x05") {
		t.Errorf("%q", v)
	}
}

func TestLay(t *testing.T) {
	for n := range 65 {
		r, l := rosterOf(t, n)
		x, want := smt.New(), map[string]string{}
		for _, k := range []string{open16, root16, placeOf(0), placeOf(63), placeOf(64)} { // what is there already
			x.Put(k, "ahead")
			want[k] = "ahead"
		}
		for i, a := range l {
			want[placeOf(uint16(i))] = valueOf(a)
		}
		for range 2 { // a second time nothing is another one
			if e := r.Lay(x); e != api.OK {
				t.Errorf("%d: %d", n, e)
			}
			has(t, x, want)
		}
		is(t, r, l)
	}
}

// has: does a tree have these values, and no others?
func has(t *testing.T, x *smt.Tree, want map[string]string) {
	t.Helper()
	if x.Len() != len(want) {
		t.Errorf("%d keys, want %d", x.Len(), len(want))
	}
	for k, v := range want {
		if got, ok := x.Get(k); got != v || !ok {
			t.Errorf("%q: %q %t, want %q", k, got, ok, v)
		}
	}
}

// Those of the roster that is laid alone, not of its copy.
func TestLayOfACopy(t *testing.T) {
	r, _ := rosterOf(t, 2)
	c := r.Copy()
	add(t, c, auditorOf(9), 2)
	x, y := smt.New(), smt.New()
	if e, f := r.Lay(x), c.Lay(y); e != api.OK || f != api.OK {
		t.Error(e, f)
	}
	want := map[string]string{placeOf(0): valueOf(auditorOf(0)), placeOf(1): valueOf(auditorOf(1))}
	has(t, x, want)
	want[placeOf(2)] = valueOf(auditorOf(9))
	has(t, y, want)
}

func TestLayOfNil(t *testing.T) {
	r, l := rosterOf(t, 3)
	var none *roster.Roster
	x := smt.New()
	x.Put(open16, "v")
	for _, e := range []api.Errno{r.Lay(nil), roster.New().Lay(nil), none.Lay(x), none.Lay(nil)} {
		if e != api.ErrArg {
			t.Error(e)
		}
	}
	has(t, x, map[string]string{open16: "v"})
	is(t, r, l)
}
