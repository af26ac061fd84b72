package bag_test

import (
	"math"
	"math/big"
	"math/rand"
	"strconv"
	"strings"
	"testing"

	"plumbob/bag"
)

const room = 256

// modulo by numbers without bounds.
func modulo(n, count int) int {
	return int(new(big.Int).Mod(big.NewInt(int64(n)), big.NewInt(int64(count))).Int64())
}

// A model of a bag by the chapter's words: what lies there, as a plain list.
type model struct{ letters []bag.Letter }

func (m *model) put(x bag.Letter) bool {
	if len(m.letters) == room {
		return false
	}
	m.letters = append(append([]bag.Letter{}, m.letters...), x)
	return true
}

func (m *model) take(i int) (bag.Letter, bool) {
	if len(m.letters) == 0 {
		return bag.Letter{}, false
	}
	at := modulo(i, len(m.letters))
	var rest []bag.Letter
	for k, x := range m.letters {
		if k != at {
			rest = append(rest, x)
		}
	}
	x := m.letters[at]
	m.letters = rest
	return x, true
}

func (m *model) again(i int) bool {
	return len(m.letters) > 0 && m.put(m.letters[modulo(i, len(m.letters))])
}

func (m *model) turn(i, at int, by byte) bool {
	if len(m.letters) == 0 {
		return false
	}
	x := &m.letters[modulo(i, len(m.letters))]
	if len(x.Body) == 0 {
		return false
	}
	k := modulo(at, len(x.Body))
	x.Body = x.Body[:k] + string([]byte{x.Body[k] ^ by}) + x.Body[k+1:]
	return true
}

func (m *model) forNode(node int) int {
	for i, x := range m.letters {
		if x.To == node {
			return i
		}
	}
	return -1
}

// has: does the bag have what the model has, in its order? Each letter is taken, and put again.
func (m *model) has(t *testing.T, b *bag.Bag) {
	t.Helper()
	if b.Len() != len(m.letters) {
		t.Fatal(b.Len(), len(m.letters))
	}
	for i, want := range m.letters {
		x, ok := b.Take(0)
		if !ok || x != want || b.Len() != len(m.letters)-1 || !b.Put(x) {
			t.Fatal(i, x, want, ok)
		}
	}
}

func letter(i int) bag.Letter {
	return bag.Letter{To: i, From: -i, Kind: i % 3, Body: "letter " + strconv.Itoa(i)}
}

func filled(t *testing.T, n int) (*bag.Bag, *model) {
	t.Helper()
	b, m := bag.New(), &model{}
	for i := range n {
		if !b.Put(letter(i)) || !m.put(letter(i)) || b.Len() != i+1 {
			t.Fatal(i)
		}
	}
	return b, m
}

var numbers = []int{0, 1, 2, 3, -1, -2, -3, 5, 255, 256, 257, -255, -256, -257, 1 << 40, -(1 << 40), math.MaxInt, math.MinInt, math.MaxInt - 1, math.MinInt + 1}

// P27.1

func TestNewOne(t *testing.T) {
	b := bag.New()
	if b == nil || b.Len() != 0 || b.For(0) != -1 {
		t.Error("not empty")
	}
	if c := bag.New(); !c.Put(letter(1)) || b.Len() != 0 || c.Len() != 1 {
		t.Error("two bags have one's letters")
	}
}

func TestExample(t *testing.T) {
	b := bag.New()
	b.Put(bag.Letter{Body: "a"})
	b.Put(bag.Letter{Body: "b"})
	if x, ok := b.Take(1); !ok || x.Body != "b" || b.Len() != 1 {
		t.Error(x, ok)
	}
	if x, ok := b.Take(1); !ok || x.Body != "a" || b.Len() != 0 {
		t.Error(x, ok)
	}
}

func TestPut(t *testing.T) {
	b, m := filled(t, room)
	m.has(t, b)
	for range 3 {
		if b.Put(letter(1000)) || b.Len() != room {
			t.Fatal("one too many")
		}
	}
	m.has(t, b)
	b.Take(7)
	m.take(7)
	if !b.Put(letter(1001)) || !m.put(letter(1001)) || b.Put(letter(1002)) {
		t.Error("room for one")
	}
	m.has(t, b)
}

// Any letter may be put, also the zero one, and the same one again.
func TestPutOfAny(t *testing.T) {
	b, m := bag.New(), &model{}
	for _, x := range []bag.Letter{{}, {}, {To: math.MinInt, From: math.MaxInt, Kind: -1}, {Body: "\x00\xff"}, {Body: strings.Repeat("a", 10000)}} {
		if !b.Put(x) || !m.put(x) {
			t.Error(x.To)
		}
	}
	m.has(t, b)
}

func TestTake(t *testing.T) {
	for _, n := range []int{1, 2, 3, 7, room} {
		for _, i := range numbers {
			b, m := filled(t, n)
			want, _ := m.take(i)
			if x, ok := b.Take(i); !ok || x != want {
				t.Fatal(n, i, x, want, ok)
			}
			m.has(t, b)
		}
	}
}

func TestAgain(t *testing.T) {
	for _, n := range []int{1, 2, 3, 7, room - 1} {
		for _, i := range numbers {
			b, m := filled(t, n)
			if !b.Again(i) || !m.again(i) {
				t.Fatal(n, i)
			}
			m.has(t, b)
		}
	}
	b, m := filled(t, room)
	for _, i := range numbers {
		if b.Again(i) {
			t.Fatal("no room", i)
		}
	}
	m.has(t, b)
}

func TestTurn(t *testing.T) {
	for _, n := range []int{1, 2, 5} {
		for _, i := range numbers {
			for _, at := range numbers {
				b, m := filled(t, n)
				if !b.Turn(i, at, 0xA5) || !m.turn(i, at, 0xA5) {
					t.Fatal(n, i, at)
				}
				m.has(t, b)
			}
		}
	}
}

// Each byte, by each number: bit by bit, and twice is none.
func TestTurnOfEachByte(t *testing.T) {
	for was := range 256 {
		for by := range 256 {
			b := bag.New()
			b.Put(bag.Letter{Body: string([]byte{7, byte(was), 9})})
			if !b.Turn(0, 1, byte(by)) {
				t.Fatal(was, by)
			}
			x, _ := b.Take(0)
			if x.Body != string([]byte{7, byte(was) ^ byte(by), 9}) {
				t.Fatalf("%d by %d: %q", was, by, x.Body)
			}
		}
	}
	b, m := filled(t, 3)
	if !b.Turn(1, 4, 77) || !b.Turn(1, 4, 77) || !b.Turn(1, 4, 0) {
		t.Error("false")
	}
	m.has(t, b)
}

// A letter that comes once more is its own: what is turned in one isn't turned in the other.
func TestTurnBehindAgain(t *testing.T) {
	b, m := filled(t, 2)
	b.Again(0)
	m.again(0)
	for _, i := range []int{0, 2, 2, 1} {
		b.Turn(i, i, 3)
		m.turn(i, i, 3)
		m.has(t, b)
	}
}

func TestTurnOfAnEmptyBody(t *testing.T) {
	b := bag.New()
	b.Put(bag.Letter{To: 5})
	for _, at := range numbers {
		if b.Turn(0, at, 1) {
			t.Fatal("turned", at)
		}
	}
	if x, ok := b.Take(0); !ok || x != (bag.Letter{To: 5}) {
		t.Error(x, ok)
	}
}

func TestFor(t *testing.T) {
	b, m := bag.New(), &model{}
	for _, to := range []int{3, 0, -7, 3, math.MaxInt, 0, math.MinInt} {
		x := bag.Letter{To: to, From: 11, Kind: 12}
		b.Put(x)
		m.put(x)
	}
	for len(m.letters) > 0 {
		for _, node := range append(numbers, 11, 12, -7) {
			if b.For(node) != m.forNode(node) {
				t.Fatal(node, b.For(node), m.forNode(node))
			}
		}
		b.Take(0)
		m.take(0)
	}
	if b.For(0) != -1 || b.For(3) != -1 {
		t.Error("of an empty one")
	}
}

func TestEmptyOne(t *testing.T) {
	b := bag.New()
	b.Put(letter(1))
	b.Take(0)
	for _, b := range []*bag.Bag{bag.New(), b, nil} {
		for _, i := range numbers {
			if x, ok := b.Take(i); ok || x != (bag.Letter{}) {
				t.Fatal(i, x, ok)
			}
			if b.Again(i) || b.Turn(i, 0, 1) || b.Turn(0, i, 1) || b.For(i) != -1 || b.Len() != 0 {
				t.Fatal(i)
			}
		}
	}
}

func TestNil(t *testing.T) {
	var b *bag.Bag
	if b.Put(letter(1)) || b.Put(bag.Letter{}) || b.Len() != 0 || b.For(1) != -1 || b.For(0) != -1 {
		t.Error("of nil")
	}
}

func TestRandomActs(t *testing.T) {
	r := rand.New(rand.NewSource(1))
	full := 0
	for range 20 {
		b, m := bag.New(), &model{}
		puts := 2 + r.Intn(8)
		for i := range 1500 {
			at, place := r.Intn(600)-300, r.Intn(60)-30
			if r.Intn(50) == 0 {
				at, place = numbers[r.Intn(len(numbers))], numbers[r.Intn(len(numbers))]
			}
			by := byte(r.Intn(256))
			switch k := r.Intn(puts); {
			case k > 3:
				if b.Put(letter(i)) != m.put(letter(i)) {
					t.Fatal("put", i)
				}
			case k == 0:
				x, ok := b.Take(at)
				if want, is := m.take(at); x != want || ok != is {
					t.Fatal("take", i, x, want)
				}
			case k == 1:
				if b.Again(at) != m.again(at) {
					t.Fatal("again", i)
				}
			case k == 2:
				if b.Turn(at, place, by) != m.turn(at, place, by) {
					t.Fatal("turn", i)
				}
			default:
				if b.For(i/2) != m.forNode(i/2) {
					t.Fatal("for", i)
				}
			}
			if b.Len() == room {
				full++
			}
			if i%100 == 99 {
				m.has(t, b)
			}
		}
	}
	if full < 100 {
		t.Error("too little was tried:", full)
	}
}
