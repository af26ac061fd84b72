package script_test

import (
	"math/rand"
	"regexp"
	"slices"
	"strconv"
	"strings"
	"testing"

	"plumbob/api"
	"plumbob/cover"
	"plumbob/header"
	"plumbob/label"
	"plumbob/script"
	"plumbob/sha"
	"plumbob/world"
)

// The words and their args, by the chapter: N a number, L a label.
var words = map[string]string{
	"update": "LN", "publish": "", "round": "", "deliver": "N", "drop": "N", "again": "N", "poll": "N", "restart": "N", "turn": "NN", "lookup": "NL",
}

var kinds = map[string]int{
	"update": world.Update, "publish": world.Publish, "round": world.Round, "deliver": world.Deliver, "drop": world.Drop,
	"again": world.Again, "poll": world.Poll, "restart": world.Restart, "turn": world.Turn,
}

var number = regexp.MustCompile(`^(0|[1-9][0-9]{0,5})$`)

// parses a text by the chapter's words.
func parses(text string) ([]script.Line, int, api.Errno) {
	if len(text) > 65536 {
		return nil, 0, api.ErrLong
	}
	var l []script.Line
	lines := strings.SplitAfter(text, "\n")
	for i, line := range lines {
		if line == "" {
			break
		}
		x, e := parsesLine(line)
		if e != api.OK {
			return nil, i + 1, e
		}
		l = append(l, x)
	}
	return l, 0, api.OK
}

func parsesLine(line string) (script.Line, api.Errno) {
	if line[len(line)-1] != '\n' {
		return script.Line{}, api.ErrShort
	}
	x := script.Line{}
	for i, part := range strings.Split(line[:len(line)-1], " ") {
		if i == 0 {
			x.Word = part
		} else {
			x.Args = append(x.Args, part)
		}
	}
	args, ok := words[x.Word]
	if !ok {
		return script.Line{}, api.ErrWord
	}
	if len(x.Args) != len(args) || slices.Index(x.Args, "") >= 0 {
		return script.Line{}, api.ErrCount
	}
	for i, arg := range x.Args {
		if args[i] == 'N' && !number.MatchString(arg) {
			return script.Line{}, api.ErrNum
		}
		if args[i] == 'L' {
			if normal, e := label.Normal(arg); e != api.OK {
				return script.Line{}, e
			} else if normal != arg {
				return script.Line{}, api.ErrForm
			}
		}
	}
	return x, api.OK
}

func same(x, y script.Line) bool { return x.Word == y.Word && slices.Equal(x.Args, y.Args) }

// parse as the model does; what is parsed is shown again.
func parse(t *testing.T, text string) ([]script.Line, int, api.Errno) {
	t.Helper()
	want, line, err := parses(text)
	l, n, e := script.Parse(text)
	if e != err || n != line || !slices.EqualFunc(l, want, same) {
		t.Fatalf("%.200q: %d %d %d, want %d %d %d", text, len(l), n, e, len(want), line, err)
	}
	if e == api.OK && script.Show(l) != text {
		t.Fatalf("%.200q: %.200q", text, script.Show(l))
	}
	return l, n, e
}

// A twin: a script's world, and another one, that is told its steps itself.
type twin struct{ script, steps *world.World }

func newTwin(t *testing.T, auditors, clients, depth int) twin {
	t.Helper()
	var x twin
	for _, w := range []**world.World{&x.script, &x.steps} {
		var e api.Errno
		if *w, e = world.New(auditors, clients, depth, cover.Rules{Slots: 2, Needed: 2}); e != api.OK {
			t.Fatal(e)
		}
	}
	return x
}

// run a script, and tell the other world its steps: all answers.
func (x twin) run(t *testing.T, text string) string {
	t.Helper()
	var want string
	l, line, err := parses(text)
	for _, y := range l {
		want += answer(x.steps, y) + "\n"
	}
	s, n, e := script.Run(x.script, text)
	if s != want || n != line || e != err {
		t.Fatalf("%q: %q %d %d, want %q %d %d", text, s, n, e, want, line, err)
	}
	x.alike(t)
	return s
}

// answer of a line by the chapter's words.
func answer(w *world.World, x script.Line) string {
	if x.Word == "lookup" {
		return looks(w, x)
	}
	s := world.Step{Kind: kinds[x.Word]}
	l := x.Args
	if x.Word == "update" {
		s.Text, l = l[0], l[1:]
	}
	for i, to := range []*int{&s.N, &s.M} {
		if i < len(l) {
			*to, _ = strconv.Atoi(l[i])
		}
	}
	if e := w.Do(s); e != api.OK {
		return "no " + strconv.Itoa(int(e))
	}
	return "ok"
}

func looks(w *world.World, x script.Line) string {
	n, _ := strconv.Atoi(x.Args[0])
	c := w.Client(n)
	if c == nil {
		return "no 20"
	}
	a, _ := w.Server().Lookup(x.Args[1])
	y, there, e := c.Check(a)
	if e != api.OK {
		return "no " + strconv.Itoa(int(e))
	}
	if !there {
		return "none"
	}
	return "is " + strconv.Itoa(int(y.Version)) + " " + sha.Hex(y.Key.Root[:4])
}

// alike: are both worlds the same?
func (x twin) alike(t *testing.T) {
	t.Helper()
	if a, b := x.script.Certified(), x.steps.Certified(); a != b {
		t.Fatal(a, b)
	}
	if !slices.EqualFunc(x.script.Server().Headers(), x.steps.Server().Headers(), header.Header.Same) {
		t.Fatal("headers")
	}
	if a, b := x.script.Server().Pending(), x.steps.Server().Pending(); a != b {
		t.Fatal(a, b)
	}
	for i := range 4 {
		if !slices.EqualFunc(x.script.Client(i).Headers(), x.steps.Client(i).Headers(), header.Header.Same) {
			t.Fatal("a client's headers", i)
		}
	}
	a, b := x.script.Bag(), x.steps.Bag()
	if a.Len() != b.Len() {
		t.Fatal(a.Len(), b.Len())
	}
	for i := range a.Len() { // each comes last: at the end they stand as they stood
		p, _ := a.Take(0)
		q, _ := b.Take(0)
		if p != q {
			t.Fatal(i)
		}
		a.Put(p)
		b.Put(q)
	}
}

// One of several.
func one(r *rand.Rand, l ...string) string { return l[r.Intn(len(l))] }

// Lines that are right, mostly, and that are spoilt now and then.
func line(r *rand.Rand, spoilt int) string {
	word := one(r, "update", "publish", "round", "deliver", "drop", "again", "poll", "restart", "turn", "lookup")
	s := word
	for _, kind := range words[word] {
		s += " "
		switch {
		case r.Intn(4*spoilt) == 0:
			s += one(r, "", "x", "00", "01", "-1", "+1", "1000000", "A", "a..b", "\xff", "a ", strings.Repeat("a", 65))
		case kind == 'N':
			s += one(r, "0", "1", "2", "3", "9", "10", "64", "999999", strconv.Itoa(r.Intn(1000000)))
		default:
			s += one(r, "alice", "bob", "a@b", "\u03b1", "0", strings.Repeat("a", 64))
		}
	}
	switch r.Intn(8 * spoilt) {
	case 0:
		return s
	case 1:
		return s + " \n"
	case 2:
		return " " + s + "\n"
	case 3:
		return s + one(r, "s", "\n", "\t", "\r", " 1", " alice", "\x00") + "\n"
	}
	return s + "\n"
}

func TestParseAsTheModel(t *testing.T) {
	told := map[api.Errno]int{}
	for seed := range 20000 {
		r := rand.New(rand.NewSource(int64(seed)))
		text := ""
		for range r.Intn(8) {
			text += line(r, 3)
		}
		_, n, e := parse(t, text)
		if n > 1 || e == api.OK && text != "" {
			told[e]++
		}
	}
	for _, e := range []api.Errno{api.OK, api.ErrShort, api.ErrWord, api.ErrCount, api.ErrNum, api.ErrForm, api.ErrRune, api.ErrLong} {
		if told[e] < 20 {
			t.Error(e, told[e])
		}
	}
}

// Texts of any bytes.
func FuzzParse(f *testing.F) {
	f.Add("update alice 3\npublish\nround\nlookup 0 alice\nturn 1 2\n")
	f.Add("drop 01\n")
	f.Fuzz(func(t *testing.T, text string) { parse(t, text) })
}

func TestRunAsTheModel(t *testing.T) {
	told := map[string]int{}
	for seed := range 12 {
		r := rand.New(rand.NewSource(int64(seed)))
		x := newTwin(t, 2+seed%3, 4, seed%2)
		for range 12 {
			text := ""
			for range r.Intn(6) {
				text += line(r, 1000)
			}
			if r.Intn(2) == 0 {
				text += "update " + one(r, "alice", "bob") + " 7\npublish\nround\nlookup 1 alice\n"
			}
			for _, s := range strings.Fields(x.run(t, text)) {
				told[s]++
			}
		}
	}
	for _, s := range []string{"ok", "no", "is", "none", "20", "21", "18", "13"} {
		if told[s] < 3 {
			t.Error(s, told[s])
		}
	}
}
