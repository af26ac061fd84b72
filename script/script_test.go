package script_test

import (
	"math/rand"
	"slices"
	"strconv"
	"strings"
	"testing"

	"plumbob/api"
	"plumbob/cover"
	"plumbob/script"
	"plumbob/sha"
	"plumbob/world"
)

// P30.1

func TestParse(t *testing.T) {
	long := strings.Repeat("a", api.MaxLabel)
	for text, want := range map[string][]script.Line{
		"":                         nil,
		"publish\n":                {{Word: "publish"}},
		"round\nround\npublish\n":  {{Word: "round"}, {Word: "round"}, {Word: "publish"}},
		"update alice 3\n":         {{Word: "update", Args: []string{"alice", "3"}}},
		"update 0 0\n":             {{Word: "update", Args: []string{"0", "0"}}},
		"update " + long + " 63\n": {{Word: "update", Args: []string{long, "63"}}},
		"update a.b@\u03b1 1\n":    {{Word: "update", Args: []string{"a.b@\u03b1", "1"}}},
		"deliver 0\n":              {{Word: "deliver", Args: []string{"0"}}},
		"drop 10\n":                {{Word: "drop", Args: []string{"10"}}},
		"again 999999\n":           {{Word: "again", Args: []string{"999999"}}},
		"poll 100000\n":            {{Word: "poll", Args: []string{"100000"}}},
		"restart 7\n":              {{Word: "restart", Args: []string{"7"}}},
		"turn 1 2\nturn 2 1\n":     {{Word: "turn", Args: []string{"1", "2"}}, {Word: "turn", Args: []string{"2", "1"}}},
		"lookup 0 alice\n":         {{Word: "lookup", Args: []string{"0", "alice"}}},
	} {
		l, n, e := parse(t, text)
		if e != api.OK || n != 0 || !slices.EqualFunc(l, want, same) {
			t.Errorf("%q: %v %d %d", text, l, n, e)
		}
	}
}

// Each word with none, one, two and three args.
func TestParseCounts(t *testing.T) {
	for word, args := range words {
		for n := range 4 {
			l := strings.Repeat(" 1", n)
			want := api.ErrCount
			if n == len(args) {
				want = api.OK
			}
			for text, want := range map[string]api.Errno{l: want, l + " ": api.ErrCount, " " + l: api.ErrCount, l + "  ": api.ErrCount} {
				if _, _, e := parse(t, word+text+"\n"); e != want {
					t.Errorf("%q: %d, want %d", word+text, e, want)
				}
			}
		}
	}
}

func TestParseOfWrongLines(t *testing.T) {
	long := strings.Repeat("a", api.MaxLabel+1)
	for line, want := range map[string]api.Errno{
		"round": api.ErrShort, "r": api.ErrShort, " ": api.ErrShort, "drop": api.ErrShort, "drop x": api.ErrShort, "update A 1": api.ErrShort, "fly": api.ErrShort, "\x00": api.ErrShort,
		"\n": api.ErrWord, " \n": api.ErrWord, "fly\n": api.ErrWord, "Round\n": api.ErrWord, " round\n": api.ErrWord, "rounds\n": api.ErrWord, "roun\n": api.ErrWord, "round\r\n": api.ErrWord, "round\t\n": api.ErrWord,
		"drop\t1\n": api.ErrWord, "fly  \n": api.ErrWord, "fly 1 2 3\n": api.ErrWord, "\xff\n": api.ErrWord, "updatelabel 1\n": api.ErrWord, "#\n": api.ErrWord, "l\n": api.ErrWord, "n 1\n": api.ErrWord,
		"round now\n": api.ErrCount, "round \n": api.ErrCount, "drop\n": api.ErrCount, "drop \n": api.ErrCount, "drop  1\n": api.ErrCount, "drop 1 \n": api.ErrCount, "drop x y\n": api.ErrCount,
		"turn 1\n": api.ErrCount, "turn x \n": api.ErrCount, "turn  x\n": api.ErrCount, "turn 1 2 3\n": api.ErrCount, "update A\n": api.ErrCount, "update A \n": api.ErrCount, "update  x\n": api.ErrCount,
		"lookup alice\n": api.ErrCount, "lookup x A 1\n": api.ErrCount, "lookup x \n": api.ErrCount,
		"drop x\n": api.ErrNum, "drop 01\n": api.ErrNum, "drop 00\n": api.ErrNum, "drop -1\n": api.ErrNum, "drop -0\n": api.ErrNum, "drop +1\n": api.ErrNum, "drop 1000000\n": api.ErrNum, "drop 0000001\n": api.ErrNum,
		"drop 1_0\n": api.ErrNum, "drop 0x1\n": api.ErrNum, "drop 1.\n": api.ErrNum, "drop 1e1\n": api.ErrNum, "drop \u0661\n": api.ErrNum, "drop 1\r\n": api.ErrNum, "drop 99999999999999999999\n": api.ErrNum, "drop 1x\n": api.ErrNum, "drop \x00\n": api.ErrNum,
		"turn x 1\n": api.ErrNum, "turn 1 x\n": api.ErrNum, "update alice x\n": api.ErrNum, "update alice 1000000\n": api.ErrNum, "lookup x alice\n": api.ErrNum, "lookup alice 1\n": api.ErrNum,
		"lookup x A\n": api.ErrNum, "lookup 01 a..b\n": api.ErrNum, "update 1 alice\n": api.ErrNum,
		"update A x\n": api.ErrForm, "update \xff x\n": api.ErrForm, "update " + long + " x\n": api.ErrLong, "update a..b x\n": api.ErrRune,
		"update A 1\n": api.ErrForm, "update a.B 1\n": api.ErrForm, "update \xff 1\n": api.ErrForm, "update \u0391 1\n": api.ErrForm, "update " + long + " 1\n": api.ErrLong, "update a..b 1\n": api.ErrRune, "update a\tb 1\n": api.ErrRune, "update a\u03b1 1\n": api.ErrRune,
		"lookup 1 A\n": api.ErrForm, "lookup 1 \xff\n": api.ErrForm, "lookup 1 " + long + "\n": api.ErrLong, "lookup 1 a..b\n": api.ErrRune, "lookup 1 -1\n": api.ErrRune, "lookup 1 alice\r\n": api.ErrRune,
	} {
		for i, ahead := range []string{"", "round\n", "update alice 1\nturn 1 2\n", strings.Repeat("publish\n", 100)} {
			n := []int{1, 2, 3, 101}[i]
			for _, text := range []string{ahead + line, ahead + line + "fly\n", ahead + line + "round"} {
				if !strings.HasSuffix(line, "\n") && text != ahead+line {
					continue
				}
				if l, at, e := parse(t, text); e != want || at != n || len(l) != 0 {
					t.Errorf("%q: %d %d, want %d", text, at, e, want)
				}
			}
		}
	}
}

func TestParseOfLongTexts(t *testing.T) {
	most := strings.Repeat("publish\n", api.MaxScript/8)
	if l, n, e := parse(t, most); e != api.OK || n != 0 || len(l) != 8192 {
		t.Error(len(l), n, e)
	}
	for _, text := range []string{most + "\n", most + "round\n", most + "x", "fly\n" + most, strings.Repeat("\n", api.MaxScript+1), strings.Repeat("a", 1<<20)} {
		if l, n, e := parse(t, text); e != api.ErrLong || n != 0 || len(l) != 0 {
			t.Error(len(l), n, e)
		}
	}
	parse(t, most[:api.MaxScript-1])
	parse(t, strings.Repeat("\n", api.MaxScript))
	parse(t, "drop "+strings.Repeat("1", api.MaxScript-6)+"\n")
	parse(t, "round"+strings.Repeat(" ", api.MaxScript-6)+"\n")
	parse(t, strings.Repeat(" ", api.MaxScript))
}

// What is parsed is new memory: no line has another one's args.
func TestParsedLinesApart(t *testing.T) {
	text := "turn 1 2\nupdate alice 3\npublish\nlookup 0 alice\n"
	l, _, _ := parse(t, text)
	for i := range l {
		l[i].Args = append(l[i].Args, "more")
	}
	for i := range l {
		l[i].Args = l[i].Args[:len(l[i].Args)-1]
	}
	if script.Show(l) != text {
		t.Error(script.Show(l))
	}
	for i := range l {
		clear(l[i].Args)
	}
	parse(t, text)
}

func TestShow(t *testing.T) {
	for want, l := range map[string][]script.Line{
		"":                     {},
		"\n":                   {{}},
		"round\n":              {{Word: "round", Args: []string{}}},
		"turn 1 2\nfly\n":      {{Word: "turn", Args: []string{"1", "2"}}, {Word: "fly"}},
		"lookup 0 alice\n":     {{Word: "lookup", Args: []string{"0", "alice"}}},
		"again  x\npublish \n": {{Word: "again", Args: []string{"", "x"}}, {Word: "publish", Args: []string{""}}},
	} {
		if s := script.Show(l); s != want {
			t.Errorf("%q, want %q", s, want)
		}
	}
	if s := script.Show(nil); s != "" {
		t.Error(s)
	}
	args := []string{"1", "2", "3"}
	l := []script.Line{{Word: "turn", Args: args[:2]}, {Word: "round"}}[:1]
	script.Show(l)
	if !slices.Equal(args, []string{"1", "2", "3"}) || l[:2][1].Word != "round" {
		t.Error("changed")
	}
}

// P30.2

func TestRun(t *testing.T) {
	x := newTwin(t, 2, 2, 0)
	for _, y := range []struct{ text, want string }{
		{"", ""},
		{"lookup 0 alice\n", "none\n"},
		{"publish\npublish\nround\n", "ok\nno 21\nok\n"},
		{"deliver 0\ndrop 1\nagain 2\nturn 3 4\n", "no 20\nno 20\nno 20\nno 20\n"},
		{"lookup 2 alice\nlookup 999999 alice\nlookup 1 alice\n", "no 20\nno 20\nnone\n"},
		{"poll 0\npoll 999999\nrestart 0\nrestart 999999\n", "ok\nok\nok\nok\n"},
		{"update alice 3\nupdate alice 4\nupdate bob 64\nlookup 0 alice\n", "ok\nno 13\nok\nnone\n"},
		{"publish\nlookup 0 alice\nround\n", "ok\nno 18\nok\n"},
		{"lookup 0 alice\nlookup 1 bob\nlookup 1 carol\n", "is 1 " + digits("alice3") + "\nis 1 " + digits("bob0") + "\nnone\n"},
		{"update alice 999999\npublish\nagain 0\nturn 0 5\ndrop 0\ndeliver 1\ndeliver 0\ndeliver 1\ndeliver 0\n", strings.Repeat("ok\n", 9)},
		{"restart 0\nrestart 1\nlookup 0 alice\nlookup 1 alice\n", "ok\nok\nno 18\nno 18\n"},
		{"poll 1\nlookup 0 alice\nlookup 1 alice\n", "ok\nno 18\nis 2 " + digits("alice63") + "\n"},
		{"round\nlookup 0 alice\n", "ok\nis 2 " + digits("alice63") + "\n"},
	} {
		if s := x.run(t, y.text); s != y.want {
			t.Fatalf("%q: %q, want %q", y.text, s, y.want)
		}
	}
}

// As long as each vote costs one signature alone, auditors sign sixteen epochs.
func TestRunOfManyEpochs(t *testing.T) {
	x := newTwin(t, 2, 1, 0)
	for version := 1; version <= 16; version++ {
		n := strconv.Itoa(version % 7)
		s := x.run(t, "update alice "+n+"\npublish\n"+strings.Repeat("deliver 0\n", 4)+"poll 0\nlookup 0 alice\n")
		if want := strings.Repeat("ok\n", 7) + "is " + strconv.Itoa(version) + " " + digits("alice"+n) + "\n"; s != want {
			t.Fatalf("%q, want %q", s, want)
		}
	}
}

// digits of the root of an owner's key.
func digits(owner string) string { return sha.Hex(ownerKey(owner).Root)[:8] }

// A script that is wrong somewhere does nothing at all.
func TestRunOfWrongScripts(t *testing.T) {
	x := newTwin(t, 2, 2, 0)
	x.run(t, "update alice 1\npublish\n")
	for text, want := range map[string]api.Errno{
		"update bob 1\nfly\n": api.ErrWord, "round\nround": api.ErrShort, "drop 0\ndrop\n": api.ErrCount, "turn 0 0\nturn 0 x\n": api.ErrNum, "deliver 0\nupdate A 1\n": api.ErrForm,
		"again 0\nlookup 0 a..b\nfly\n": api.ErrRune,
	} {
		x.run(t, text)
		for _, w := range []*world.World{x.script, nil} {
			if s, n, e := script.Run(w, text); s != "" || n != 2 || e != want {
				t.Error(text, s, n, e)
			}
			if s, n, e := script.Run(w, strings.Repeat("round\n", api.MaxScript)); s != "" || n != 0 || e != api.ErrLong {
				t.Error(s, n, e)
			}
		}
	}
	if s := x.run(t, "round\nlookup 0 alice\nlookup 0 bob\n"); s != "ok\nis 1 "+digits("alice1")+"\nnone\n" {
		t.Error(s)
	}
}

// Where there is no world, each line's answer is an error: there is no client either.
func TestRunOfNil(t *testing.T) {
	text := "update alice 1\npublish\nround\ndeliver 1\ndrop 1\nagain 1\npoll 1\nrestart 1\nturn 1 1\nlookup 0 alice\n"
	s, n, e := script.Run(nil, text)
	if s != strings.Repeat("no 1\n", 9)+"no 20\n" || n != 0 || e != api.OK {
		t.Error(s, n, e)
	}
}

// All lines of the longest script are done.
func TestRunOfTheLongestScript(t *testing.T) {
	x := newTwin(t, 2, 1, 0)
	if s := x.run(t, strings.Repeat("drop 1\n", api.MaxScript/7)); s != strings.Repeat("no 20\n", api.MaxScript/7) {
		t.Error(len(s))
	}
}

// Scripts on one world go on where the last one ended: cut anywhere, they answer the same.
func TestRunInPieces(t *testing.T) {
	text := "update a 1\npublish\nlookup 0 a\nturn 1 7\nround\nlookup 0 a\nupdate a 2\npublish\ndrop 0\nround\nlookup 1 a\n"
	whole := newTwin(t, 2, 2, 0).run(t, text)
	lines := strings.SplitAfter(text, "\n")
	r := rand.New(rand.NewSource(1))
	for range 5 {
		x, s := newTwin(t, 2, 2, 0), ""
		for l := lines; len(l) > 0; {
			n := 1 + r.Intn(len(l))
			s += x.run(t, strings.Join(l[:n], ""))
			l = l[n:]
		}
		if s != whole {
			t.Errorf("%q, want %q", s, whole)
		}
	}
}

func TestExample(t *testing.T) {
	w, _ := world.New(2, 2, 0, cover.Rules{Slots: 2, Needed: 2})
	if s, n, e := script.Run(w, "lookup 0 alice\n"); s != "none\n" || n != 0 || e != api.OK {
		t.Error(s, n, e)
	}
}
