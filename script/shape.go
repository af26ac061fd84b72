package script

import (
	"slices"
	"strconv"

	"plumbob/api"
	"plumbob/label"
	"plumbob/world"
)

// The kinds of args: what of a step each is.
const (
	kindN     = 'n' // a number
	kindM     = 'm' // another one
	kindLabel = 'l'
)

const (
	maxDigits = 6 // of a number
	lookup    = 0 // a line that is none of a world's steps
)

// A shape of lines: their word, the kinds of their args, and of their step.
type shape struct {
	word string
	args string // a rune each
	step int
}

var shapes = [...]shape{
	{"update", "ln", world.Update},
	{"publish", "", world.Publish},
	{"round", "", world.Round},
	{"deliver", "n", world.Deliver},
	{"drop", "n", world.Drop},
	{"again", "n", world.Again},
	{"poll", "n", world.Poll},
	{"restart", "n", world.Restart},
	{"turn", "nm", world.Turn},
	{"lookup", "nl", lookup},
}

func shapeOf(word string) (shape, bool) {
	for _, s := range shapes {
		if s.word == word {
			return s, true
		}
	}
	return shape{}, false
}

// check args: what is wrong first.
func (s shape) check(args []string) api.Errno {
	if len(args) != len(s.args) || slices.Contains(args, "") {
		return api.ErrCount
	}
	for i, kind := range s.args {
		if e := checkArg(kind, args[i]); e != api.OK {
			return e
		}
	}
	return api.OK
}

func checkArg(kind rune, arg string) api.Errno {
	if kind != kindLabel {
		_, e := number(arg)
		return e
	}
	normal, e := label.Normal(arg)
	if e == api.OK && normal != arg {
		return api.ErrForm
	}
	return e
}

// number of its decimal digits: as it would be written itself.
func number(arg string) (int, api.Errno) {
	n, err := strconv.Atoi(arg)
	if err != nil || n < 0 || len(arg) > maxDigits || strconv.Itoa(n) != arg {
		return 0, api.ErrNum
	}
	return n, api.OK
}

// step of a line that was parsed.
func (l Line) step() world.Step {
	s, _ := shapeOf(l.Word)
	x := world.Step{Kind: s.step}
	for i, kind := range s.args {
		switch kind {
		case kindN:
			x.N, _ = number(l.Args[i])
		case kindM:
			x.M, _ = number(l.Args[i])
		case kindLabel:
			x.Text = l.Args[i]
		}
	}
	return x
}
