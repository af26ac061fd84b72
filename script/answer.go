package script

import (
	"strconv"
	"strings"

	"plumbob/api"
	"plumbob/entry"
	"plumbob/sha"
	"plumbob/world"
)

// The words of answers.
const (
	wordOK   = "ok"
	wordNo   = "no"
	wordNone = "none"
	wordIs   = "is"
)

const rootDigits = 8 // of a key's root, hexadecimal

// do a step, or look up: the answer.
func do(w *world.World, x world.Step) string {
	if x.Kind == lookup {
		return look(w, x.N, x.Text)
	}
	if e := w.Do(x); e != api.OK {
		return no(e)
	}
	return wordOK
}

// look a label up, and check what the server answers by a client's last header.
func look(w *world.World, number int, label string) string {
	c := w.Client(number)
	if c == nil {
		return no(api.ErrNone)
	}
	a, _ := w.Server().Lookup(label) // no error: a world with clients has a server
	x, there, e := c.Check(a)
	switch {
	case e != api.OK:
		return no(e)
	case !there:
		return wordNone
	}
	return is(x)
}

func no(e api.Errno) string { return parted(wordNo, strconv.Itoa(int(e))) }

// is there: what was checked has a value, so its key's root has all its bytes.
func is(x entry.Entry) string {
	return parted(wordIs, strconv.FormatUint(x.Version, 10), sha.Hex(x.Key.Root)[:rootDigits])
}

func parted(words ...string) string { return strings.Join(words, blank) }
