package server

import (
	"slices"

	"plumbob/api"
	"plumbob/entry"
	"plumbob/policy"
	"plumbob/roster"
)

// A directory of labels and auditors. Without entries it has no labels.
type directory struct {
	entries  map[string][]entry.Entry // by label; made by the first one
	auditors *roster.Roster
}

// registered: a roster of auditors, in order.
func registered(l []roster.Auditor) (*roster.Roster, api.Errno) {
	r := roster.New()
	for _, a := range l {
		if _, e := r.Add(a); e != api.OK {
			return nil, e
		}
	}
	return r, api.OK
}

// judge an update, by what its label has.
func (x *directory) judge(u policy.Update) api.Errno {
	ahead, had := last(x.entries[u.Label])
	return policy.Judge(u, had, ahead)
}

// add a label's next entry.
func (x *directory) add(label string, next entry.Entry) {
	if x.entries == nil {
		x.entries = map[string][]entry.Entry{}
	}
	x.entries[label] = append(x.entries[label], next)
}

// copied: another directory that is as this one.
func (x *directory) copied() directory {
	c := directory{entries: map[string][]entry.Entry{}, auditors: x.auditors.Copy()}
	for label, l := range x.entries {
		c.entries[label] = slices.Clone(l)
	}
	return c
}
