package world

import (
	"strconv"

	"plumbob/api"
	"plumbob/auditor"
	"plumbob/sector"
)

const (
	auditorSectors = 64 // of each one's disk
	auditorHeight  = 4  // of each one's key
)

// The nodes that letters come to: an auditor's is 1 more than its number.
const (
	serverNode   = 0
	firstAuditor = 1
)

// An auditor's node: its disk, and who began there last.
type node struct {
	*auditor.Auditor
	disk *sector.Disk
	name string // and its key's seed
}

// newNode of the auditor of a number.
func newNode(number int) (node, api.Errno) {
	d, e := sector.New(auditorSectors)
	if e != api.OK {
		return node{}, e
	}
	n := node{disk: d, name: "auditor" + strconv.Itoa(number)}
	if e := n.open(); e != api.OK {
		return node{}, e
	}
	return n, api.OK
}

// open the auditor, from its disk.
func (n *node) open() api.Errno {
	a, e := auditor.Open(n.disk, 0, n.disk.Count(), n.name, auditorHeight)
	if e != api.OK {
		return e
	}
	n.Auditor = a
	return api.OK
}
