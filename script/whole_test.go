package script_test

import (
	"strings"
	"testing"

	"plumbob/api"
	"plumbob/auditor"
	"plumbob/cover"
	"plumbob/entry"
	"plumbob/label"
	"plumbob/policy"
	"plumbob/proof"
	"plumbob/roster"
	"plumbob/sector"
	"plumbob/server"
	"plumbob/sha"
	"plumbob/signer"
	"plumbob/smt"
	"plumbob/xmss"
)

// The document's ten examples of the whole; P2.

func keyOf(seed string, height int) *xmss.Key {
	k, _ := xmss.New(seed, height)
	return k
}

func ownerKey(owner string) xmss.Public { return keyOf("owner"+owner, 0).Public() }

func TestExampleOfLabelsAndDigests(t *testing.T) {
	if s, e := label.Normal("Alice@Example.org"); e != api.OK || s != "alice@example.org" {
		t.Error(s, e)
	}
	if s := sha.Hex(sha.Sum("abc")); !strings.HasPrefix(s, "ba7816bf") {
		t.Error(s)
	}
}

func TestExampleOfSignatures(t *testing.T) {
	k := keyOf("seed", 2)
	for i := range k.Count() {
		s, e := k.Sign(i, "one")
		if e != api.OK || !k.Public().Verify("one", s) || k.Public().Verify("another", s) {
			t.Error(i, e)
		}
	}
}

// Wherever the power fails: no index is used by two messages.
func TestExampleOfASignersPower(t *testing.T) {
	for n := range 12 {
		for _, keep := range []uint8{0, 1, 40, 64} {
			d, _ := sector.New(8)
			used := map[int]bool{}
			for _, message := range []string{"one", "two", "three"} {
				s, e := signer.Open(d, 0, 8, "seed", 3)
				if e != api.OK {
					t.Fatal(n, keep, e)
				}
				if message == "two" {
					d.Fuse(n, keep)
				}
				for range 2 {
					if x, e := s.Sign(message); e == api.OK {
						if used[x.Index] {
							t.Fatal(n, keep, x.Index)
						}
						used[x.Index] = true
					}
				}
				d.Cut(keep)
				d.Fuse(-1)
				d.Start()
			}
			if len(used) < 4 {
				t.Fatal(n, keep, used)
			}
		}
	}
}

func TestExampleOfTreesAndProofs(t *testing.T) {
	key := sha.Tagged(11, "a")
	tree := smt.New()
	tree.Put(key, "a value")
	if tree.Root() != smt.Leaf(key, "a value") {
		t.Error("of one key the root isn't its leaf's node")
	}
	p, e := proof.Prove(smt.New(), key, 0)
	if e != api.OK || !p.Lacks(smt.New().Root(), key, 0) || p.Lacks(tree.Root(), key, 0) {
		t.Error(e)
	}
}

func TestExampleOfUpdates(t *testing.T) {
	one := entry.Entry{Version: 1, Key: keyOf("one", 1).Public(), Prev: strings.Repeat("\x00", 16)}
	two := entry.Entry{Version: 2, Key: keyOf("two", 1).Public(), Prev: one.Value()}
	u, e := policy.Sign(keyOf("two", 1), 0, "alice", two)
	if e != api.OK || policy.Judge(u, true, one) != api.ErrSig {
		t.Error(e, policy.Judge(u, true, one))
	}
}

// An auditor that is asked for two headers of one epoch, and a certificate with its votes.
func TestExampleOfAuditors(t *testing.T) {
	d, _ := sector.New(40)
	a, e := auditor.Open(d, 0, 40, "seed", 3)
	if e != api.OK {
		t.Fatal(e)
	}
	sam := roster.Auditor{Name: "sam", Key: a.Public()}
	var servers []*server.Server
	for range 2 {
		disk, _ := sector.New(100)
		s, e := server.New(disk, 0, 100, 1, sam)
		if e != api.OK {
			t.Fatal(e)
		}
		servers = append(servers, s)
	}
	if _, e := servers[1].Register(roster.Auditor{Name: "eve", Key: keyOf("eve", 1).Public()}); e != api.OK {
		t.Fatal(e)
	}
	ahead := servers[0].Headers()[0]
	h, l, _ := servers[0].Publish()
	rival, rivals, _ := servers[1].Publish()
	c := cover.Certificate{Header: h}
	for b := range l {
		v := cover.Vote{Auditor: sam}
		if v.Attestation, e = a.Attest(0, ahead, h, l[b]); e != api.OK {
			t.Fatal(b, e)
		}
		_, v.Proof, _ = servers[0].Member(0, 0)
		c.Votes = append(c.Votes, v)
		if _, e := a.Attest(0, ahead, rival, rivals[b]); e != api.ErrTwice {
			t.Error(b, e)
		}
	}
	rules := cover.Rules{Slots: 1, Needed: 1}
	if e := c.Check(ahead, 1, rules); e != api.OK {
		t.Error(e)
	}
	c.Votes = c.Votes[:1]
	if e := c.Check(ahead, 1, rules); e != api.ErrCover {
		t.Error(e)
	}
}

func TestExampleOfAWorld(t *testing.T) {
	for clients := range 4 {
		x := newTwin(t, 3, clients+1, 1)
		x.run(t, "update alice 1\npublish\nround\n")
		for i := range clients + 1 {
			if n := len(x.script.Client(i).Headers()); n != 2 {
				t.Error(clients, i, n)
			}
		}
	}
}
