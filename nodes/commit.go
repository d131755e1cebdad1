package nodes

import (
	"muniments/api"
	"muniments/keccak"
	"muniments/rlp"
)

// Commit returns the root of the tree, and those of its nodes by rising hash that are new since the last time and not in the store.
func (t *Tree) Commit() (api.Word, []api.Node) {
	if t.root == nil {
		return emptyRoot(), nil
	}
	c := committer{store: t.store}
	settled := c.settle(t.root)
	root, ok := settled.(hashed)
	if !ok {
		root = c.keep(settled, encode(settled)) // the root has a hash, however short it is
	}
	t.root = root
	return root.hash, sorted(c.found)
}

// committer gives the nodes of a tree their hashes.
type committer struct {
	store *Store
	found []api.Node
}

// settle returns n as the tree goes on with it: whatever in it is referred to by its hash is hashed. What is hashed already was not changed, nor was anything below it.
func (c *committer) settle(n node) node {
	switch old := n.(type) {
	case *leaf:
		return c.shorten(old)
	case *extension:
		return c.shorten(&extension{old.prefix, c.settle(old.sub)})
	case *branch:
		next := &branch{value: old.value}
		for d, sub := range old.subs {
			next.subs[d] = c.settle(sub)
		}
		return c.shorten(next)
	}
	return n
}

// shorten returns n, or its hash if its encoding is longer than that. All below n is settled.
func (c *committer) shorten(n node) node {
	b := encode(n)
	if len(b) < wide {
		return n
	}
	return c.keep(n, b)
}

// keep returns the hash of n, whose encoding is b.
func (c *committer) keep(n node, b []byte) hashed {
	h := keccak.Sum(b)
	if _, known := c.store.find(h); !known {
		c.found = append(c.found, api.Node{Hash: h, Bytes: b})
	}
	return hashed{h, n}
}

// encode returns the encoding of n. It has one: what is too long for it is longer than the nodes of any trie.
func encode(n node) []byte {
	b, _ := rlp.Pack(n.reference())
	return b
}
