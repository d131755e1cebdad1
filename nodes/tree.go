package nodes

import (
	"bytes"
	"slices"

	"muniments/api"
	"muniments/path"
	"muniments/trie"
)

// A key and a value of a tree may be so long, and a path so many nibbles.
const (
	mostKey   = 64
	mostValue = 1 << 20
	mostPath  = 2 * mostKey
)

// Tree is a trie whose nodes are read from a store when they are needed.
type Tree struct {
	store *Store
	root  node
}

// Open returns the tree with this root in the store s.
func Open(s *Store, root api.Word) (*Tree, api.Errno) {
	if s == nil {
		return nil, api.ErrMissing
	}
	t := &Tree{store: s}
	if root == (api.Word{}) || root == emptyRoot() {
		return t, api.OK
	}
	t.root = hashed{hash: root}
	if _, err := t.look(t.root); err != api.OK {
		return nil, err
	}
	return t, api.OK
}

func emptyRoot() api.Word {
	root, _ := trie.Root(nil)
	return root
}

// look returns n itself, or the node that is behind it if it is a hash. What it reads from the store is not held: the store may have it no more when it is needed next.
func (t *Tree) look(n node) (node, api.Errno) {
	h, ok := n.(hashed)
	if !ok {
		return n, api.OK
	}
	if h.held != nil {
		return h.held, api.OK
	}
	b, ok := t.store.find(h.hash)
	if !ok {
		return nil, api.ErrMissing
	}
	found, ok := read(b)
	if !ok {
		return nil, api.ErrByte
	}
	return found, api.OK
}

// Get returns the value of a key, or no bytes if it has none.
func (t *Tree) Get(key []byte) ([]byte, api.Errno) {
	if len(key) > mostKey {
		return nil, api.OK
	}
	value, err := t.find(path.Split(key))
	return bytes.Clone(value), err
}

// find returns the value of the path p.
func (t *Tree) find(p []byte) ([]byte, api.Errno) {
	next := t.root
	for {
		n, err := t.look(next)
		if err != api.OK {
			return nil, err
		}
		switch n := n.(type) {
		case *leaf:
			if bytes.Equal(n.path, p) {
				return n.value, api.OK
			}
			return nil, api.OK
		case *extension:
			rest, ok := bytes.CutPrefix(p, n.prefix)
			if !ok {
				return nil, api.OK
			}
			next, p = n.sub, rest
		case *branch:
			if len(p) == 0 {
				return n.value, api.OK
			}
			next, p = n.subs[p[0]], p[1:]
		default:
			return nil, api.OK
		}
	}
}

// Put gives a key a value, or takes it from the key if value is empty.
func (t *Tree) Put(key, value []byte) api.Errno {
	if len(key) > mostKey || len(value) > mostValue {
		return api.ErrLong
	}
	next, err := t.set(t.root, path.Split(key), bytes.Clone(value))
	if err == api.OK {
		t.root = next
	}
	return err
}

// Pairs returns all pairs by rising key.
func (t *Tree) Pairs() ([]api.Pair, api.Errno) {
	c := collector{tree: t}
	if err := c.collect(t.root, nil); err != api.OK {
		return nil, err
	}
	return c.pairs, api.OK
}

// collector goes through a tree by rising path.
type collector struct {
	tree  *Tree
	pairs []api.Pair
}

// collect adds the pairs of n, which is at the path p.
func (c *collector) collect(n node, p []byte) api.Errno {
	if n == nil {
		return api.OK
	}
	// A stored node may be below itself, so that only this ends the way down.
	if len(p) > mostPath {
		return api.ErrByte
	}
	n, err := c.tree.look(n)
	if err != api.OK {
		return err
	}
	switch n := n.(type) {
	case *leaf:
		return c.add(slices.Concat(p, n.path), n.value)
	case *extension:
		return c.collect(n.sub, slices.Concat(p, n.prefix))
	case *branch:
		return c.collectBranch(n, p)
	}
	return api.OK
}

func (c *collector) collectBranch(n *branch, p []byte) api.Errno {
	if len(n.value) > 0 {
		if err := c.add(p, n.value); err != api.OK {
			return err
		}
	}
	below := append(slices.Clone(p), 0)
	for d, sub := range n.subs {
		below[len(p)] = byte(d)
		if err := c.collect(sub, below); err != api.OK {
			return err
		}
	}
	return api.OK
}

// add adds the pair of the path p.
func (c *collector) add(p, value []byte) api.Errno {
	key, ok := path.Join(p)
	if !ok || len(p) > mostPath {
		return api.ErrByte
	}
	c.pairs = append(c.pairs, api.Pair{Key: key, Value: bytes.Clone(value)})
	return api.OK
}
