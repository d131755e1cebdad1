package nodes

import (
	"muniments/api"
	"muniments/path"
	"muniments/rlp"
)

// wide is the length from which on an encoding is referred to by its hash, which is then no longer than it.
const wide = len(api.Word{})

// node is a trie: nil if it is empty, and otherwise one of the four kinds below. A node is never changed, so that a tree and the one that it becomes may have parts in common.
type node interface {
	// reference is the item by which another node refers to this one. Its list stands in the other one's, unless it is hashed.
	reference() api.Item
}

// hashed is a hash that was not looked at, with no held node; or a node that was committed, which the tree holds because it need not be in the store.
type hashed struct {
	hash api.Word
	held node
}

// leaf is the trie of one pair.
type leaf struct{ path, value []byte }

// extension is the trie of pairs whose paths have a common prefix: sub has the rests of the paths.
type extension struct {
	prefix []byte
	sub    node
}

// branch is the trie of pairs whose paths have no common prefix: a sub for each first nibble, and the value of the empty path.
type branch struct {
	subs  [16]node
	value []byte
}

func (n hashed) reference() api.Item { return text(n.hash[:]) }

func (n *leaf) reference() api.Item { return list(packed(n.path, true), text(n.value)) }

func (n *extension) reference() api.Item { return list(packed(n.prefix, false), refer(n.sub)) }

func (n *branch) reference() api.Item {
	var i [len(n.subs) + 1]api.Item
	for d, sub := range n.subs {
		i[d] = refer(sub)
	}
	i[len(n.subs)] = text(n.value)
	return list(i[:]...)
}

// refer returns the item by which a node refers to sub.
func refer(sub node) api.Item {
	if sub == nil {
		return api.Item{}
	}
	return sub.reference()
}

func list(i ...api.Item) api.Item { return api.Item{IsList: true, List: i} }

func text(b []byte) api.Item { return api.Item{Bytes: b} }

// packed returns the item of a path.
func packed(p []byte, leaf bool) api.Item {
	b, _ := path.Pack(p, leaf)
	return text(b)
}

// read returns the node that b encodes, or false if it is not a valid one.
func read(b []byte) (node, bool) {
	i, err := rlp.Read(b)
	if err != api.OK || !i.IsList {
		return nil, false
	}
	return readList(i.List)
}

func readList(l []api.Item) (node, bool) {
	switch len(l) {
	case 2:
		return readShort(l[0], l[1])
	case len(branch{}.subs) + 1:
		return readBranch(l)
	}
	return nil, false
}

// readShort returns the leaf or the extension of two items.
func readShort(first, second api.Item) (node, bool) {
	p, ends, ok := path.Read(first.Bytes)
	if first.IsList || !ok {
		return nil, false
	}
	if ends {
		return &leaf{p, second.Bytes}, isValue(second)
	}
	sub, ok := readReference(second)
	if !ok || len(p) == 0 {
		return nil, false
	}
	if _, ok := sub.(hashed); ok {
		return &extension{p, sub}, true
	}
	_, ok = sub.(*branch)
	return &extension{p, sub}, ok
}

// readBranch returns the branch of 17 items.
func readBranch(l []api.Item) (node, bool) {
	b := &branch{}
	count := 0
	for d := range b.subs {
		sub, ok := readReference(l[d])
		if !ok {
			return nil, false
		}
		if sub != nil {
			count++
		}
		b.subs[d] = sub
	}
	last := l[len(b.subs)]
	if isValue(last) {
		count++
	}
	b.value = last.Bytes
	return b, !last.IsList && count >= 2
}

// isValue reports whether i is a value that a key has.
func isValue(i api.Item) bool { return !i.IsList && len(i.Bytes) > 0 }

// readReference returns the node to which i refers.
func readReference(i api.Item) (node, bool) {
	if i.IsList {
		b, err := rlp.Pack(i)
		if err != api.OK || len(b) >= wide {
			return nil, false
		}
		return readList(i.List)
	}
	switch len(i.Bytes) {
	case 0:
		return nil, true
	case wide:
		return hashed{hash: api.Word(i.Bytes)}, true
	}
	return nil, false
}
