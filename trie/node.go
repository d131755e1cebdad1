package trie

import (
	"bytes"
	"slices"

	"muniments/api"
	"muniments/path"
	"muniments/rlp"
)

// hashed is the length from which on an encoding is referred to by its hash, which is then no longer than it.
const hashed = 32

// entry is a pair, with the path of its key.
type entry struct{ path, value []byte }

// node is a trie: nil if it is empty, and otherwise one of the three kinds below. Its values are those of the argument, so that it lives no longer than a call.
type node interface{ kind() }

// leaf is the trie of one pair.
type leaf struct{ path, value []byte }

// extension is the trie of pairs whose paths have a common prefix: sub has the rests of the paths.
type extension struct {
	prefix []byte
	sub    node
}

// branch is the trie of pairs whose paths have no common prefix: a sub for each first nibble, and the value of the empty path.
type branch struct {
	subs  [16]node
	value []byte
}

func (*leaf) kind()      {}
func (*extension) kind() {}
func (*branch) kind()    {}

// sorted returns the entries of l by rising path, so that those with a common prefix stand together.
func sorted(l []api.Pair) []entry {
	entries := make([]entry, len(l))
	for i, p := range l {
		entries[i] = entry{path.Split(p.Key), p.Value}
	}
	slices.SortFunc(entries, func(a, b entry) int { return bytes.Compare(a.path, b.path) })
	return entries
}

// build returns the trie of the sorted entries l with the rests of their paths; the nibbles ahead of the rests, depth of them, are the same in all paths.
func build(l []entry, depth int) node {
	switch len(l) {
	case 0:
		return nil
	case 1:
		return &leaf{l[0].path[depth:], l[0].value}
	}
	first, last := l[0].path[depth:], l[len(l)-1].path[depth:]
	// The paths between the first and the last one begin with what these two have in common.
	if n := path.Common(first, last); n > 0 {
		return &extension{first[:n], build(l, depth+n)}
	}
	return fork(l, depth)
}

// fork returns the trie of entries whose rests have no common prefix.
func fork(l []entry, depth int) node {
	b := &branch{}
	if len(l[0].path) == depth {
		b.value = l[0].value
		l = l[1:]
	}
	for d := range b.subs {
		n := 0
		for n < len(l) && int(l[n].path[depth]) == d {
			n++
		}
		b.subs[d] = build(l[:n], depth+1)
		l = l[n:]
	}
	return b
}

// hasher returns the hash of the encoding of a node that is referred to by it.
type hasher func(encoding []byte) api.Word

// encode returns the encoding of n. All nodes below n that are referred to by their hash go through sum.
func encode(n node, sum hasher) []byte {
	return pack(item(n, sum))
}

// pack returns the encoding of i. It has one: a node is not long, because its values are not, and not deep, because lists in it have fewer than 32 bytes.
func pack(i api.Item) []byte {
	b, _ := rlp.Pack(i)
	return b
}

// item returns the list of n, or for an empty trie the empty byte string.
func item(n node, sum hasher) api.Item {
	if n == nil {
		return api.Item{}
	}
	if n, ok := n.(*leaf); ok {
		return list(packed(n.path, true), text(n.value))
	}
	if n, ok := n.(*extension); ok {
		return list(packed(n.prefix, false), reference(n.sub, sum))
	}
	b := n.(*branch)
	var i [len(b.subs) + 1]api.Item
	for d, sub := range b.subs {
		i[d] = reference(sub, sum)
	}
	i[len(b.subs)] = text(b.value)
	return list(i[:]...)
}

// reference returns the item by which a list refers to n.
func reference(n node, sum hasher) api.Item {
	i := item(n, sum)
	b := pack(i)
	if len(b) < hashed {
		return i
	}
	h := sum(b)
	return text(h[:])
}

func list(i ...api.Item) api.Item { return api.Item{IsList: true, List: i} }

func text(b []byte) api.Item { return api.Item{Bytes: b} }

// packed returns the item of a path.
func packed(p []byte, leaf bool) api.Item {
	b, _ := path.Pack(p, leaf)
	return text(b)
}
