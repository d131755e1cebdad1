package proof

import (
	"bytes"

	"muniments/api"
	"muniments/path"
	"muniments/rlp"
)

// node is what a reference of a valid node leads to: nil if it is empty, and otherwise one of the four kinds below.
type node interface{ kind() }

// hashed is the hash of a node that stands elsewhere.
type hashed api.Word

// leaf is the trie of one pair.
type leaf struct{ path, value []byte }

// extension refers to what is behind its prefix.
type extension struct {
	prefix []byte
	sub    api.Item
}

// branch has a reference for each first nibble, and the value of the empty path.
type branch struct {
	subs  []api.Item
	value []byte
}

func (hashed) kind()    {}
func (leaf) kind()      {}
func (extension) kind() {}
func (branch) kind()    {}

// source returns the encoding of the valid node with the hash h, or why there is none.
type source func(h api.Word) ([]byte, api.Errno)

// follow returns the value of the path p in the trie with this root, or no bytes if it has none. It takes the nodes on its way from fetch, and ends at the first error.
func follow(root api.Word, p []byte, fetch source) ([]byte, api.Errno) {
	var n node = hashed(root)
	for {
		if h, ok := n.(hashed); ok {
			b, err := fetch(api.Word(h))
			if err != api.OK {
				return nil, err
			}
			n = read(b)
		}
		next, rest, ok := step(n, p)
		if !ok {
			return valueOf(n, p), api.OK
		}
		n, p = next, rest
	}
}

// step returns the node to which the path p leads from n, and the rest of the path, or false if it leads no further. No step is without a nibble.
func step(n node, p []byte) (node, []byte, bool) {
	if b, ok := n.(branch); ok && len(p) > 0 {
		return refer(b.subs[p[0]]), p[1:], true
	}
	if e, ok := n.(extension); ok && bytes.HasPrefix(p, e.prefix) {
		return refer(e.sub), p[len(e.prefix):], true
	}
	return nil, nil, false
}

// valueOf returns the value of the path p, which leads no further than to n.
func valueOf(n node, p []byte) []byte {
	if b, ok := n.(branch); ok {
		return b.value
	}
	if l, ok := n.(leaf); ok && bytes.Equal(l.path, p) {
		return l.value
	}
	return nil
}

// read returns the node that b encodes.
func read(b []byte) node {
	i, _ := rlp.Read(b)
	return nodeOf(i.List)
}

// refer returns the node to which the item i refers.
func refer(i api.Item) node {
	if i.IsList {
		return nodeOf(i.List)
	}
	if len(i.Bytes) == 0 {
		return nil
	}
	return hashed(api.Word(i.Bytes))
}

// nodeOf returns the node of the list l. Because it is valid, its length and its path tell its kind.
func nodeOf(l []api.Item) node {
	if len(l) > 2 {
		last := len(l) - 1
		return branch{l[:last], l[last].Bytes}
	}
	p, ends, _ := path.Read(l[0].Bytes)
	if ends {
		return leaf{p, l[1].Bytes}
	}
	return extension{p, l[1]}
}
