package nodes

import (
	"bytes"
	"slices"

	"muniments/api"
	"muniments/path"
)

// set returns n with the value at the path p, or with none there if value is empty. If this changes nothing, it returns n itself, and not what is behind its hash.
func (t *Tree) set(n node, p, value []byte) (node, api.Errno) {
	seen, err := t.look(n)
	if err != api.OK {
		return nil, err
	}
	switch seen := seen.(type) {
	case *leaf:
		if setsNothing(seen, p, value) {
			return n, api.OK
		}
		return setLeaf(seen, p, value), api.OK
	case *extension:
		return t.setExtension(n, seen, p, value)
	case *branch:
		return t.setBranch(n, seen, p, value)
	}
	if len(value) == 0 {
		return n, api.OK
	}
	return &leaf{p, value}, api.OK
}

// setsNothing reports whether the path p has the value in l already.
func setsNothing(l *leaf, p, value []byte) bool {
	if bytes.Equal(l.path, p) {
		return bytes.Equal(l.value, value)
	}
	return len(value) == 0
}

// setLeaf returns l with another value at the path p.
func setLeaf(l *leaf, p, value []byte) node {
	if !bytes.Equal(l.path, p) {
		n := path.Common(l.path, p)
		return fork(p[:n], l.path[n:], &leaf{value: l.value}, p[n:], value)
	}
	if len(value) == 0 {
		return nil
	}
	return &leaf{p, value}
}

// setExtension returns e with the value at the path p, or n if this changes nothing.
func (t *Tree) setExtension(n node, e *extension, p, value []byte) (node, api.Errno) {
	rest, inside := bytes.CutPrefix(p, e.prefix)
	if inside {
		sub, err := t.set(e.sub, rest, value)
		if err != api.OK || sub == e.sub {
			return n, err
		}
		return prepend(e.prefix, sub), api.OK
	}
	if len(value) == 0 {
		return n, api.OK
	}
	common := path.Common(e.prefix, p)
	return fork(p[:common], e.prefix[common:], e.sub, p[common:], value), api.OK
}

// setBranch returns b with the value at the path p, or n if this changes nothing.
func (t *Tree) setBranch(n node, b *branch, p, value []byte) (node, api.Errno) {
	next := *b
	if len(p) == 0 {
		if bytes.Equal(b.value, value) {
			return n, api.OK
		}
		next.value = value
		return t.shrink(&next)
	}
	sub, err := t.set(b.subs[p[0]], p[1:], value)
	if err != api.OK || sub == b.subs[p[0]] {
		return n, err
	}
	next.subs[p[0]] = sub
	return t.shrink(&next)
}

// shrink returns b, or what a branch becomes that has only one sub or only a value.
func (t *Tree) shrink(b *branch) (node, api.Errno) {
	only, count := 0, 0
	for d, sub := range b.subs {
		if sub != nil {
			only = d
			count++
		}
	}
	switch {
	case count == 0:
		return &leaf{value: b.value}, api.OK
	case count > 1 || len(b.value) > 0:
		return b, api.OK
	}
	sub := b.subs[only]
	seen, err := t.look(sub)
	if err != api.OK {
		return nil, err
	}
	if _, ok := seen.(*branch); !ok {
		sub = seen // its path takes up the nibble, so that it is another node
	}
	return prepend([]byte{byte(only)}, sub), api.OK
}

// fork returns the branch of old, which is at the path was, and of the value at the path p, with prefix ahead of both. The paths was and p have no common prefix.
func fork(prefix, was []byte, old node, p, value []byte) node {
	b := &branch{}
	b.place(was, old)
	b.place(p, &leaf{value: value})
	return prepend(prefix, b)
}

// place puts n at the path p; if p is empty, n is a leaf.
func (b *branch) place(p []byte, n node) {
	if len(p) > 0 {
		b.subs[p[0]] = prepend(p[1:], n)
		return
	}
	b.value = n.(*leaf).value
}

// prepend returns n with p ahead of all its paths.
func prepend(p []byte, n node) node {
	if n == nil || len(p) == 0 {
		return n
	}
	switch n := n.(type) {
	case *leaf:
		return &leaf{slices.Concat(p, n.path), n.value}
	case *extension:
		return &extension{slices.Concat(p, n.prefix), n.sub}
	}
	return &extension{p, n}
}
