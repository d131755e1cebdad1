package trie_test

import (
	"bytes"
	"encoding/hex"
	"fmt"
	"maps"
	"slices"
	"strings"

	"muniments/api"
	"muniments/keccak"
	"muniments/path"
	"muniments/rlp"
)

// The reference: the chapter's words, spelled out plainly over maps from a path, written as hexadecimal digits, to a value. An item is a []byte, or a list of items as []any.

const digits = "0123456789abcdef"

type refTrie map[string][]byte

// refOf is the trie of l.
func refOf(l []api.Pair) refTrie {
	t := refTrie{}
	for _, p := range l {
		t[fmt.Sprintf("%x", p.Key)] = p.Value
	}
	return t
}

// under has the pairs whose path begins with prefix, with the rests of the paths.
func (t refTrie) under(prefix string) refTrie {
	rest := refTrie{}
	for p, v := range t {
		if after, ok := strings.CutPrefix(p, prefix); ok {
			rest[after] = v
		}
	}
	return rest
}

// prefix is the longest prefix of all paths.
func (t refTrie) prefix() string {
	paths := slices.Collect(maps.Keys(t))
	all := paths[0]
	for _, p := range paths {
		for !strings.HasPrefix(p, all) {
			all = all[:len(all)-1]
		}
	}
	return all
}

// list is the list of a trie that is not empty.
func (t refTrie) list() []any {
	prefix := t.prefix()
	if len(t) == 1 {
		return []any{refPath(prefix, 2), t[prefix]}
	}
	if prefix != "" {
		return []any{refPath(prefix, 0), t.under(prefix).reference()}
	}
	var l []any
	for _, d := range digits {
		l = append(l, t.under(string(d)).reference())
	}
	return append(l, t[""])
}

// reference is the item by which a list refers to t.
func (t refTrie) reference() any {
	if len(t) == 0 {
		return []byte(nil)
	}
	if b := refPack(t.list()); len(b) >= 32 {
		h := keccak.Sum(b)
		return h[:]
	}
	return t.list()
}

// root is the hash of the trie.
func (t refTrie) root() api.Word {
	if len(t) == 0 {
		return keccak.Sum([]byte{128})
	}
	return keccak.Sum(refPack(t.list()))
}

// nodes has the encodings by their hashes.
func (t refTrie) nodes() map[api.Word][]byte {
	all := map[api.Word][]byte{}
	if len(t) > 0 {
		b := refPack(t.list())
		all[keccak.Sum(b)] = b
		t.below(all)
	}
	return all
}

// below adds the nodes that are in t and are not t.
func (t refTrie) below(all map[api.Word][]byte) {
	prefix := t.prefix()
	subs := []refTrie{}
	if prefix != "" && len(t) > 1 {
		subs = append(subs, t.under(prefix))
	}
	if prefix == "" && len(t) > 1 {
		for _, d := range digits {
			subs = append(subs, t.under(string(d)))
		}
	}
	for _, sub := range subs {
		if len(sub) == 0 {
			continue
		}
		if b := refPack(sub.list()); len(b) >= 32 {
			all[keccak.Sum(b)] = b
		}
		sub.below(all)
	}
}

// refPath is the hex prefix encoding; kind is 2 for a leaf and 0 for an extension.
func refPath(p string, kind int) []byte {
	if len(p)%2 == 0 {
		p = "0" + p
	} else {
		kind++
	}
	return unhex(fmt.Sprint(kind) + p)
}

// unhex is the bytes that the digits of text spell.
func unhex(text string) []byte {
	b, err := hex.DecodeString(text)
	if err != nil {
		panic(err)
	}
	return b
}

// refPack is the encoding of a byte string or of a list.
func refPack(i any) []byte {
	if l, ok := i.([]any); ok {
		var body []byte
		for _, sub := range l {
			body = append(body, refPack(sub)...)
		}
		return append(refHead(192, len(body)), body...)
	}
	b := i.([]byte)
	if len(b) == 1 && b[0] < 128 {
		return b
	}
	return append(refHead(128, len(b)), b...)
}

func refHead(kind, n int) []byte {
	if n < 56 {
		return []byte{byte(kind + n)}
	}
	size := []byte{byte(n)}
	for n >>= 8; n > 0; n >>= 8 {
		size = append([]byte{byte(n)}, size...)
	}
	return append([]byte{byte(kind + 55 + len(size))}, size...)
}

// The reader: it goes the other way, from the nodes to the pairs.

type reader struct {
	nodes map[api.Word][]byte
	used  map[api.Word]bool
	pairs refTrie
}

// readAll is the pairs that the nodes below root have. It fails if one is missing, or one is left.
func readAll(root api.Word, nodes []api.Node) (refTrie, error) {
	r := reader{map[api.Word][]byte{}, map[api.Word]bool{}, refTrie{}}
	for _, n := range nodes {
		r.nodes[n.Hash] = n.Bytes
	}
	if root != keccak.Sum([]byte{128}) {
		if err := r.byHash(root[:], ""); err != nil {
			return nil, err
		}
	}
	if len(r.used) != len(nodes) {
		return nil, fmt.Errorf("%d of %d nodes are reached", len(r.used), len(nodes))
	}
	return r.pairs, nil
}

func (r *reader) byHash(h []byte, at string) error {
	b, ok := r.nodes[api.Word(h)]
	if !ok {
		return fmt.Errorf("no node %x at %s", h, at)
	}
	if keccak.Sum(b) != api.Word(h) {
		return fmt.Errorf("a wrong hash %x", h)
	}
	r.used[api.Word(h)] = true
	i, err := rlp.Read(b)
	if err != api.OK || !i.IsList {
		return fmt.Errorf("node %x isn't a list: %d", h, err)
	}
	return r.list(i.List, at)
}

func (r *reader) reference(i api.Item, at string) error {
	if i.IsList {
		if b, _ := rlp.Pack(i); len(b) >= 32 {
			return fmt.Errorf("a list of %d bytes at %s", len(b), at)
		}
		return r.list(i.List, at)
	}
	if len(i.Bytes) != 32 {
		return fmt.Errorf("a reference of %d bytes at %s", len(i.Bytes), at)
	}
	if b := r.nodes[api.Word(i.Bytes)]; len(b) < 32 {
		return fmt.Errorf("a hash of %d bytes at %s", len(b), at)
	}
	return r.byHash(i.Bytes, at)
}

func (r *reader) list(l []api.Item, at string) error {
	if len(l) == 17 {
		for d, i := range l[:16] {
			if i.IsList || len(i.Bytes) > 0 {
				if err := r.reference(i, at+digits[d:d+1]); err != nil {
					return err
				}
			}
		}
		if len(l[16].Bytes) > 0 {
			r.pairs[at] = l[16].Bytes
		}
		return nil
	}
	if len(l) != 2 {
		return fmt.Errorf("a list of %d items", len(l))
	}
	p, leaf, ok := path.Read(l[0].Bytes)
	if !ok {
		return fmt.Errorf("no path: %x", l[0].Bytes)
	}
	for _, d := range p {
		at += digits[d : d+1]
	}
	if !leaf {
		return r.reference(l[1], at)
	}
	r.pairs[at] = l[1].Bytes
	return nil
}

// same reports whether two tries have the same pairs.
func (t refTrie) same(other refTrie) bool {
	return maps.EqualFunc(t, other, bytes.Equal)
}
