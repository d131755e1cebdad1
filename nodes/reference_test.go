package nodes_test

import (
	"bytes"
	"encoding/hex"
	"fmt"
	"maps"
	"slices"
	"strings"

	"muniments/api"
	"muniments/keccak"
	"muniments/nodes"
	"muniments/rlp"
)

// The reference: the words of chapters 6 and 7, spelled out plainly over maps from a path, written as hexadecimal digits, to a value. An item is a []byte, or a list of items as []any.

const digits = "0123456789abcdef"

type refTrie map[string][]byte

// under has the pairs whose path begins with prefix, with the rests of the paths.
func (t refTrie) under(prefix string) refTrie {
	rest := refTrie{}
	for p, v := range t {
		if after, ok := strings.CutPrefix(p, prefix); ok {
			rest[after] = v
		}
	}
	return rest
}

// prefix is the longest prefix of all paths.
func (t refTrie) prefix() string {
	paths := slices.Collect(maps.Keys(t))
	all := paths[0]
	for _, p := range paths {
		for !strings.HasPrefix(p, all) {
			all = all[:len(all)-1]
		}
	}
	return all
}

// list is the list of a trie that is not empty.
func (t refTrie) list() []any {
	prefix := t.prefix()
	if len(t) == 1 {
		return []any{refPath(prefix, 2), t[prefix]}
	}
	if prefix != "" {
		return []any{refPath(prefix, 0), t.under(prefix).reference()}
	}
	var l []any
	for _, d := range digits {
		l = append(l, t.under(string(d)).reference())
	}
	return append(l, t[""])
}

// encoding is that of a trie that is not empty.
func (t refTrie) encoding() []byte { return refPack(t.list()) }

// reference is the item by which a list refers to t.
func (t refTrie) reference() any {
	if len(t) == 0 {
		return []byte(nil)
	}
	if b := t.encoding(); len(b) >= 32 {
		h := keccak.Sum(b)
		return h[:]
	}
	return t.list()
}

// root is the hash of the trie.
func (t refTrie) root() api.Word {
	if len(t) == 0 {
		return keccak.Sum([]byte{128})
	}
	return keccak.Sum(t.encoding())
}

// at has the encodings of the root and of all nodes that are referred to by their hash, by their paths.
func (t refTrie) at() map[string][]byte {
	all := map[string][]byte{}
	if len(t) > 0 {
		all[""] = t.encoding()
		t.below("", all)
	}
	return all
}

// below adds the nodes that are in t, which is at the path p, and are not t.
func (t refTrie) below(p string, all map[string][]byte) {
	prefix := t.prefix()
	next := []string{}
	if len(t) > 1 && prefix != "" {
		next = append(next, prefix)
	}
	if len(t) > 1 && prefix == "" {
		next = strings.Split(digits, "")
	}
	for _, step := range next {
		sub := t.under(step)
		if len(sub) == 0 {
			continue
		}
		if b := sub.encoding(); len(b) >= 32 {
			all[p+step] = b
		}
		sub.below(p+step, all)
	}
}

// nodes is a list of what at has, each node once, by rising hash.
func (t refTrie) nodes() []api.Node { return nodesOf(slices.Collect(maps.Values(t.at()))...) }

// nodesOf has a node for each encoding, each hash once, by rising hash.
func nodesOf(encodings ...[]byte) []api.Node {
	all := map[api.Word][]byte{}
	for _, b := range encodings {
		all[keccak.Sum(b)] = b
	}
	return listOf(all)
}

// listOf has the nodes of a map by rising hash.
func listOf(all map[api.Word][]byte) []api.Node {
	l := []api.Node{}
	for h, b := range all {
		l = append(l, api.Node{Hash: h, Bytes: b})
	}
	slices.SortFunc(l, func(a, b api.Node) int { return strings.Compare(string(a.Hash[:]), string(b.Hash[:])) })
	return l
}

// pairs has the pairs by rising key.
func (t refTrie) pairs() []api.Pair {
	var l []api.Pair
	for _, p := range slices.Sorted(maps.Keys(t)) {
		l = append(l, api.Pair{Key: unhex(p), Value: t[p]})
	}
	return l
}

// onPath has the paths of the nodes that are examined on the path p, from the root.
func (t refTrie) onPath(p string) []string {
	var l []string
	all := t.at()
	for n := range len(p) + 1 {
		if _, ok := all[p[:n]]; ok {
			l = append(l, p[:n])
		}
	}
	return l
}

// left is the path of the child with which a branch would be left without the value of the path p, and true, if there is one.
func (t refTrie) left(p string) (string, bool) {
	for n := range len(p) + 1 {
		here := t.under(p[:n])
		if len(here) < 2 || here.prefix() != "" {
			continue
		}
		after := maps.Clone(here)
		delete(after, p[n:])
		before, now := here.elements(), after.elements()
		if len(before) == 2 && len(now) == 1 && now[0] != "" {
			return p[:n] + now[0], true
		}
	}
	return "", false
}

// elements has what is not empty in the branch t: the digits with a child, and no digit for a value.
func (t refTrie) elements() []string {
	firsts := map[string]bool{}
	for p := range t {
		firsts[p[:min(1, len(p))]] = true
	}
	return slices.Collect(maps.Keys(firsts))
}

// refPath is the hex prefix encoding; kind is 2 for a leaf and 0 for an extension.
func refPath(p string, kind int) []byte {
	if len(p)%2 == 0 {
		p = "0" + p
	} else {
		kind++
	}
	return unhex(fmt.Sprint(kind) + p)
}

// unhex is the bytes that the digits of text spell.
func unhex(text string) []byte {
	b, err := hex.DecodeString(text)
	if err != nil {
		panic(err)
	}
	return b
}

// refPack is the encoding of a byte string or of a list.
func refPack(i any) []byte {
	if l, ok := i.([]any); ok {
		var body []byte
		for _, sub := range l {
			body = append(body, refPack(sub)...)
		}
		return append(refHead(192, len(body)), body...)
	}
	b := i.([]byte)
	if len(b) == 1 && b[0] < 128 {
		return b
	}
	return append(refHead(128, len(b)), b...)
}

func refHead(kind, n int) []byte {
	if n < 56 {
		return []byte{byte(kind + n)}
	}
	size := []byte{byte(n)}
	for n >>= 8; n > 0; n >>= 8 {
		size = append([]byte{byte(n)}, size...)
	}
	return append([]byte{byte(kind + 55 + len(size))}, size...)
}

// The reader: it takes nodes as they stand in a store, good or bad, and asks the store for each of them anew.

// refPlain is what i is as a []byte or a []any.
func refPlain(i api.Item) any {
	if !i.IsList {
		return i.Bytes
	}
	l := []any{}
	for _, sub := range i.List {
		l = append(l, refPlain(sub))
	}
	return l
}

// refExamine is the list of a node in s.
func refExamine(s *nodes.Store, h []byte) ([]any, api.Errno) {
	b, ok := s.Get(api.Word(h))
	if !ok {
		return nil, api.ErrMissing
	}
	i, err := rlp.Read(b)
	if err != api.OK {
		return nil, api.ErrByte
	}
	l, ok := refPlain(i).([]any)
	if !ok || refKind(l) == "" {
		return nil, api.ErrByte
	}
	return l, api.OK
}

// refKind is which kind of a valid node l is, or no text if it is none.
func refKind(l []any) string {
	if len(l) == 17 {
		full := 0
		for d, i := range l {
			sub, isList := i.([]any)
			b, _ := i.([]byte)
			switch {
			case isList && (d == 16 || refKind(sub) == "" || len(refPack(sub)) >= 32):
				return ""
			case !isList && d < 16 && len(b) != 0 && len(b) != 32:
				return ""
			case isList || len(b) > 0:
				full++
			}
		}
		if full < 2 {
			return ""
		}
		return "branch"
	}
	if len(l) != 2 {
		return ""
	}
	p, kind := refNibbles(l[0])
	sub, isList := l[1].([]any)
	b, _ := l[1].([]byte)
	switch {
	case kind == "leaf" && !isList && len(b) > 0:
		return "leaf"
	case kind == "extension" && p != "" && !isList && len(b) == 32:
		return "extension"
	case kind == "extension" && p != "" && isList && refKind(sub) == "branch" && len(refPack(sub)) < 32:
		return "extension"
	}
	return ""
}

// refNibbles is the path that i encodes, and of which kind of node, or no kind if it is none.
func refNibbles(i any) (string, string) {
	b, ok := i.([]byte)
	text := hex.EncodeToString(b)
	switch {
	case !ok || text == "":
		return "", ""
	case text[:2] == "00":
		return text[2:], "extension"
	case text[0] == '1':
		return text[1:], "extension"
	case text[:2] == "20":
		return text[2:], "leaf"
	case text[0] == '3':
		return text[1:], "leaf"
	}
	return "", ""
}

// refList is the list of a reference that is not empty.
func refList(s *nodes.Store, i any) ([]any, api.Errno) {
	if l, ok := i.([]any); ok {
		return l, api.OK
	}
	return refExamine(s, i.([]byte))
}

func refEmpty(i any) bool {
	b, ok := i.([]byte)
	return ok && len(b) == 0
}

// refGet is the value of the path p below the reference i.
func refGet(s *nodes.Store, i any, p string) ([]byte, api.Errno) {
	if refEmpty(i) {
		return nil, api.OK
	}
	l, err := refList(s, i)
	if err != api.OK {
		return nil, err
	}
	if refKind(l) == "branch" {
		if p == "" {
			return l[16].([]byte), api.OK
		}
		return refGet(s, l[strings.Index(digits, p[:1])], p[1:])
	}
	mine, kind := refNibbles(l[0])
	rest, ok := strings.CutPrefix(p, mine)
	switch {
	case ok && kind == "extension":
		return refGet(s, l[1], rest)
	case ok && rest == "":
		return l[1].([]byte), api.OK
	}
	return nil, api.OK
}

// refPairs is the pairs below the reference i, which is at the path p.
func refPairs(s *nodes.Store, i any, p string) ([]api.Pair, api.Errno) {
	if refEmpty(i) {
		return nil, api.OK
	}
	if len(p) > 128 {
		return nil, api.ErrByte
	}
	l, err := refList(s, i)
	if err != api.OK {
		return nil, err
	}
	switch refKind(l) {
	case "leaf":
		mine, _ := refNibbles(l[0])
		return refPair(p+mine, l[1].([]byte))
	case "extension":
		mine, _ := refNibbles(l[0])
		return refPairs(s, l[1], p+mine)
	}
	var all []api.Pair
	if !refEmpty(l[16]) {
		if all, err = refPair(p, l[16].([]byte)); err != api.OK {
			return nil, err
		}
	}
	for d := range digits {
		sub, err := refPairs(s, l[d], p+digits[d:d+1])
		if err != api.OK {
			return nil, err
		}
		all = append(all, sub...)
	}
	return all, api.OK
}

// refPair is the pair of the path p.
func refPair(p string, value []byte) ([]api.Pair, api.Errno) {
	if len(p) > 128 || len(p)%2 == 1 {
		return nil, api.ErrByte
	}
	return []api.Pair{{Key: unhex(p), Value: value}}, api.OK
}

func sameNodes(a, b []api.Node) bool {
	return slices.EqualFunc(a, b, func(x, y api.Node) bool { return x.Hash == y.Hash && bytes.Equal(x.Bytes, y.Bytes) })
}

func samePairs(a, b []api.Pair) bool {
	return slices.EqualFunc(a, b, func(x, y api.Pair) bool { return bytes.Equal(x.Key, y.Key) && bytes.Equal(x.Value, y.Value) })
}
