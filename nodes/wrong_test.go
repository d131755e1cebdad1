package nodes_test

import (
	"bytes"
	"fmt"
	"maps"
	"slices"
	"strings"
	"testing"

	"muniments/api"
	"muniments/keccak"
	"muniments/nodes"
)

// Items of lists that are nodes.

var none = []byte(nil)

// long is a byte string of so many bytes, none of which encodes itself.
func long(n int) []byte { return bytes.Repeat([]byte{200}, n) }

// aLeaf is the list of a leaf.
func aLeaf(p string, value []byte) []any { return []any{refPath(p, 2), value} }

// anExtension is the list of an extension.
func anExtension(p string, sub any) []any { return []any{refPath(p, 0), sub} }

// aBranch is the list of a branch with these elements at the places that text has for them, as digits, and v for the value.
func aBranch(places string, elements ...any) []any {
	l := slices.Repeat([]any{none}, 17)
	for i, c := range places {
		l[max(strings.IndexRune(digits, c), 16*strings.Count(places[i:i+1], "v"))] = elements[i]
	}
	return l
}

// word is a hash as an item.
func word(n int) []byte {
	h := hash(n)
	return h[:]
}

// small is the list of a branch with fewer than 32 bytes.
var small = aBranch("12", aLeaf("", long(1)), aLeaf("", long(1)))

// validLists has lists that are valid nodes, and wrongLists ones that aren't.
var validLists = map[string][]any{
	"a leaf":                                   aLeaf("12", long(40)),
	"a leaf with an odd path":                  aLeaf("123", []byte{1}),
	"a leaf without a path":                    aLeaf("", []byte{0}),
	"a leaf with a path of 300 nibbles":        aLeaf(strings.Repeat("1", 300), []byte{1}),
	"a leaf with a value of 2^20 + 1 bytes":    aLeaf("12", long(1<<20+1)),
	"an extension to a hash":                   anExtension("1", word(1)),
	"an extension with an even path":           anExtension("12", word(1)),
	"an extension to the hash 0":               anExtension("1", word(0)),
	"an extension with a path of 300 nibbles":  anExtension(strings.Repeat("1", 300), word(1)),
	"an extension to a branch":                 anExtension("123", small),
	"an extension to a branch with 31 bytes":   anExtension("1", aBranch("12", aLeaf("", long(5)), aLeaf("", long(4)))),
	"a branch with two hashes":                 aBranch("0f", word(1), word(2)),
	"a branch with a hash twice":               aBranch("0f", word(1), word(1)),
	"a branch with a hash and a value":         aBranch("7v", word(1), long(1)),
	"a branch with a value of the byte 0":      aBranch("7v", word(1), []byte{0}),
	"a branch with leaves":                     aBranch("01", aLeaf("1", long(1)), aLeaf("", long(1))),
	"a branch with a leaf of 31 bytes":         aBranch("01", aLeaf("", long(28)), word(1)),
	"a branch with a leaf and a value":         aBranch("fv", aLeaf("12", long(3)), long(50)),
	"a branch with an extension to a branch":   aBranch("3v", anExtension("1", small), long(1)),
	"a branch with a branch":                   aBranch("3v", small, long(1)),
	"a branch with everything":                 append(slices.Repeat([]any{word(1)}, 16), long(40)),
	"a branch with all hashes and no value":    append(slices.Repeat([]any{word(1)}, 16), none),
	"a branch with all leaves and no value":    append(slices.Repeat([]any{aLeaf("12", long(9))}, 16), none),
	"a branch with a value of 32 bytes":        aBranch("7v", word(1), long(32)),
	"a branch with a leaf whose value is list": aBranch("01", aLeaf("", []byte{192}), word(1)),
}

var wrongLists = map[string][]any{
	"an empty list":                     {},
	"a list of one":                     {refPath("1", 2)},
	"a list of three":                   {refPath("1", 2), long(1), long(1)},
	"a list of 16":                      slices.Repeat([]any{word(1)}, 16),
	"a list of 18":                      slices.Repeat([]any{word(1)}, 18),
	"a leaf without a value":            aLeaf("12", none),
	"a leaf with a list as its value":   {refPath("12", 2), []any{long(1)}},
	"a leaf with an empty list":         {refPath("12", 2), []any{}},
	"a leaf with a node as its value":   {refPath("12", 2), small},
	"a leaf with an empty path item":    {none, long(1)},
	"a leaf with a list as its path":    {[]any{}, long(1)},
	"a leaf with a list of its path":    {[]any{refPath("12", 2)}, long(1)},
	"a path with the first nibble 4":    {[]byte{0x41}, word(1)},
	"a path with the first nibble 15":   {[]byte{0xf1}, word(1)},
	"a leaf with the nibbles 2 and 1":   {[]byte{0x21, 0x23}, long(1)},
	"an extension with 0 and 1":         {[]byte{0x01, 0x23}, word(1)},
	"an extension with 0 and 15":        {[]byte{0x0f}, word(1)},
	"an extension without a path":       anExtension("", word(1)),
	"an extension to a branch, no path": anExtension("", small),
	"an extension with a list as path":  {[]any{refPath("12", 0)}, word(1)},
	"an extension to nothing":           anExtension("1", none),
	"an extension to one byte":          anExtension("1", long(1)),
	"an extension to 31 bytes":          anExtension("1", long(31)),
	"an extension to 33 bytes":          anExtension("1", long(33)),
	"an extension to 64 bytes":          anExtension("1", long(64)),
	"an extension to an empty list":     anExtension("1", []any{}),
	"an extension to a leaf":            anExtension("1", aLeaf("1", long(1))),
	"an extension to an extension":      anExtension("1", anExtension("2", small)),
	"an extension to a wrong branch":    anExtension("1", aBranch("1", aLeaf("", long(1)))),
	"an extension to a branch with 32":  anExtension("1", aBranch("12", aLeaf("", long(5)), aLeaf("", long(5)))),
	"an extension to a great branch":    anExtension("1", aBranch("12", word(1), word(2))),
	"an empty branch":                   aBranch(""),
	"a branch with one hash":            aBranch("0", word(1)),
	"a branch with one leaf":            aBranch("f", aLeaf("", long(1))),
	"a branch with only a value":        aBranch("v", long(1)),
	"a branch with one byte":            aBranch("12", word(1), long(1)),
	"a branch with 31 bytes":            aBranch("12", word(1), long(31)),
	"a branch with 33 bytes":            aBranch("12", word(1), long(33)),
	"a branch with 33 bytes, the last":  aBranch("12f", word(1), word(2), long(33)),
	"a branch with an empty list":       aBranch("12", word(1), []any{}),
	"a branch with empty lists only":    slices.Repeat([]any{[]any{}}, 17),
	"a branch with a list of one":       aBranch("12", word(1), []any{word(1)[:1]}),
	"a branch with a leaf of 32 bytes":  aBranch("12", word(1), aLeaf("", long(29))),
	"a branch with a long leaf":         aBranch("12", word(1), aLeaf("", long(100))),
	"a branch with a leaf, no value":    aBranch("12", word(1), aLeaf("", none)),
	"a branch with a leaf, wrong path":  aBranch("12", word(1), []any{[]byte{0x40}, long(1)}),
	"a branch with a great extension":   aBranch("12", word(1), anExtension("1", word(1))),
	"a branch with a wrong extension":   aBranch("12", word(1), anExtension("", small)),
	"a branch with a wrong branch":      aBranch("12", word(1), aBranch("1", aLeaf("", long(1)))),
	"a branch with an empty branch":     aBranch("12", word(1), aBranch("")),
	"a branch with a great branch":      aBranch("12", word(1), aBranch("12", word(1), word(2))),
	"a branch with a branch of 32":      aBranch("12", word(1), aBranch("12", aLeaf("", long(5)), aLeaf("", long(5)))),
	"a branch with a list as its value": aBranch("12v", word(1), word(2), []any{}),
	"a branch with a leaf as its value": aBranch("12v", word(1), word(2), aLeaf("", long(1))),
}

// TestValid has lists that are nodes, and ones that aren't, as the root.
func TestValid(t *testing.T) {
	for name, l := range validLists {
		if refKind(l) == "" {
			t.Fatalf("the reference refuses %s", name)
		}
		s := nodes.NewStore([]api.Node{{Hash: hash(9), Bytes: refPack(l)}})
		if tree, err := nodes.Open(s, hash(9)); err != api.OK || tree == nil {
			t.Errorf("P702 Open of %s: error %d", name, err)
		}
	}
	for name, l := range wrongLists {
		if refKind(l) != "" {
			t.Fatalf("the reference takes %s", name)
		}
		refuses(t, nodes.NewStore([]api.Node{{Hash: hash(9), Bytes: refPack(l)}}), hash(9), api.ErrByte)
	}
}

// TestNoEncoding has Bytes that are no encoding of a list, from a valid one.
func TestNoEncoding(t *testing.T) {
	for name, l := range validLists {
		b := refPack(l)
		if len(b) > 1000 {
			continue
		}
		wrong := [][]byte{{}, {0}, {127}, {128}, {129, 200}, {192}, refPack(b), append(slices.Clone(b), 0), append(slices.Clone(b), 128), append(slices.Clone(b), 192), append([]byte{0}, b...)}
		for n := range b {
			wrong = append(wrong, b[:n])
		}
		for _, w := range wrong {
			s := nodes.NewStore([]api.Node{{Hash: hash(9), Bytes: w}})
			if tree, err := nodes.Open(s, hash(9)); err != api.ErrByte || tree != nil {
				t.Errorf("P702 Open of %x, from %s: error %d, not ErrByte", w, name, err)
			}
		}
	}
	// Lists in lists, as deep as they may be, and deeper.
	for deep := 1; deep < 40; deep++ {
		var l any = none
		for range deep {
			l = []any{l}
		}
		refuses(t, nodes.NewStore([]api.Node{{Hash: hash(9), Bytes: refPack(l)}}), hash(9), api.ErrByte)
		refuses(t, nodes.NewStore([]api.Node{{Hash: hash(9), Bytes: refPack([]any{refPath("1", 2), l})}}), hash(9), api.ErrByte)
	}
	// A head with a length that could be shorter.
	b := refPack(aLeaf("12", long(10)))
	refuses(t, nodes.NewStore([]api.Node{{Hash: hash(9), Bytes: append([]byte{248}, b...)}}), hash(9), api.ErrByte)
	refuses(t, nodes.NewStore([]api.Node{{Hash: hash(9), Bytes: append([]byte{248, byte(len(b) - 1)}, b[1:]...)}}), hash(9), api.ErrByte)
	refuses(t, nodes.NewStore([]api.Node{{Hash: hash(9), Bytes: refPack(aLeaf("12", long(1<<24)))}}), hash(9), api.ErrByte)
}

// item is an item that may stand in a node, or one nearly like it.
func (n *noise) item(deep int) any {
	switch n.below(9) {
	case 0:
		return long(31 + n.below(3))
	case 1:
		return n.bytes(n.below(4))
	case 2, 3:
		return word(n.below(6))
	case 4, 5:
		return none
	}
	if deep == 0 {
		return none
	}
	return n.list(deep - 1)
}

// list is a list that is a node, or nearly one.
func (n *noise) list(deep int) []any {
	p := refPath(strings.Repeat("5", n.below(4)), 2*n.below(2))
	if n.below(12) == 0 {
		p = n.bytes(n.below(3))
	}
	switch n.below(4) {
	case 0:
		return []any{p, n.bytes(n.below(33))}
	case 1:
		return []any{p, n.item(deep)}
	case 2:
		return []any{refPath("5", 2), n.bytes(1 + n.below(5))}
	}
	l := slices.Repeat([]any{none}, 17)
	for range n.below(5) {
		l[n.below(17)] = n.item(deep)
	}
	if n.below(3) == 0 {
		l[16] = n.bytes(n.below(4))
	}
	return l
}

// TestValidNoise holds Open against the reference, with lists that are nodes or nearly ones.
func TestValidNoise(t *testing.T) {
	r := noise(5)
	valid := map[string]int{}
	for range 60_000 {
		l := r.list(3)
		b := refPack(l)
		if r.below(8) == 0 {
			b[r.below(len(b))] += r.byte()
		}
		s := nodes.NewStore([]api.Node{{Hash: hash(9), Bytes: b}})
		_, want := refExamine(s, word(9))
		if tree, err := nodes.Open(s, hash(9)); err != want || (tree == nil) != (err != api.OK) {
			t.Fatalf("P702 Open of %x: error %d, not %d", b, err, want)
		}
		if want == api.OK {
			l, _ := refExamine(s, word(9))
			valid[refKind(l)]++
		}
	}
	if valid["leaf"] < 1000 || valid["extension"] < 300 || valid["branch"] < 500 {
		t.Fatalf("few valid nodes: %v", valid)
	}
}

// fault makes the node of an encoding a bad one.
type fault struct {
	name string
	want api.Errno
}

var faults = []fault{{"missing", api.ErrMissing}, {"junk", api.ErrByte}}

// spoil makes the node with the hash h a bad one.
func (f fault) spoil(s *nodes.Store, h api.Word) {
	s.Drop(h)
	if f.want == api.ErrByte {
		s.Put([]api.Node{{Hash: h, Bytes: []byte{193, 128}}})
	}
}

// TestBadNode makes one node of a trie a bad one, at the root, along a path and beside it, and demands of each call the error that the reference tells, and that nothing is changed by it.
func TestBadNode(t *testing.T) {
	keys := []string{"", "0000", "000001", "0100", "0110", "10", "1010", "f0", "f1f1", "f1f2"}
	others := []string{"0001", "02", "1011", "1020", "20", "f1", "f1f3", "f2", "01", "0200", "0000f1"}
	for _, trie := range []refTrie{of(keys, 40), of(keys[1:], 40), of(keys, 1, 40), of(keys[5:7], 40), of(keys[7:], 1, 40), of(keys[3:7], 2, 29), of(keys[7:8], 40)} {
		all := trie.at()
		for at, bad := range all {
			for _, f := range faults {
				s := stored(trie)
				tree := open(t, s, trie.root())
				f.spoil(s, keccak.Sum(bad))
				// Equal nodes stand at several paths.
				isBad := func(p string) bool { return bytes.Equal(all[p], bad) }
				name := fmt.Sprintf("%v, where the node at %q is %s", slices.Sorted(maps.Keys(trie)), at, f.name)
				for _, k := range append(slices.Clone(keys), others...) {
					want := api.OK
					if slices.ContainsFunc(trie.onPath(k), isBad) {
						want = f.want
					}
					getsOne(t, name, tree, k, trie[k], want)
					putsOne(t, name, s, trie, k, []byte{5}, want)
					putsOne(t, name, s, trie, k, trie[k], want)
					if p, ok := trie.left(k); ok && want == api.OK && isBad(p) {
						want = f.want
					}
					putsOne(t, name, s, trie, k, nil, want)
				}
				if l, err := tree.Pairs(); err != f.want || len(l) != 0 {
					t.Fatalf("P702 Pairs of %s: %x, error %d, not %d", name, l, err, f.want)
				}
				s.Drop(keccak.Sum(bad))
				s.Put([]api.Node{{Hash: keccak.Sum(bad), Bytes: bad}})
				has(t, tree, trie)
			}
		}
	}
}

func getsOne(t *testing.T, name string, tree *nodes.Tree, k string, value []byte, want api.Errno) {
	t.Helper()
	if want != api.OK {
		value = nil
	}
	if v, err := tree.Get(unhex(k)); err != want || !bytes.Equal(v, value) {
		t.Fatalf("P702 Get of %s from %s: %x, error %d, not %x, error %d", k, name, v, err, value, want)
	}
}

// putsOne demands an answer of a Put into a tree that was changed before, far from k, and that an error changes nothing.
func putsOne(t *testing.T, name string, s *nodes.Store, pairs refTrie, k string, value []byte, want api.Errno) {
	t.Helper()
	tree, err := nodes.Open(s, pairs.root())
	if err != api.OK {
		return
	}
	if err := tree.Put(unhex(k), value); err != want {
		t.Fatalf("P702 Put of %s, with %x, into %s: error %d, not %d", k, value, name, err, want)
	}
	after := newShadow(s, pairs)
	if want == api.OK && !bytes.Equal(pairs[k], value) {
		after.put(unhex(k), value)
	}
	if root, l := tree.Commit(); root != after.root() || want != api.OK && len(l) != 0 {
		t.Fatalf("P702 Put of %s, with %x, into %s: root %x, not %x, and %d nodes", k, value, name, root, after.root(), len(l))
	}
}

// TestFirstError has a bad node of each kind on one path, and beside it: the first one on the path is the error.
func TestFirstError(t *testing.T) {
	trie := of([]string{"1111", "1121", "12", "20"}, 40)
	path := trie.onPath("1111")
	if len(path) != 4 {
		t.Fatalf("the path has %d nodes", len(path))
	}
	sum := func(p string) api.Word { return keccak.Sum(trie.at()[p]) }
	for _, first := range faults {
		for _, second := range faults {
			for i := 1; i < len(path); i++ {
				s := stored(trie)
				tree := open(t, s, trie.root())
				first.spoil(s, sum(path[i-1]))
				second.spoil(s, sum(path[i]))
				gets(t, tree, unhex("1111"), nil, first.want)
				for _, value := range [][]byte{nil, {1}, trie["1111"]} {
					if err := tree.Put(unhex("1111"), value); err != first.want {
						t.Errorf("P702 Put below two bad nodes: error %d, not %d", err, first.want)
					}
				}
				if l, err := tree.Pairs(); err != first.want || len(l) != 0 {
					t.Errorf("P702 Pairs with two bad nodes: error %d, not %d", err, first.want)
				}
			}
			// The leaf, and the one beside it with which the branch would be left.
			s := stored(trie)
			tree := open(t, s, trie.root())
			first.spoil(s, sum("111"))
			second.spoil(s, sum("112"))
			if err := tree.Put(unhex("1111"), nil); err != first.want {
				t.Errorf("P702 Put with a bad node on the path and one beside it: error %d, not %d", err, first.want)
			}
			if err := tree.Put(unhex("1121"), nil); err != second.want {
				t.Errorf("P702 Put with a bad node on the path and one ahead of it: error %d, not %d", err, second.want)
			}
			if _, err := tree.Pairs(); err != first.want {
				t.Errorf("P702 Pairs with two bad leaves: error %d, not %d", err, first.want)
			}
			newShadow(s, trie).commits(t, tree)
		}
	}
}

// TestErrorAfterChange demands that an error leaves a changed tree as it was.
func TestErrorAfterChange(t *testing.T) {
	trie := of([]string{"1111", "1121", "20", "30", "3011"}, 40)
	for _, f := range faults {
		s := stored(trie)
		tree, want := open(t, s, trie.root()), newShadow(s, trie)
		for _, k := range []string{"20", "40"} {
			put(t, tree, unhex(k), []byte{9})
			want.put(unhex(k), []byte{9})
		}
		sibling := keccak.Sum(trie.at()["112"])
		f.spoil(s, sibling)
		for range 3 {
			if err := tree.Put(unhex("1111"), nil); err != f.want {
				t.Errorf("P702 Put with a bad node beside the path: error %d, not %d", err, f.want)
			}
			gets(t, tree, unhex("1111"), trie["1111"], api.OK)
			gets(t, tree, unhex("20"), []byte{9}, api.OK)
		}
		f.spoil(s, keccak.Sum(trie.at()["111"]))
		for _, value := range [][]byte{nil, {1}, trie["1111"]} {
			if err := tree.Put(unhex("1111"), value); err != f.want {
				t.Errorf("P702 Put with a bad node on the path: error %d, not %d", err, f.want)
			}
		}
		want.commits(t, tree)
		s.Drop(sibling)
		s.Drop(keccak.Sum(trie.at()["111"]))
		s.Put(trie.nodes())
		has(t, tree, want.pairs)
	}
}

// TestStoreLater demands that a tree takes each node from the store when it is needed: one that comes later is found, and one that goes is missed.
func TestStoreLater(t *testing.T) {
	trie := of([]string{"1111", "1121", "20"}, 40)
	s := nodes.NewStore([]api.Node{{Hash: trie.root(), Bytes: trie.encoding()}})
	tree := open(t, s, trie.root())
	gets(t, tree, unhex("20"), nil, api.ErrMissing)
	gets(t, tree, unhex("30"), nil, api.OK)
	s.Put(trie.nodes())
	has(t, tree, trie)
	for p, b := range trie.at() {
		s.Drop(keccak.Sum(b))
		for k, v := range trie {
			if strings.HasPrefix(k, p) {
				gets(t, tree, unhex(k), nil, api.ErrMissing)
			} else {
				gets(t, tree, unhex(k), v, api.OK)
			}
		}
		s.Put(trie.nodes())
	}
	has(t, tree, trie)
}

// chain is a store with the list l at the path of n nibbles, below extensions of at most 100 nibbles, and its root.
func chain(n int, last any) (*nodes.Store, api.Word) {
	s := nodes.NewStore(nil)
	i := 100
	for ; n > 0; n -= min(n, 100) {
		b := refPack(anExtension(strings.Repeat("1", min(n, 100)), last))
		s.Put([]api.Node{{Hash: hash(i), Bytes: b}})
		last = word(i)
		i++
	}
	return s, hash(i - 1)
}

// TestPairsErrors has paths with more than 128 nibbles, and ones that end a key in the middle of a byte.
func TestPairsErrors(t *testing.T) {
	leafAt := func(n int) []api.Node {
		return []api.Node{{Hash: hash(1), Bytes: refPack(aLeaf(strings.Repeat("2", n), long(40)))}}
	}
	odd := aBranch("0v", word(2), long(1))
	for _, c := range []struct {
		name string
		at   int
		l    []api.Node
		want api.Errno
	}{
		{"a missing node at 127", 127, nil, api.ErrMissing},
		{"a missing node at 128", 128, nil, api.ErrMissing},
		{"a missing node at 129", 129, nil, api.ErrByte},
		{"a missing node at 300", 300, nil, api.ErrByte},
		{"a bad node at 128", 128, []api.Node{{Hash: hash(1)}}, api.ErrByte},
		{"a leaf that ends at 128", 128, leafAt(0), api.OK},
		{"a leaf that ends at 128, at 127", 127, leafAt(1), api.OK},
		{"a leaf that ends at 128, at 1", 1, leafAt(127), api.OK},
		{"a leaf that ends at 129", 129, leafAt(0), api.ErrByte},
		{"a leaf that ends at 129, at 128", 128, leafAt(1), api.ErrByte},
		{"a leaf that ends at 130, at 128", 128, leafAt(2), api.ErrByte},
		{"a leaf that ends at 130, at 1", 1, leafAt(129), api.ErrByte},
		{"a leaf that ends at 130, at 130", 130, leafAt(0), api.ErrByte},
		{"a leaf that ends at 1", 1, leafAt(0), api.ErrByte},
		{"a leaf that ends at 3", 1, leafAt(2), api.ErrByte},
		{"a leaf that ends at 127", 127, leafAt(0), api.ErrByte},
		{"a leaf that ends at 4", 1, leafAt(3), api.OK},
		{"a branch with a value at 1, with a missing node", 1, []api.Node{{Hash: hash(1), Bytes: refPack(odd)}}, api.ErrByte},
		{"a branch with a value at 2, with a missing node", 2, []api.Node{{Hash: hash(1), Bytes: refPack(odd)}}, api.ErrMissing},
		{"a branch with a value at 128, with a missing node", 128, []api.Node{{Hash: hash(1), Bytes: refPack(odd)}}, api.ErrByte},
		{"a branch at 128 with leaves", 128, []api.Node{{Hash: hash(1), Bytes: refPack(small)}}, api.ErrByte},
		{"a branch at 127 with leaves", 127, []api.Node{{Hash: hash(1), Bytes: refPack(small)}}, api.OK},
		{"a branch at 126 with leaves", 126, []api.Node{{Hash: hash(1), Bytes: refPack(small)}}, api.ErrByte},
		{"a branch at 130 with leaves", 130, []api.Node{{Hash: hash(1), Bytes: refPack(small)}}, api.ErrByte},
		{"a missing node ahead of an odd leaf", 2, []api.Node{{Hash: hash(1), Bytes: refPack(aBranch("12", word(2), aLeaf("", long(1))))}}, api.ErrMissing},
		{"an odd leaf ahead of a missing node", 2, []api.Node{{Hash: hash(1), Bytes: refPack(aBranch("12", aLeaf("", long(1)), word(2)))}}, api.ErrByte},
		{"a bad node ahead of a missing node", 2, []api.Node{{Hash: hash(1), Bytes: refPack(aBranch("ef", word(2), word(3)))}, {Hash: hash(2)}}, api.ErrByte},
		{"a missing node ahead of a bad node", 2, []api.Node{{Hash: hash(1), Bytes: refPack(aBranch("ef", word(3), word(2)))}, {Hash: hash(2)}}, api.ErrMissing},
	} {
		s, root := chain(c.at, word(1))
		s.Put(c.l)
		tree := open(t, s, root)
		l, err := tree.Pairs()
		if err != c.want || (len(l) == 0) != (err != api.OK) {
			t.Errorf("P702 Pairs of %s: %x, error %d, not %d", c.name, l, err, c.want)
		}
		want, _ := refPairs(s, root[:], "")
		if !samePairs(l, want) {
			t.Errorf("P702 Pairs of %s: %x, not %x", c.name, l, want)
		}
	}
}

// TestPairsInside has lists in lists at paths with 128 nibbles and more.
func TestPairsInside(t *testing.T) {
	for n, want := range map[int]api.Errno{125: api.OK, 126: api.ErrByte, 127: api.OK, 128: api.ErrByte, 129: api.ErrByte} {
		s, root := chain(n, small)
		if l, err := open(t, s, root).Pairs(); err != want || (len(l) == 0) != (err != api.OK) {
			t.Errorf("P702 Pairs of a branch in an extension of %d nibbles: %x, error %d, not %d", n, l, err, want)
		}
	}
}

// TestCircles has nodes that are below themselves: all calls end.
func TestCircles(t *testing.T) {
	for name, l := range map[string][]any{
		"an extension":                      anExtension("1", word(1)),
		"an extension with a long path":     anExtension(strings.Repeat("1", 100), word(1)),
		"a branch":                          aBranch("01", word(1), word(1)),
		"a branch with a leaf":              aBranch("01", aLeaf("1", long(1)), word(1)),
		"a branch with a value":             aBranch("1v", word(1), long(1)),
		"a branch with everything":          append(slices.Repeat([]any{word(1)}, 16), long(1)),
		"a branch with a leaf, and another": aBranch("012", aLeaf("1", long(1)), word(1), word(2)),
	} {
		s := nodes.NewStore([]api.Node{{Hash: hash(1), Bytes: refPack(l)}})
		tree := open(t, s, hash(1))
		if l, err := tree.Pairs(); err != api.ErrByte || len(l) != 0 {
			t.Errorf("P702 Pairs of %s: %d pairs, error %d, not ErrByte", name, len(l), err)
		}
		for _, n := range []int{0, 1, 2, 63, 64} {
			for _, b := range []byte{0, 1, 0x11, 0x12, 0xff} {
				key := bytes.Repeat([]byte{b}, n)
				value, err := refGet(s, word(1), digitsOf(key))
				gets(t, open(t, s, hash(1)), key, value, err)
				changes(t, s, hash(1), key, []byte{7})
				changes(t, s, hash(1), key, nil)
			}
		}
	}
}

// changes makes one change to a tree of any nodes, and demands that it is there, and that nothing else is changed.
func changes(t *testing.T, s *nodes.Store, root api.Word, key, value []byte) {
	t.Helper()
	tree := open(t, s, root)
	_, readErr := refGet(s, root[:], digitsOf(key))
	err := tree.Put(key, value)
	// A child that is left alone is examined only where something is taken away.
	if readErr != err && (readErr != api.OK || len(value) > 0) {
		t.Fatalf("P702 Put of %x, with %x: error %d, not %d", key, value, err, readErr)
	}
	for _, other := range [][]byte{key, append(key[:len(key):len(key)], 0x11), {}, {0x11}, {0x15}, {0x55, 0x55}, {0x10, 0}} {
		want, wantErr := refGet(s, root[:], digitsOf(other))
		if len(other) > 64 {
			want, wantErr = nil, api.OK
		}
		if err == api.OK && bytes.Equal(other, key) {
			want, wantErr = value, api.OK
		}
		gets(t, tree, other, want, wantErr)
	}
	before := s.Nodes()
	found, l := tree.Commit()
	if again, more := tree.Commit(); again != found || len(more) != 0 || !sameNodes(s.Nodes(), before) {
		t.Fatalf("P703 a second Commit: %x and %d nodes, after %x", again, len(more), found)
	}
	if err != api.OK && (found != root || len(l) > 0) {
		t.Fatalf("P702 Put of %x, with %x: error %d, but the root is %x, not %x", key, value, err, found, root)
	}
	if err == api.OK {
		full := nodes.NewStore(before)
		full.Put(l)
		gets(t, open(t, full, found), key, value, api.OK)
	}
}

// TestAnyStore has stores with nodes of any kind that refer to each other in any way.
func TestAnyStore(t *testing.T) {
	r := noise(6)
	count := map[api.Errno]int{}
	for range 3000 {
		s := nodes.NewStore(nil)
		for i := range 5 {
			l := r.list(2)
			for refKind(l) == "" && r.below(10) > 0 {
				l = r.list(2)
			}
			s.Put([]api.Node{{Hash: hash(i), Bytes: refPack(l)}})
		}
		for i := 1; i < 5; i++ {
			root := hash(i)
			if _, err := refExamine(s, root[:]); err != api.OK {
				refuses(t, s, root, err)
				continue
			}
			tree := open(t, s, root)
			want, wantErr := refPairs(s, root[:], "")
			if l, err := tree.Pairs(); err != wantErr || !samePairs(l, want) {
				t.Fatalf("P702 Pairs of %x: %x, error %d, not %x, error %d", s.Nodes(), l, err, want, wantErr)
			}
			count[wantErr]++
			for _, key := range [][]byte{{}, {0x55}, r.bytes(1), {0x55, r.byte()}, {r.byte() & 0x15, 0x55}} {
				value, err := refGet(s, root[:], digitsOf(key))
				gets(t, tree, key, value, err)
				changes(t, s, root, key, [][]byte{nil, {7}, value}[r.below(3)])
			}
		}
	}
	if count[api.OK] < 100 || count[api.ErrByte] < 100 || count[api.ErrMissing] < 100 {
		t.Fatalf("few of some kind: %v", count)
	}
}
