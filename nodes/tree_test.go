package nodes_test

import (
	"bytes"
	"fmt"
	"maps"
	"slices"
	"strings"
	"sync"
	"testing"

	"muniments/api"
	"muniments/keccak"
	"muniments/nodes"
	"muniments/trie"
)

var emptyRoot = api.Word(unhex("56e81f171bcc55a6ff8345e692c0f86e5b48e01b996cadc001622fb5e363b421"))

// digitsOf is the path of a key as text.
func digitsOf(key []byte) string { return fmt.Sprintf("%x", key) }

// of is the trie with a pair for each key, by its digits, and the length of its value.
func of(keys []string, lengths ...int) refTrie {
	t := refTrie{}
	for i, k := range keys {
		t[k] = bytes.Repeat([]byte{byte(129 + i)}, lengths[i%len(lengths)])
	}
	return t
}

// stored is a store with all nodes of the tries.
func stored(tries ...refTrie) *nodes.Store {
	s := nodes.NewStore(nil)
	for _, t := range tries {
		s.Put(t.nodes())
	}
	return s
}

func open(t *testing.T, s *nodes.Store, root api.Word) *nodes.Tree {
	t.Helper()
	tree, err := nodes.Open(s, root)
	if err != api.OK || tree == nil {
		t.Fatalf("P702 Open of %x: error %d", root, err)
	}
	return tree
}

func put(t *testing.T, tree *nodes.Tree, key, value []byte) {
	t.Helper()
	if err := tree.Put(key, value); err != api.OK {
		t.Fatalf("P702 Put of %x, with %d bytes: error %d", key, len(value), err)
	}
}

// has demands of a tree just the pairs of want.
func has(t *testing.T, tree *nodes.Tree, want refTrie) {
	t.Helper()
	l, err := tree.Pairs()
	if err != api.OK || !samePairs(l, want.pairs()) {
		t.Fatalf("P702 Pairs: %x, error %d, not %x", l, err, want.pairs())
	}
	for p, v := range want {
		gets(t, tree, unhex(p), v, api.OK)
	}
}

// gets demands of Get a value or an error.
func gets(t *testing.T, tree *nodes.Tree, key, want []byte, wantErr api.Errno) {
	t.Helper()
	if v, err := tree.Get(key); err != wantErr || !bytes.Equal(v, want) {
		t.Fatalf("P702 Get of %x: %x, error %d, not %x, error %d", key, v, err, want, wantErr)
	}
}

// shadow is what a tree should be: its pairs, its nodes by their paths, and the paths of the nodes that were created or changed.
type shadow struct {
	store *nodes.Store
	pairs refTrie
	at    map[string][]byte
	fresh map[string]bool
}

func newShadow(s *nodes.Store, pairs refTrie) *shadow {
	return &shadow{s, maps.Clone(pairs), pairs.at(), map[string]bool{}}
}

// put changes one pair.
func (s *shadow) put(key, value []byte) {
	if p := digitsOf(key); len(value) == 0 {
		delete(s.pairs, p)
	} else {
		s.pairs[p] = slices.Clone(value)
	}
	before := s.at
	s.at = s.pairs.at()
	for p, b := range s.at {
		if !bytes.Equal(before[p], b) {
			s.fresh[p] = true
		}
	}
}

// commit is what Commit should answer.
func (s *shadow) commit() (api.Word, []api.Node) {
	var l [][]byte
	for p, b := range s.at {
		if !s.fresh[p] {
			continue
		}
		if _, known := s.store.Get(keccak.Sum(b)); !known {
			l = append(l, b)
		}
	}
	s.fresh = map[string]bool{}
	return s.root(), nodesOf(l...)
}

func (s *shadow) root() api.Word {
	if len(s.at) == 0 {
		return emptyRoot
	}
	return keccak.Sum(s.at[""])
}

// commits holds Commit against s, and returns the new nodes. Directly afterwards there is none.
func (s *shadow) commits(t *testing.T, tree *nodes.Tree) []api.Node {
	t.Helper()
	before := s.store.Nodes()
	root, l := tree.Commit()
	wantRoot, want := s.commit()
	if root != wantRoot {
		t.Fatalf("P703 Commit with %x: root %x, not %x", s.pairs.pairs(), root, wantRoot)
	}
	if !sameNodes(l, want) {
		t.Fatalf("P703 Commit with %x: the nodes %x, not %x", s.pairs.pairs(), l, want)
	}
	if again, l := tree.Commit(); again != root || len(l) != 0 {
		t.Fatalf("P703 a second Commit: root %x, not %x, and %d nodes", again, root, len(l))
	}
	if !sameNodes(s.store.Nodes(), before) {
		t.Fatalf("P703 Commit changed the store")
	}
	return l
}

func TestExamples(t *testing.T) {
	if tree, err := nodes.Open(nil, api.Word{}); err != api.ErrMissing || tree != nil {
		t.Errorf("P702 Open of no store and 0: error %d", err)
	}
	tree := open(t, nodes.NewStore(nil), emptyRoot)
	gets(t, tree, make([]byte, 65), nil, api.OK)
	if err := tree.Put([]byte("a"), make([]byte, 1<<20+1)); err != api.ErrLong {
		t.Errorf("P702 Put of 2^20 + 1 bytes: error %d", err)
	}
	put(t, tree, []byte("a"), []byte{1})
	put(t, tree, []byte("a"), nil)
	if root, l := tree.Commit(); root != emptyRoot || len(l) != 0 {
		t.Errorf("P703 Commit after a Put and its undoing: %x, %d nodes", root, len(l))
	}
	root := hash(1)
	loop := open(t, nodes.NewStore([]api.Node{{Hash: root, Bytes: refPack([]any{refPath("1", 0), root[:]})}}), root)
	if l, err := loop.Pairs(); err != api.ErrByte || len(l) != 0 {
		t.Errorf("P702 Pairs of an extension that refers to itself: %x, error %d", l, err)
	}
}

// TestKnown has the root that the chapter of tries has for its pairs.
func TestKnown(t *testing.T) {
	tree := open(t, nodes.NewStore(nil), api.Word{})
	for _, p := range [][2]string{{"horse", "stallion"}, {"dog", "puppy"}, {"do", "verb"}, {"cat", "x"}, {"doge", "coin"}} {
		put(t, tree, []byte(p[0]), []byte(p[1]))
	}
	put(t, tree, []byte("cat"), nil)
	root, l := tree.Commit()
	if root != api.Word(unhex("5991bb8c6514148a29db676a14ac506cd2cd5775ace63c30a4fe457715e9ac84")) {
		t.Errorf("P703 Commit of dog, do, doge and horse: root %x", root)
	}
	pairs, _ := tree.Pairs()
	want, _ := trie.Nodes(pairs)
	if !sameNodes(l, want) {
		t.Errorf("P703 Commit of dog, do, doge and horse: %x, not %x", l, want)
	}
}

func TestOpenEmpty(t *testing.T) {
	junk := []api.Node{{Hash: emptyRoot, Bytes: []byte("junk")}, {Hash: api.Word{}, Bytes: []byte{128}}}
	for _, l := range [][]api.Node{nil, junk} {
		for _, root := range []api.Word{{}, emptyRoot} {
			s := nodes.NewStore(l)
			tree := open(t, s, root)
			has(t, tree, refTrie{})
			gets(t, tree, nil, nil, api.OK)
			gets(t, tree, []byte("a"), nil, api.OK)
			newShadow(s, refTrie{}).commits(t, tree)
			put(t, tree, []byte("a"), nil)
			newShadow(s, refTrie{}).commits(t, tree)
			shadow := newShadow(s, refTrie{})
			shadow.put([]byte("a"), []byte("b"))
			put(t, tree, []byte("a"), []byte("b"))
			has(t, tree, shadow.pairs)
			shadow.commits(t, tree)
		}
	}
}

// refuses demands an error of Open, and no tree.
func refuses(t *testing.T, s *nodes.Store, root api.Word, want api.Errno) {
	t.Helper()
	if tree, err := nodes.Open(s, root); err != want || tree != nil {
		t.Errorf("P702 Open of %x: error %d, not %d", root, err, want)
	}
}

func TestOpenErrors(t *testing.T) {
	for _, root := range []api.Word{{}, emptyRoot, hash(1)} {
		refuses(t, nil, root, api.ErrMissing)
	}
	trie := of([]string{"00", "01", "1234"}, 40)
	s := stored(trie)
	refuses(t, s, hash(1), api.ErrMissing)
	s.Put([]api.Node{{Hash: hash(1)}, {Hash: hash(2), Bytes: []byte("junk")}, {Hash: hash(3), Bytes: []byte{128}}, {Hash: hash(4), Bytes: []byte{192}}})
	for n := range 4 {
		refuses(t, s, hash(n+1), api.ErrByte)
	}
	s.Drop(trie.root())
	refuses(t, s, trie.root(), api.ErrMissing)
	s.Put([]api.Node{{Hash: trie.root(), Bytes: append(trie.encoding(), 0)}})
	refuses(t, s, trie.root(), api.ErrByte)
}

// TestOpenLooksAtRoot demands that Open looks at the root only.
func TestOpenLooksAtRoot(t *testing.T) {
	trie := of([]string{"00", "01", "1234"}, 40)
	for _, junk := range []bool{false, true} {
		s := nodes.NewStore(nil)
		for _, n := range trie.nodes() {
			if n.Hash == trie.root() {
				s.Put([]api.Node{n})
			} else if junk {
				s.Put([]api.Node{{Hash: n.Hash, Bytes: []byte("junk")}})
			}
		}
		newShadow(s, trie).commits(t, open(t, s, trie.root()))
	}
}

// fewKeys has keys that are prefixes of each other and ones that aren't.
var fewKeys = []string{"", "00", "0000", "000010", "000f", "01", "0123", "10", "f0"}

// eachFew calls each with all sets of fewKeys.
func eachFew(each func(keys []string)) {
	for set := range 1 << len(fewKeys) {
		var keys []string
		for i, k := range fewKeys {
			if set>>i&1 != 0 {
				keys = append(keys, k)
			}
		}
		each(keys)
	}
}

// TestOneChange has each set of few keys, as a stored trie, with each key changed in it.
func TestOneChange(t *testing.T) {
	t.Parallel()
	eachFew(func(keys []string) {
		sizes := [][]int{{40, 1}, {1, 4, 28, 29, 32}}[len(keys)%2]
		trie := of(keys, sizes...)
		root, s := trie.root(), stored(trie)
		before := newShadow(s, trie)
		for _, k := range fewKeys {
			for _, value := range [][]byte{nil, {7}, bytes.Repeat([]byte{8}, 33)} {
				tree := open(t, s, root)
				want := &shadow{s, maps.Clone(trie), before.at, map[string]bool{}}
				put(t, tree, unhex(k), value)
				want.put(unhex(k), value)
				has(t, tree, want.pairs)
				for _, other := range fewKeys {
					gets(t, tree, unhex(other), want.pairs[other], api.OK)
				}
				l := want.commits(t, tree)
				has(t, tree, want.pairs)
				full := nodes.NewStore(append(s.Nodes(), l...))
				has(t, open(t, full, want.root()), want.pairs)
			}
		}
	})
}

// TestNothingChanged has a Put of the value that is there, and of none where there is none: no node is created, and the root is the one with which the tree was opened.
func TestNothingChanged(t *testing.T) {
	eachFew(func(keys []string) {
		trie := of(keys, 1, 40)
		if len(trie) == 0 {
			return
		}
		s := stored(trie)
		foreign := hash(7)
		s.Put([]api.Node{{Hash: foreign, Bytes: trie.encoding()}})
		for _, k := range append([]string{"02", "0001", "000011", "0124", "f1", "f000", "ff"}, fewKeys...) {
			tree := open(t, s, foreign)
			put(t, tree, unhex(k), trie[k])
			if root, l := tree.Commit(); root != foreign || len(l) != 0 {
				t.Fatalf("P703 Commit after a Put of %s that changed nothing: %x, not %x, and %d nodes", k, root, foreign, len(l))
			}
			has(t, tree, trie)
			// The tree has no node of its own, so that it sees that the root was dropped.
			s.Drop(foreign)
			gets(t, tree, unhex(k), nil, api.ErrMissing)
			s.Put([]api.Node{{Hash: foreign, Bytes: trie.encoding()}})
		}
	})
}

// TestForeignRoot has a root that is not the hash of its Bytes: once the tree was changed, its root is that of its pairs.
func TestForeignRoot(t *testing.T) {
	trie := of([]string{"00", "01", "1234", "5678"}, 1, 40)
	s := stored(trie)
	s.Put([]api.Node{{Hash: hash(7), Bytes: trie.encoding()}})
	tree := open(t, s, hash(7))
	if root, l := tree.Commit(); root != hash(7) || len(l) != 0 {
		t.Errorf("P703 Commit of an unchanged tree: %x and %d nodes", root, len(l))
	}
	put(t, tree, unhex("01"), []byte("x"))
	want := newShadow(s, trie)
	want.put(unhex("01"), []byte("x"))
	want.commits(t, tree)
	put(t, tree, unhex("01"), trie["01"])
	want.put(unhex("01"), trie["01"])
	want.commits(t, tree)
}

// TestLong has keys and values of the greatest lengths, and longer ones.
func TestLong(t *testing.T) {
	s := nodes.NewStore(nil)
	tree, want := open(t, s, api.Word{}), newShadow(s, refTrie{})
	r := noise(1)
	long, value := r.bytes(64), r.bytes(1<<20)
	for _, p := range []api.Pair{{Key: long, Value: value}, {Value: value}, {Key: long[:63], Value: []byte{1}}} {
		put(t, tree, p.Key, p.Value)
		want.put(p.Key, p.Value)
	}
	has(t, tree, want.pairs)
	for _, p := range []api.Pair{
		{Key: make([]byte, 65), Value: []byte{1}},
		{Key: make([]byte, 65)},
		{Key: append(slices.Clone(long), 0), Value: []byte{1}},
		{Key: append(slices.Clone(long), 0)},
		{Key: make([]byte, 1000), Value: []byte{1}},
		{Key: make([]byte, 1000), Value: make([]byte, 1<<20+1)},
		{Key: long, Value: make([]byte, 1<<20+1)},
		{Key: []byte("new"), Value: make([]byte, 1<<20+1)},
		{Key: []byte("new"), Value: make([]byte, 1<<24+1)},
	} {
		if err := tree.Put(p.Key, p.Value); err != api.ErrLong {
			t.Errorf("P702 Put of a key of %d and a value of %d bytes: error %d, not ErrLong", len(p.Key), len(p.Value), err)
		}
	}
	gets(t, tree, make([]byte, 65), nil, api.OK)
	gets(t, tree, append(slices.Clone(long), 0), nil, api.OK)
	gets(t, tree, make([]byte, 1000), nil, api.OK)
	has(t, tree, want.pairs)
	want.commits(t, tree)
}

// TestLongAhead demands that what is too long is told before a node is examined.
func TestLongAhead(t *testing.T) {
	trie := of([]string{"00", "01", "1234"}, 40)
	for _, junk := range []bool{false, true} {
		s := stored(trie)
		tree := open(t, s, trie.root())
		s.Drop(trie.root())
		want := api.ErrMissing
		if junk {
			s.Put([]api.Node{{Hash: trie.root(), Bytes: []byte("junk")}})
			want = api.ErrByte
		}
		gets(t, tree, make([]byte, 65), nil, api.OK)
		gets(t, tree, make([]byte, 64), nil, want)
		for _, p := range []struct {
			key, value int
			want       api.Errno
		}{{65, 1, api.ErrLong}, {65, 0, api.ErrLong}, {1, 1<<20 + 1, api.ErrLong}, {64, 1 << 20, want}, {1, 0, want}, {0, 0, want}} {
			if err := tree.Put(make([]byte, p.key), make([]byte, p.value)); err != p.want {
				t.Errorf("P702 Put of %d and %d bytes with a bad root: error %d, not %d", p.key, p.value, err, p.want)
			}
		}
	}
}

// randomKey is a key that has much in common with others.
func (n *noise) key() []byte {
	if n.below(30) == 0 {
		return bytes.Repeat([]byte{17}, 64-n.below(2))
	}
	key := n.bytes(n.below(5))
	for i := range key {
		key[i] = key[i] & 0x11
	}
	return key
}

func (n *noise) value() []byte {
	switch n.below(4) {
	case 0:
		return nil
	case 1:
		return []byte{n.byte() % 2}
	}
	return n.bytes(1 + n.below(40))
}

// TestNoise goes on with trees for long, with a Commit now and then, whose nodes are added to the store, or some of them, or none.
func TestNoise(t *testing.T) {
	t.Parallel()
	r := noise(2)
	for range 40 {
		s := nodes.NewStore(nil)
		tree, want := open(t, s, emptyRoot), newShadow(s, refTrie{})
		adds := r.below(3)
		for range 120 {
			key, value := r.key(), r.value()
			if r.below(3) == 0 {
				value = want.pairs[digitsOf(r.key())]
			}
			put(t, tree, key, value)
			want.put(key, value)
			gets(t, tree, key, value, api.OK)
			key = r.key()
			gets(t, tree, key, want.pairs[digitsOf(key)], api.OK)
			if r.below(5) > 0 {
				continue
			}
			has(t, tree, want.pairs)
			l := want.commits(t, tree)
			has(t, tree, want.pairs)
			switch {
			case adds == 0:
				s.Put(l)
				tree = open(t, s, want.root())
				has(t, tree, want.pairs)
			case adds == 1 && len(l) > 0:
				s.Put(l[r.below(len(l)):])
			}
		}
	}
}

// TestAllAway takes the pairs of tries away in several orders: afterwards they are empty.
func TestAllAway(t *testing.T) {
	r := noise(3)
	for _, size := range []int{1, 40} {
		trie := refTrie{}
		for range 60 {
			trie[digitsOf(r.key())] = r.bytes(size)
		}
		s := stored(trie)
		for range 10 {
			keys := slices.Sorted(maps.Keys(trie))
			tree, want := open(t, s, trie.root()), newShadow(s, trie)
			for len(keys) > 0 {
				i := r.below(len(keys))
				put(t, tree, unhex(keys[i]), nil)
				want.put(unhex(keys[i]), nil)
				keys = slices.Delete(keys, i, i+1)
				if r.below(10) == 0 {
					want.commits(t, tree)
				}
			}
			has(t, tree, refTrie{})
			if root, l := tree.Commit(); root != emptyRoot || len(l) != 0 {
				t.Fatalf("P703 Commit of a tree that became empty: %x, %d nodes", root, len(l))
			}
		}
	}
}

// TestWithoutStore goes on with nodes that are nowhere but in the tree.
func TestWithoutStore(t *testing.T) {
	s := nodes.NewStore(nil)
	tree, want := open(t, s, api.Word{}), newShadow(s, refTrie{})
	for i := range 50 {
		key, value := []byte{byte(i * 5), byte(i)}, bytes.Repeat([]byte{byte(i)}, 1+i)
		put(t, tree, key, value)
		want.put(key, value)
	}
	if l := want.commits(t, tree); len(l) < 20 {
		t.Errorf("P703 Commit: %d nodes", len(l))
	}
	if l := s.Nodes(); len(l) != 0 {
		t.Errorf("P703 Commit changed the store: %d nodes", len(l))
	}
	has(t, tree, want.pairs)
	for i := range 50 {
		key := []byte{byte(i * 5), byte(i)}
		value := [][]byte{nil, {9}, want.pairs[digitsOf(key)]}[i%3]
		put(t, tree, key, value)
		want.put(key, value)
		want.commits(t, tree)
	}
	has(t, tree, want.pairs)
}

// TestAddedAndDropped demands that a tree goes on with its new nodes also if they were added to the store and dropped again.
func TestAddedAndDropped(t *testing.T) {
	s := nodes.NewStore(nil)
	tree, want := open(t, s, api.Word{}), newShadow(s, refTrie{})
	for i := range 20 {
		key := []byte{byte(i * 13), byte(i)}
		put(t, tree, key, bytes.Repeat(key, 20))
		want.put(key, bytes.Repeat(key, 20))
	}
	l := want.commits(t, tree)
	s.Put(l)
	has(t, tree, want.pairs)
	for _, n := range l {
		s.Drop(n.Hash)
	}
	has(t, tree, want.pairs)
	want.commits(t, tree)
	put(t, tree, []byte("new"), []byte("value"))
	want.put([]byte("new"), []byte("value"))
	want.commits(t, tree)
}

// TestNewAtPresent demands that it counts what is in the store when Commit is called.
func TestNewAtPresent(t *testing.T) {
	old := of([]string{"0000", "0010", "10", "20", "2030"}, 40)
	for _, change := range []func(*nodes.Store, []api.Node){
		func(*nodes.Store, []api.Node) {},
		func(s *nodes.Store, l []api.Node) { s.Put(l) },
		func(s *nodes.Store, l []api.Node) { s.Put(l[:1]) },
		func(s *nodes.Store, l []api.Node) { s.Put(l[1:]) },
		func(s *nodes.Store, l []api.Node) { s.Put([]api.Node{{Hash: l[0].Hash, Bytes: []byte("junk")}}) },
		func(s *nodes.Store, l []api.Node) { s.Put(l); s.Drop(l[len(l)-1].Hash) },
	} {
		s := stored(old)
		tree, want := open(t, s, old.root()), newShadow(s, old)
		for _, k := range []string{"0000", "10", "30"} {
			put(t, tree, unhex(k), bytes.Repeat([]byte{1}, 50))
			want.put(unhex(k), bytes.Repeat([]byte{1}, 50))
		}
		change(s, slices.DeleteFunc(nodesOf(slices.Collect(maps.Values(want.at))...), func(n api.Node) bool {
			_, known := s.Get(n.Hash)
			return known
		}))
		has(t, tree, want.pairs)
		want.commits(t, tree)
		has(t, tree, want.pairs)
	}
}

// TestThereAndBack has a value that is changed and changed back: the nodes are as before, and new if the store has them no more.
func TestThereAndBack(t *testing.T) {
	trie := of([]string{"0000", "0010", "10", "20", "2030"}, 40)
	for _, dropped := range []string{"none", "", "0", "00", "000", "001"} {
		s := stored(trie)
		tree, want := open(t, s, trie.root()), newShadow(s, trie)
		for _, value := range [][]byte{{1}, nil, trie["0000"]} {
			put(t, tree, unhex("0000"), value)
			want.put(unhex("0000"), value)
		}
		count := 0
		if b, ok := trie.at()[dropped]; ok {
			s.Drop(keccak.Sum(b))
			count = 1
		}
		if l := want.commits(t, tree); len(l) != count {
			t.Errorf("P703 Commit after a Put and its undoing, where the node at %q was dropped: %d nodes, not %d", dropped, len(l), count)
		}
		has(t, tree, want.pairs)
	}
}

// TestShortRoot has roots whose encodings are shorter than a hash: they are new nodes nevertheless.
func TestShortRoot(t *testing.T) {
	for _, keys := range [][]string{{""}, {"00"}, {"00", "10"}, {"00", "01"}, {"", "00"}} {
		trie := of(keys, 1)
		s := nodes.NewStore(nil)
		tree, want := open(t, s, api.Word{}), newShadow(s, refTrie{})
		for _, k := range keys {
			put(t, tree, unhex(k), trie[k])
			want.put(unhex(k), trie[k])
		}
		l := want.commits(t, tree)
		if len(l) != 1 || len(l[0].Bytes) >= 32 {
			t.Errorf("P703 Commit of %v: %x", keys, l)
		}
		has(t, tree, trie)
		s.Put(l)
		has(t, open(t, s, trie.root()), trie)
		// The short root comes to stand in another list, and back again.
		for _, value := range [][]byte{bytes.Repeat([]byte{1}, 40), nil} {
			put(t, tree, unhex("f0"), value)
			want.put(unhex("f0"), value)
			want.commits(t, tree)
		}
	}
}

// TestRepeated has equal nodes at several paths: each hash is there once.
func TestRepeated(t *testing.T) {
	s := nodes.NewStore(nil)
	tree, want := open(t, s, api.Word{}), newShadow(s, refTrie{})
	value := bytes.Repeat([]byte{200}, 40)
	for d := range 16 {
		for _, key := range [][]byte{{byte(d << 4), 1}, {byte(d << 4), 2}} {
			put(t, tree, key, value)
			want.put(key, value)
		}
	}
	// The root, the extension, the branch with two leaves, and the leaf.
	if l := want.commits(t, tree); len(l) != 4 {
		t.Errorf("P703 Commit: %d nodes, not 4", len(l))
	}
	has(t, tree, want.pairs)
	for d := range 16 {
		put(t, tree, []byte{byte(d << 4), 1}, nil)
		want.put([]byte{byte(d << 4), 1}, nil)
	}
	if l := want.commits(t, tree); len(l) != 2 {
		t.Errorf("P703 Commit: %d nodes, not 2", len(l))
	}
}

// TestTwoTrees demands that two trees over one store share its nodes only.
func TestTwoTrees(t *testing.T) {
	trie := of([]string{"0000", "0010", "10", "20", "2030"}, 40)
	s := stored(trie)
	one, other := open(t, s, trie.root()), open(t, s, trie.root())
	first, second := newShadow(s, trie), newShadow(s, trie)
	for i, k := range []string{"0000", "10", "30", "2030"} {
		put(t, one, unhex(k), []byte{byte(i + 1)})
		first.put(unhex(k), []byte{byte(i + 1)})
		has(t, other, second.pairs)
		put(t, other, unhex(k), nil)
		second.put(unhex(k), nil)
		has(t, one, first.pairs)
	}
	l := first.commits(t, one)
	has(t, other, second.pairs)
	second.commits(t, other)
	has(t, one, first.pairs)
	if tree, err := nodes.Open(s, first.root()); err != api.ErrMissing || tree != nil {
		t.Errorf("P704 Open of what another tree committed and nobody added: error %d", err)
	}
	s.Put(l)
	third := open(t, s, first.root())
	has(t, third, first.pairs)
	put(t, third, unhex("0010"), nil)
	has(t, one, first.pairs)
	// Both made the same node: it is new in both.
	again := open(t, s, trie.root())
	put(t, again, unhex("40"), []byte("same"))
	twin := open(t, s, trie.root())
	put(t, twin, unhex("40"), []byte("same"))
	root, l := again.Commit()
	twinRoot, twinNodes := twin.Commit()
	if root != twinRoot || !sameNodes(l, twinNodes) || len(l) == 0 {
		t.Errorf("P704 two trees with the same change: %x and %x, %d and %d nodes", root, twinRoot, len(l), len(twinNodes))
	}
	// The same hash in two stores with different Bytes.
	foreign := of([]string{"00", "77"}, 3)
	s2 := nodes.NewStore([]api.Node{{Hash: trie.root(), Bytes: foreign.encoding()}})
	has(t, open(t, s2, trie.root()), foreign)
	has(t, open(t, s, trie.root()), trie)
}

// TestTreeMemory demands that a tree neither changes nor keeps what it is given, and that what it answers is its own no more.
func TestTreeMemory(t *testing.T) {
	r := noise(4)
	s := nodes.NewStore(nil)
	tree, want := open(t, s, api.Word{}), newShadow(s, refTrie{})
	for i := range 200 {
		key, value := spacious(r.key()), spacious(r.value())
		before := fmt.Sprintf("%x %x", key[:cap(key)], value[:cap(value)])
		put(t, tree, key, value)
		want.put(key, value)
		got, err := tree.Get(key)
		if fmt.Sprintf("%x %x", key[:cap(key)], value[:cap(value)]) != before || err != api.OK {
			t.Fatalf("P704 Put or Get changed its arguments, error %d", err)
		}
		wipe(got)
		wipe(key)
		wipe(value)
		if i%20 > 0 {
			continue
		}
		has(t, tree, want.pairs)
		l := want.commits(t, tree)
		s.Put(l)
		apart(t, "the nodes of Commit", l)
		wipeNodes(l)
		pairs, _ := tree.Pairs()
		apartPairs(t, pairs)
		has(t, tree, want.pairs)
		if i%40 == 0 {
			tree = open(t, s, want.root())
		}
	}
	for _, p := range want.pairs.pairs() {
		got, _ := tree.Get(p.Key)
		wipe(got)
		gets(t, tree, p.Key, want.pairs[digitsOf(p.Key)], api.OK)
	}
	if before := s.Nodes(); !sameNodes(before, nodes.NewStore(before).Nodes()) {
		t.Fatalf("P704 the store is changed")
	}
	for _, n := range s.Nodes() {
		if keccak.Sum(n.Bytes) != n.Hash {
			t.Fatalf("P704 the store shares memory with an answer")
		}
	}
}

// apartPairs demands that pairs share no memory with each other, and overwrites them.
func apartPairs(t *testing.T, l []api.Pair) {
	t.Helper()
	var all []api.Node
	for _, p := range l {
		all = append(all, api.Node{Bytes: p.Key}, api.Node{Bytes: p.Value})
	}
	apart(t, "the pairs of Pairs", all)
	clear(l[:cap(l)])
}

// TestStoreOfTree demands that a tree doesn't keep what the store has, nor changes it.
func TestStoreOfTree(t *testing.T) {
	trie := of([]string{"0000", "0010", "10", "20", "2030", ""}, 40, 3)
	s := stored(trie)
	before := s.Nodes()
	tree := open(t, s, trie.root())
	for i, k := range []string{"0000", "10", "40", "2030", "", "0010"} {
		put(t, tree, unhex(k), bytes.Repeat([]byte{1}, i%3*20))
		tree.Get(unhex(k))
		tree.Pairs()
		tree.Commit()
		tree.Put(unhex(k), trie[k])
		tree.Put(make([]byte, 65), []byte{1})
	}
	if !sameNodes(s.Nodes(), before) {
		t.Errorf("P703 a tree changed the store: %x, not %x", s.Nodes(), before)
	}
}

// TestTogether has trees over one store in many goroutines at once.
func TestTogether(t *testing.T) {
	keys := []string{"0000", "0010", "10", "20", "2030"}
	trie := of(keys, 40)
	s := stored(trie)
	changed := maps.Clone(trie)
	changed["10"] = []byte{1}
	delete(changed, "0010")
	root := changed.root()
	shared := open(t, s, trie.root())
	want := trie.pairs()
	var all sync.WaitGroup
	for range 8 {
		all.Go(func() {
			for range 20 {
				tree, err := nodes.Open(s, trie.root())
				if err != api.OK || tree.Put(unhex("10"), []byte{1}) != api.OK || tree.Put(unhex("0010"), nil) != api.OK {
					t.Error("P704 a tree beside others")
				}
				got, l := tree.Commit()
				pairs, _ := shared.Pairs()
				value, _ := shared.Get(unhex("20"))
				if got != root || len(l) == 0 || !samePairs(pairs, want) || !bytes.Equal(value, trie["20"]) {
					t.Error("P704 a tree beside others")
				}
			}
		})
	}
	all.Wait()
}

// numbered is a trie with so many pairs.
func numbered(count int) []api.Pair {
	l := make([]api.Pair, count)
	for i := range l {
		h := keccak.Sum([]byte{byte(i), byte(i >> 8), byte(i >> 16)})
		l[i] = api.Pair{Key: h[:], Value: []byte(strings.Repeat(string(h[:]), 2))}
	}
	return l
}

func TestMany(t *testing.T) {
	l := numbered(3000)
	s := nodes.NewStore(nil)
	tree := open(t, s, api.Word{})
	for from := 0; from < len(l); from += 500 {
		for _, p := range l[from : from+500] {
			put(t, tree, p.Key, p.Value)
		}
		want, _ := trie.Root(l[:from+500])
		root, made := tree.Commit()
		if root != want {
			t.Fatalf("P703 Commit of %d pairs: %x, not %x", from+500, root, want)
		}
		s.Put(made)
		tree = open(t, s, root)
	}
	for _, p := range l[100:] {
		put(t, tree, p.Key, nil)
	}
	want, _ := trie.Root(l[:100])
	if root, _ := tree.Commit(); root != want {
		t.Errorf("P703 Commit of 100 of 3000 pairs: %x, not %x", root, want)
	}
}

func benchTree(b *testing.B) (*nodes.Store, api.Word, []api.Pair) {
	l := numbered(10_000)
	made, _ := trie.Nodes(l)
	root, _ := trie.Root(l)
	return nodes.NewStore(made), root, l
}

func BenchmarkGet(b *testing.B) {
	s, root, l := benchTree(b)
	tree, _ := nodes.Open(s, root)
	i := 0
	for b.Loop() {
		tree.Get(l[i%len(l)].Key)
		i++
	}
}

func BenchmarkPutAndCommit(b *testing.B) {
	s, root, l := benchTree(b)
	i := 0
	for b.Loop() {
		tree, _ := nodes.Open(s, root)
		for range 100 {
			tree.Put(l[i%len(l)].Key, []byte("another value"))
			i++
		}
		tree.Commit()
	}
}

func BenchmarkPairs(b *testing.B) {
	s, root, _ := benchTree(b)
	tree, _ := nodes.Open(s, root)
	for b.Loop() {
		tree.Pairs()
	}
}

// TestNotMade has a store and a tree that no call made: they are empty.
func TestNotMade(t *testing.T) {
	var s nodes.Store
	holds(t, &s)
	lacks(t, &s, hash(1))
	has(t, open(t, &s, api.Word{}), refTrie{})
	s.Put([]api.Node{node(1, "a")})
	holds(t, &s, node(1, "a"))
	var tree nodes.Tree
	want := newShadow(&s, refTrie{})
	has(t, &tree, want.pairs)
	want.commits(t, &tree)
	put(t, &tree, []byte("a"), []byte("b"))
	want.put([]byte("a"), []byte("b"))
	want.commits(t, &tree)
	has(t, &tree, want.pairs)
}
