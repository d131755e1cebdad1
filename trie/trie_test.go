package trie_test

import (
	"bytes"
	"encoding/hex"
	"fmt"
	"slices"
	"strings"
	"sync"
	"testing"

	"muniments/api"
	"muniments/keccak"
	"muniments/trie"
)

const emptyRoot = "56e81f171bcc55a6ff8345e692c0f86e5b48e01b996cadc001622fb5e363b421"

// noise makes bytes that look random and are always the same.
type noise uint32

func (n *noise) byte() byte {
	*n = *n*1664525 + 1013904223
	return byte(*n >> 24)
}

func (n *noise) bytes(count int) []byte {
	b := make([]byte, count)
	for i := range b {
		b[i] = n.byte()
	}
	return b
}

// below is a number from 0 to most - 1.
func (n *noise) below(most int) int {
	return (int(n.byte())<<16 | int(n.byte())<<8 | int(n.byte())) % most
}

// shuffle puts l in another order.
func (n *noise) shuffle(l []api.Pair) {
	for i := range l {
		k := n.below(i + 1)
		l[i], l[k] = l[k], l[i]
	}
}

func pair(key, value string) api.Pair { return api.Pair{Key: []byte(key), Value: []byte(value)} }

// pairs has a pair for each two texts.
func pairs(texts ...string) []api.Pair {
	var l []api.Pair
	for i := 0; i < len(texts); i += 2 {
		l = append(l, pair(texts[i], texts[i+1]))
	}
	return l
}

// hexPairs has a pair for each key, by its digits, and the length of its value.
func hexPairs(keys []string, lengths ...int) []api.Pair {
	var l []api.Pair
	for i, k := range keys {
		l = append(l, api.Pair{Key: unhex(k), Value: bytes.Repeat([]byte{byte(129 + i)}, lengths[i%len(lengths)])})
	}
	return l
}

func tell(l []api.Pair) string {
	var text strings.Builder
	for _, p := range l[:min(len(l), 10)] {
		fmt.Fprintf(&text, "%x: %d bytes; ", p.Key, len(p.Value))
	}
	return fmt.Sprintf("%d pairs: %s", len(l), text.String())
}

// read is the root and the nodes of l, which must lead to its pairs again.
func read(t *testing.T, l []api.Pair) (api.Word, []api.Node) {
	t.Helper()
	root, err := trie.Root(l)
	if err != api.OK {
		t.Fatalf("P601 Root of %s: error %d", tell(l), err)
	}
	nodes, err := trie.Nodes(l)
	if err != api.OK {
		t.Fatalf("P601 Nodes of %s: error %d", tell(l), err)
	}
	for i := range nodes {
		if i > 0 && bytes.Compare(nodes[i-1].Hash[:], nodes[i].Hash[:]) >= 0 {
			t.Fatalf("P601 Nodes of %s: the hashes don't rise at %d", tell(l), i)
		}
	}
	got, fault := readAll(root, nodes)
	if fault != nil {
		t.Fatalf("P601 Root and Nodes of %s: %v", tell(l), fault)
	}
	if !got.same(refOf(l)) {
		t.Fatalf("P601 Nodes of %s have other pairs", tell(l))
	}
	return root, nodes
}

// check holds Root and Nodes against the reference.
func check(t *testing.T, l []api.Pair) {
	t.Helper()
	root, nodes := read(t, l)
	want := refOf(l)
	if root != want.root() {
		t.Fatalf("P601 Root of %s: %x, not %x", tell(l), root, want.root())
	}
	all := want.nodes()
	if len(all) != len(nodes) {
		t.Fatalf("P601 Nodes of %s: %d nodes, not %d", tell(l), len(nodes), len(all))
	}
	for _, n := range nodes {
		if b, ok := all[n.Hash]; !ok || !bytes.Equal(b, n.Bytes) {
			t.Fatalf("P601 Nodes of %s: %x has %x, not %x", tell(l), n.Hash, n.Bytes, b)
		}
	}
}

// refuse demands an error from Root and Nodes, and nothing beside it.
func refuse(t *testing.T, name string, l []api.Pair, want api.Errno) {
	t.Helper()
	if root, err := trie.Root(l); err != want || root != (api.Word{}) {
		t.Errorf("P601 Root of %s: %x, error %d, not %d", name, root, err, want)
	}
	if nodes, err := trie.Nodes(l); err != want || len(nodes) != 0 {
		t.Errorf("P601 Nodes of %s: %d nodes, error %d, not %d", name, len(nodes), err, want)
	}
}

func TestExamples(t *testing.T) {
	root, err := trie.Root(pairs("dog", "puppy", "do", "verb", "doge", "coin", "horse", "stallion"))
	if hex.EncodeToString(root[:]) != "5991bb8c6514148a29db676a14ac506cd2cd5775ace63c30a4fe457715e9ac84" || err != api.OK {
		t.Errorf("P601 Root of dog, do, doge and horse: %x, error %d", root, err)
	}
	for _, none := range [][]api.Pair{nil, {}} {
		root, err := trie.Root(none)
		if hex.EncodeToString(root[:]) != emptyRoot || err != api.OK {
			t.Errorf("P601 Root of no pairs: %x, error %d", root, err)
		}
		nodes, err := trie.Nodes(none)
		if len(nodes) != 0 || err != api.OK {
			t.Errorf("P601 Nodes of no pairs: %v, error %d", nodes, err)
		}
	}
}

// TestKnown has roots that other programs with such tries have.
func TestKnown(t *testing.T) {
	for _, c := range []struct {
		l    []api.Pair
		root string
	}{
		{pairs("A", strings.Repeat("a", 50)), "d23786fb4a010da3ce639d66d5e904a11dbc02746d1ce25029e53290cabf28ab"},
		{pairs("doe", "reindeer", "dog", "puppy", "dogglesworth", "cat"), "8aad789dff2f538bca5d8ea56e8abe10f4c7ba3a5dea95fea4cd6e7c3a1168d3"},
		{pairs("foo", "bar", "food", "bass"), "17beaa1648bafa633cda809c90c04af50fc8aed3cb40d16efbddee6fdf63c4c3"},
		{pairs("be", "e", "dog", "puppy", "bed", "d"), "3f67c7a47520f79faa29255d2d3c084a7a6df0453116ed7232ff10277a8be68b"},
		{pairs("test", "test", "te", "testy"), "8452568af70d8d140f58d941338542f645fcca50094b20f3c3d8c3df49337928"},
		{pairs("\x00\x45", "\x01\x23\x45\x67\x89", "\x45\x00", "\x98\x76\x54\x32\x10"), "285505fcabe84badc8aa310e2aae17eddc7d120aabec8a476902c8184b3a3503"},
	} {
		root, err := trie.Root(c.l)
		if hex.EncodeToString(root[:]) != c.root || err != api.OK {
			t.Errorf("P601 Root of %s: %x, error %d, not %s", tell(c.l), root, err, c.root)
		}
		check(t, c.l)
	}
}

// TestOnePair has a leaf as the root, with each length of a key, and lengths of values at which the encoding changes its form.
func TestOnePair(t *testing.T) {
	r := noise(1)
	for n := range 65 {
		key := r.bytes(n)
		for _, size := range []int{1, 2, 20, 54, 55, 56, 57, 255, 256, 257} {
			check(t, []api.Pair{{Key: key, Value: r.bytes(size)}})
		}
	}
	for _, size := range []int{1<<16 - 1, 1 << 16, 1<<20 - 1, 1 << 20} {
		check(t, []api.Pair{{Key: r.bytes(32), Value: r.bytes(size)}})
	}
	for v := range 256 {
		check(t, []api.Pair{{Value: []byte{byte(v)}}})
		check(t, []api.Pair{{Key: []byte{byte(v)}, Value: []byte{byte(v)}}})
	}
	check(t, []api.Pair{{Key: []byte{}, Value: []byte{1}}})
}

// TestEmptyKey has the encoding of a leaf with an empty path, and of branches with a value.
func TestEmptyKey(t *testing.T) {
	for _, c := range []struct {
		l    []api.Pair
		want string
	}{
		{pairs("", "\x01"), "c22001"},
		{pairs("", "\x80"), "c3208180"},
		{pairs("", "\x01", "\x02", "\x03"), "d3" + "c23203" + strings.Repeat("80", 15) + "01"},
		{pairs("\xff", "\x03", "", "\x01"), "d3" + strings.Repeat("80", 15) + "c23f03" + "01"},
		{pairs("\x02", "\x03", "\x12", "\x04"), "d5" + "c23203" + "c23204" + strings.Repeat("80", 15)},
		{pairs("\x20", "\x03", "\x21", "\x04"), "d7" + "12" + "d5" + "c22003" + "c22004" + strings.Repeat("80", 15)},
		{pairs("\x12\x20", "\x03", "\x12\x21", "\x04"), "d9" + "821122" + "d5" + "c22003" + "c22004" + strings.Repeat("80", 15)},
	} {
		want := unhex(c.want)
		nodes, err := trie.Nodes(c.l)
		if err != api.OK || len(nodes) != 1 || !bytes.Equal(nodes[0].Bytes, want) || nodes[0].Hash != keccak.Sum(want) {
			t.Errorf("P601 Nodes of %s: %x, error %d, not %x", tell(c.l), nodes, err, want)
		}
		if root, err := trie.Root(c.l); err != api.OK || root != keccak.Sum(want) {
			t.Errorf("P601 Root of %s: %x, error %d", tell(c.l), root, err)
		}
		check(t, c.l)
	}
}

// TestReferences has lists with 30 to 33 bytes of each kind, in a branch and in an extension: how many nodes there are tells whether the list stands in the other one.
func TestReferences(t *testing.T) {
	for _, c := range []struct {
		name  string
		keys  []string
		sizes []int
		nodes int
	}{
		{"a leaf with 31 bytes in a branch", []string{"00", "10"}, []int{28, 1}, 1},
		{"a leaf with 32 bytes in a branch", []string{"00", "10"}, []int{29, 1}, 2},
		{"a leaf with 31 bytes and a longer path", []string{"000000", "10"}, []int{25, 1}, 1},
		{"a leaf with 32 bytes and a longer path", []string{"000000", "10"}, []int{26, 1}, 2},
		{"leaves with 31 bytes and 32 bytes", []string{"00", "10", "20"}, []int{28, 29, 28}, 2},
		{"a branch with 31 bytes in an extension", []string{"00", "01"}, []int{5, 4}, 1},
		{"a branch with 32 bytes in an extension", []string{"00", "01"}, []int{5, 5}, 2},
		{"a branch with 31 bytes in a branch", []string{"00", "01", "10"}, []int{5, 4, 1}, 1},
		{"a branch with 32 bytes in a branch", []string{"00", "01", "10"}, []int{5, 5, 1}, 2},
		{"a branch with 31 bytes and a value in an extension", []string{"00", "0000"}, []int{5, 6}, 1},
		{"a branch with 32 bytes and a value in an extension", []string{"00", "0000"}, []int{6, 6}, 2},
		{"an extension with 31 bytes in a branch", []string{"0000", "0001", "10"}, []int{2, 3, 1}, 1},
		{"an extension with 32 bytes in a branch", []string{"0000", "0001", "10"}, []int{3, 3, 1}, 2},
		{"a longer extension with a branch with 31 bytes", []string{"0000", "0001", "10"}, []int{5, 4, 1}, 2},
		{"a longer extension with a branch with 32 bytes", []string{"0000", "0001", "10"}, []int{5, 5, 1}, 3},
	} {
		l := hexPairs(c.keys, c.sizes...)
		if _, nodes := read(t, l); len(nodes) != c.nodes {
			t.Errorf("P601 Nodes of %s: %d nodes, not %d", c.name, len(nodes), c.nodes)
		}
		check(t, l)
	}
}

// TestLengths has all lengths of two values around those at which lists stand in each other no more, with pairs of each kind beside each other.
func TestLengths(t *testing.T) {
	for _, keys := range [][]string{{"00", "10"}, {"00", "01"}, {"", "00"}, {"00", "0000"}, {"0000", "0001"}, {"0000", "0001", "10"}, {"00", "01", "10"}, {"00", "01", ""}, {"0000", "0010", "00"}} {
		for a := 1; a < 36; a++ {
			for b := 1; b < 36; b++ {
				check(t, hexPairs(keys, a, b))
			}
		}
	}
}

// TestFew has each set of 9 keys, with prefixes of each other and without, and values that stand in their lists or don't.
func TestFew(t *testing.T) {
	keys := []string{"", "00", "0000", "000010", "000f", "01", "0123", "10", "f0"}
	for set := range 1 << len(keys) {
		var some []string
		for i, k := range keys {
			if set>>i&1 != 0 {
				some = append(some, k)
			}
		}
		for _, sizes := range [][]int{{1}, {40}, {1, 4, 28, 29, 32}} {
			check(t, hexPairs(some, sizes...))
		}
	}
}

// TestPrefixes has keys of which each is the beginning of the next.
func TestPrefixes(t *testing.T) {
	r := noise(2)
	key := r.bytes(64)
	for _, size := range []int{1, 3, 32, 100} {
		var l []api.Pair
		for n := range 65 {
			l = append(l, api.Pair{Key: key[:n], Value: r.bytes(size)})
		}
		for from := 0; from < len(l); from += 9 {
			check(t, l[from:])
			check(t, l[:from+1])
		}
	}
}

// TestDeep has long keys that differ at one place, at its high nibble or at its low one.
func TestDeep(t *testing.T) {
	r := noise(3)
	key := r.bytes(64)
	for _, size := range []int{1, 5, 40} {
		all := []api.Pair{{Key: key, Value: r.bytes(size)}}
		for n := range key {
			for _, bit := range []byte{1, 16} {
				other := slices.Clone(key)
				other[n] ^= bit
				p := api.Pair{Key: other, Value: r.bytes(size)}
				check(t, []api.Pair{all[0], p})
				all = append(all, p)
			}
		}
		read(t, all)
	}
}

// TestBranches has a pair at each place of a branch, with nibbles on both sides of it.
func TestBranches(t *testing.T) {
	for _, size := range []int{1, 40} {
		var high, low, both []api.Pair
		for d := range 256 {
			p := api.Pair{Key: []byte{byte(d)}, Value: bytes.Repeat([]byte{byte(d)}, size)}
			if d%16 == 7 {
				high = append(high, p)
			}
			if d/16 == 7 {
				low = append(low, p)
			}
			both = append(both, p)
		}
		for _, l := range [][]api.Pair{high, low, both} {
			check(t, l)
			check(t, append(l, api.Pair{Value: []byte{1}}))
		}
	}
}

// TestNoise has sets of many sizes, with keys of one length or of several, whose bytes are many or few.
func TestNoise(t *testing.T) {
	r := noise(4)
	for round := range 400 {
		span := 1 + r.below(256)
		length := r.below(6)
		known := map[string]bool{}
		var l []api.Pair
		for range r.below(60) {
			n := length
			if round%2 == 0 {
				n = r.below(length + 1)
			}
			key := r.bytes(n)
			for i := range key {
				key[i] %= byte(min(span, 255))
			}
			if !known[string(key)] {
				known[string(key)] = true
				l = append(l, api.Pair{Key: key, Value: r.bytes(1 + r.below(45))})
			}
		}
		check(t, l)
	}
}

// TestRepeated has tries that occur at several places: their nodes occur once.
func TestRepeated(t *testing.T) {
	value := bytes.Repeat([]byte{200}, 40)
	var l []api.Pair
	for d := range 16 {
		l = append(l, api.Pair{Key: []byte{byte(d << 4), 1}, Value: value}, api.Pair{Key: []byte{byte(d << 4), 2}, Value: value})
	}
	// The root, the extension, the branch with two leaves, and the leaf.
	if _, nodes := read(t, l); len(nodes) != 4 {
		t.Errorf("P601 Nodes of %s: %d nodes, not 4", tell(l), len(nodes))
	}
	check(t, l)
	two := hexPairs([]string{"01", "11"}, 40)
	two[1].Value = two[0].Value
	if _, nodes := read(t, two); len(nodes) != 2 {
		t.Errorf("P601 Nodes of %s: %d nodes, not 2", tell(two), len(nodes))
	}
	// A node at two depths.
	check(t, []api.Pair{{Key: []byte{0x10}, Value: value}, {Key: []byte{0x22, 0x00}, Value: value}, {Key: []byte{0x22, 0x10}, Value: value}})
}

// permute calls each with all orders of l.
func permute(l []api.Pair, done int, each func([]api.Pair)) {
	if done == len(l) {
		each(l)
		return
	}
	for i := done; i < len(l); i++ {
		l[done], l[i] = l[i], l[done]
		permute(l, done+1, each)
		l[done], l[i] = l[i], l[done]
	}
}

// TestOrder has pairs in other orders.
func TestOrder(t *testing.T) {
	for _, sizes := range [][]int{{1}, {32}, {6, 40}} {
		l := hexPairs([]string{"", "00", "0010", "01", "0123", "f0"}, sizes...)
		root, nodes := read(t, l)
		permute(l, 0, func(l []api.Pair) { sameAgain(t, l, root, nodes) })
	}
	r := noise(5)
	var l []api.Pair
	for i := range 3000 {
		l = append(l, api.Pair{Key: append(r.bytes(r.below(3)), byte(i>>8), byte(i), 3), Value: r.bytes(1 + r.below(50))})
	}
	root, nodes := read(t, l)
	for range 5 {
		r.shuffle(l)
		sameAgain(t, l, root, nodes)
	}
}

// sameAgain demands this root and these nodes of l.
func sameAgain(t *testing.T, l []api.Pair, root api.Word, nodes []api.Node) {
	t.Helper()
	if again, err := trie.Root(l); again != root || err != api.OK {
		t.Fatalf("P602 Root of %s: %x, error %d, and in another order %x", tell(l), again, err, root)
	}
	if again, err := trie.Nodes(l); !sameNodes(again, nodes) || err != api.OK {
		t.Fatalf("P602 Nodes of %s are others in another order", tell(l))
	}
}

func sameNodes(a, b []api.Node) bool {
	return slices.EqualFunc(a, b, func(x, y api.Node) bool { return x.Hash == y.Hash && bytes.Equal(x.Bytes, y.Bytes) })
}

// numbered has so many pairs with different keys.
func numbered(count int) []api.Pair {
	l := make([]api.Pair, count)
	for i := range l {
		b := []byte{byte(i), byte(i >> 8), byte(i >> 16), 5}
		l[i] = api.Pair{Key: b[:3], Value: b}
	}
	return l
}

// TestMost has as many pairs, and such long ones, as there may be.
func TestMost(t *testing.T) {
	read(t, numbered(100_000))
	read(t, numbered(99_999))
	l := numbered(10)
	l[3].Key = bytes.Repeat([]byte{7}, 64)
	l[4].Key = bytes.Repeat([]byte{7}, 63)
	l[5].Value = bytes.Repeat([]byte{7}, 1<<20)
	l[6] = api.Pair{Value: bytes.Repeat([]byte{8}, 1<<20)}
	check(t, l)
}

func TestErrors(t *testing.T) {
	longKey := api.Pair{Key: make([]byte, 65), Value: []byte{1}}
	longValue := api.Pair{Key: []byte{1}, Value: make([]byte, 1<<20+1)}
	noValue := api.Pair{Key: []byte{2}}
	emptyValue := api.Pair{Key: []byte{2}, Value: []byte{}}
	good := pairs("dog", "puppy", "do", "verb", "doge", "coin", "horse", "stallion")
	other := pair("dog", "cat")
	many := numbered(100_001)
	for _, c := range []struct {
		name string
		bad  []api.Pair
		want api.Errno
	}{
		{"a key with 65 bytes", []api.Pair{longKey}, api.ErrLong},
		{"a key with 1000 bytes", []api.Pair{{Key: make([]byte, 1000), Value: []byte{1}}}, api.ErrLong},
		{"a value with 2^20 + 1 bytes", []api.Pair{longValue}, api.ErrLong},
		{"a value with 2^24 + 1 bytes", []api.Pair{{Key: []byte{1}, Value: make([]byte, 1<<24+1)}}, api.ErrLong},
		{"no value", []api.Pair{noValue}, api.ErrArg},
		{"an empty value", []api.Pair{emptyValue}, api.ErrArg},
		{"an empty key without a value", []api.Pair{{}}, api.ErrArg},
		{"a key twice", []api.Pair{good[0], good[0]}, api.ErrArg},
		{"a key twice with two values", []api.Pair{good[0], other}, api.ErrArg},
		{"an empty key twice", []api.Pair{{Value: []byte{1}}, {Key: []byte{}, Value: []byte{2}}}, api.ErrArg},
		{"a key three times", []api.Pair{other, good[0], other}, api.ErrArg},
		{"two keys twice", []api.Pair{good[1], other, good[0], good[1]}, api.ErrArg},
		{"a key twice and an empty value", []api.Pair{other, good[0], emptyValue}, api.ErrArg},
		{"a long key and a long value", []api.Pair{longKey, longValue}, api.ErrLong},
		{"a long key without a value", []api.Pair{{Key: make([]byte, 65)}}, api.ErrLong},
		{"a long key twice", []api.Pair{longKey, longKey}, api.ErrLong},
		{"an empty value and a long key", []api.Pair{emptyValue, longKey}, api.ErrLong},
		{"an empty value and a long value", []api.Pair{noValue, longValue}, api.ErrLong},
		{"a key twice and a long key", []api.Pair{other, good[0], longKey}, api.ErrLong},
		{"a key twice and a long value", []api.Pair{other, good[0], longValue}, api.ErrLong},
		{"a long value twice", []api.Pair{longValue, longValue}, api.ErrLong},
	} {
		refuse(t, c.name, c.bad, c.want)
		backward := slices.Clone(c.bad)
		slices.Reverse(backward)
		refuse(t, c.name+", backward", backward, c.want)
		refuse(t, c.name+", and more behind", append(slices.Clone(c.bad), pairs("x", "y", "z", "a")...), c.want)
		refuse(t, c.name+", and more ahead", append(pairs("x", "y", "z", "a"), c.bad...), c.want)
		for from := range c.bad {
			refuse(t, c.name+", and more between", slices.Insert(slices.Clone(c.bad), from, numbered(9)...), c.want)
		}
	}
	refuse(t, "100,001 pairs", many, api.ErrLong)
	refuse(t, "100,001 times a pair", slices.Repeat(good[:1], 100_001), api.ErrLong)
	refuse(t, "100,001 pairs of nothing", make([]api.Pair, 100_001), api.ErrLong)
	refuse(t, "100,000 pairs of nothing", make([]api.Pair, 100_000), api.ErrArg)
	refuse(t, "100,000 times a pair", slices.Repeat(good[:1], 100_000), api.ErrArg)
	refuse(t, "a key twice at both ends", append(numbered(50_000), numbered(1)...), api.ErrArg)
}

// spacious is a copy of b with something in its spare capacity.
func spacious(b []byte) []byte {
	room := append(slices.Clone(b), "spare"...)
	return room[:len(b)]
}

// spaciousPairs is a copy of l, with something in all spare capacities.
func spaciousPairs(l []api.Pair) []api.Pair {
	var all []api.Pair
	for _, p := range l {
		all = append(all, api.Pair{Key: spacious(p.Key), Value: spacious(p.Value)})
	}
	return append(all, pair("spare", "pair"))[:len(l)]
}

// whole is all that a list of pairs holds, with the spare capacities.
func whole(l []api.Pair) string {
	var text strings.Builder
	for _, p := range l[:len(l)+1] {
		fmt.Fprintf(&text, "%x %x;", p.Key[:cap(p.Key)], p.Value[:cap(p.Value)])
	}
	return text.String()
}

// wipe overwrites the bytes of l with their spare capacity.
func wipe(l [][]byte) {
	for _, b := range l {
		for i := range b[:cap(b)] {
			b[:cap(b)][i] = 99
		}
	}
}

func bytesOf(nodes []api.Node) [][]byte {
	var l [][]byte
	for _, n := range nodes {
		l = append(l, n.Bytes)
	}
	return l
}

func cloneNodes(nodes []api.Node) []api.Node {
	var l []api.Node
	for _, n := range nodes {
		l = append(l, api.Node{Hash: n.Hash, Bytes: slices.Clone(n.Bytes)})
	}
	return l
}

// TestArguments demands that what is given stays as it is, in its order, with the spare capacity, and that the results share nothing with it and with each other.
func TestArguments(t *testing.T) {
	for _, l := range [][]api.Pair{
		nil,
		pairs("", "x"),
		pairs("horse", strings.Repeat("stallion", 9), "dog", "puppy", "do", "verb", "doge", "coin"),
		hexPairs([]string{"20", "10", "00", "0010", ""}, 40, 28, 32),
		pairs("b", "x", "a", ""),
		pairs("b", "x", "a", "y", "b", "z"),
		{{Key: make([]byte, 65), Value: []byte{1}}, {Key: []byte{1}, Value: []byte{1}}},
	} {
		arg := spaciousPairs(l)
		before := whole(arg)
		root, err := trie.Root(arg)
		nodes, nodesErr := trie.Nodes(arg)
		again, _ := trie.Nodes(arg)
		if whole(arg) != before {
			t.Fatalf("P602 the pairs are changed: %s, not %s", whole(arg), before)
		}
		want := cloneNodes(nodes)
		if err != nodesErr || !sameNodes(again, want) {
			t.Fatalf("P602 Nodes of %s: error %d, Root: error %d", tell(l), nodesErr, err)
		}
		for _, p := range arg {
			wipe([][]byte{p.Key, p.Value})
		}
		if !sameNodes(nodes, want) {
			t.Fatalf("P602 the nodes of %s share memory with the pairs", tell(l))
		}
		for i := range nodes {
			wipe(bytesOf(nodes[i : i+1]))
			if !sameNodes(nodes[i+1:], want[i+1:]) {
				t.Fatalf("P602 the nodes of %s share memory with each other", tell(l))
			}
		}
		clear(nodes[:cap(nodes)])
		if !sameNodes(again, want) {
			t.Fatalf("P602 the nodes of %s share memory with those of another call", tell(l))
		}
		if err == api.OK {
			sameAgain(t, spaciousPairs(l), root, want)
		}
	}
}

// TestTogether calls everything from many goroutines at once, with the same pairs for all.
func TestTogether(t *testing.T) {
	l := numbered(200)
	l = append(l, pairs("dog", "puppy", "horse", strings.Repeat("stallion", 9))...)
	root, nodes := read(t, l)
	wrong := append(slices.Clone(l), l[0])
	var all sync.WaitGroup
	for range 8 {
		all.Go(func() {
			for range 20 {
				again, err := trie.Root(l)
				same, nodesErr := trie.Nodes(l)
				_, wrongErr := trie.Root(wrong)
				if again != root || err != api.OK || !sameNodes(same, nodes) || nodesErr != api.OK || wrongErr != api.ErrArg {
					t.Error("P602 a call beside others")
				}
			}
		})
	}
	all.Wait()
}

func BenchmarkRoot(b *testing.B) {
	l := numbered(10_000)
	for b.Loop() {
		trie.Root(l)
	}
}

func BenchmarkNodes(b *testing.B) {
	l := numbered(10_000)
	for b.Loop() {
		trie.Nodes(l)
	}
}
