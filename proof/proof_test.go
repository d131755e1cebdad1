package proof_test

import (
	"bytes"
	"fmt"
	"slices"
	"strings"
	"sync"
	"testing"

	"muniments/api"
	"muniments/proof"
	"muniments/trie"
)

// noise makes bytes that look random and are always the same.
type noise uint32

func (n *noise) byte() byte {
	*n = *n*1664525 + 1013904223
	return byte(*n >> 24)
}

func (n *noise) bytes(count int) []byte {
	b := make([]byte, count)
	for i := range b {
		b[i] = n.byte()
	}
	return b
}

// below is a number from 0 to most - 1.
func (n *noise) below(most int) int {
	return (int(n.byte())<<16 | int(n.byte())<<8 | int(n.byte())) % most
}

// shuffle puts l in another order.
func (n *noise) shuffle(l []api.Pair) {
	for i := range l {
		k := n.below(i + 1)
		l[i], l[k] = l[k], l[i]
	}
}

// pairs has a pair for each key, by its digits, and the length of its value; no two values are the same.
func pairs(keys []string, lengths ...int) []api.Pair {
	var l []api.Pair
	for i, k := range keys {
		l = append(l, api.Pair{Key: unhex(k), Value: bytes.Repeat([]byte{byte(129 + i)}, lengths[i%len(lengths)])})
	}
	return l
}

// numbered has so many pairs with different keys.
func numbered(count int) []api.Pair {
	l := make([]api.Pair, count)
	for i := range l {
		b := []byte{byte(i), byte(i >> 8), byte(i >> 16), 5}
		l[i] = api.Pair{Key: b[:3], Value: b}
	}
	return l
}

func tell(l []api.Pair) string {
	var text strings.Builder
	for _, p := range l[:min(len(l), 10)] {
		fmt.Fprintf(&text, "%x: %d bytes; ", p.Key, len(p.Value))
	}
	return fmt.Sprintf("%d pairs: %s", len(l), text.String())
}

// rootOf is the root of the pairs l.
func rootOf(t *testing.T, l []api.Pair) api.Word {
	t.Helper()
	root, err := trie.Root(l)
	if err != api.OK {
		t.Fatalf("Root of %s: error %d", tell(l), err)
	}
	return root
}

// contents is what Check has to answer of the pairs l.
func contents(l []api.Pair, key []byte) answer {
	for _, p := range l {
		if bytes.Equal(p.Key, key) {
			return answer{value: string(p.Value), has: true}
		}
	}
	return answer{}
}

// prove is what Prove answers of pairs that have no fault.
func prove(t *testing.T, l []api.Pair, key []byte) [][]byte {
	t.Helper()
	p, err := proof.Prove(l, key)
	if err != api.OK {
		t.Fatalf("P801 Prove of %x in %s: error %d", key, tell(l), err)
	}
	return p
}

// checks demands an answer of Check.
func checks(t *testing.T, name string, root api.Word, key []byte, p [][]byte, want answer) {
	t.Helper()
	value, has, err := proof.Check(root, key, p)
	if got := (answer{string(value), has, err}); got != want {
		t.Fatalf("P801 Check of %x with %d nodes, %s: %v, not %v", key, len(p), name, got, want)
	}
}

// proves demands of Prove the one list of nodes with which the reference finds in the trie just what the pairs have, and the same of Check.
func proves(t *testing.T, l []api.Pair, root api.Word, key []byte) {
	t.Helper()
	p := prove(t, l, key)
	want := contents(l, key)
	if got := refCheck(root, key, p); got != want {
		t.Fatalf("P801 Prove of %x in %s: %d nodes that prove %v, not %v", key, tell(l), len(p), got, want)
	}
	checks(t, "P802 "+tell(l), root, key, p, want)
}

// provesAll does so for all keys of l, and for others.
func provesAll(t *testing.T, l []api.Pair, others ...[]byte) {
	t.Helper()
	root := rootOf(t, l)
	for _, p := range l {
		proves(t, l, root, p.Key)
	}
	for _, key := range others {
		proves(t, l, root, key)
	}
}

func TestEmpty(t *testing.T) {
	for _, none := range [][]api.Pair{nil, {}} {
		for _, key := range [][]byte{nil, {}, {1}, []byte("dog"), make([]byte, 65)} {
			if p, err := proof.Prove(none, key); err != api.OK || len(p) != 0 {
				t.Errorf("P801 Prove of %x in an empty trie: %x, error %d", key, p, err)
			}
			proves(t, none, emptyRoot, key)
		}
	}
}

// steps is what Prove has for a key: the lists by the digits that stand for them in a text.
type steps map[string]string

// byHand demands of Prove the lists that steps tells, the first list being the root.
func byHand(t *testing.T, l []api.Pair, all steps, lists ...api.Item) {
	t.Helper()
	root := rootOf(t, l)
	if root != hashed(encoding(lists[0])) {
		t.Fatalf("%s: the lists are wrong", tell(l))
	}
	for k, text := range all {
		var want [][]byte
		for _, c := range text {
			want = append(want, encoding(lists[c-'0']))
		}
		if p := prove(t, l, unhex(k)); !slices.EqualFunc(p, want, bytes.Equal) {
			t.Errorf("P801 Prove of %q in %s: %x, not %x", k, tell(l), p, want)
		}
		proves(t, l, root, unhex(k))
	}
}

// TestByHand has tries whose lists are written out, with paths that end at a value, ahead of one, beside one and behind one.
func TestByHand(t *testing.T) {
	value := func(n, size int) []byte { return bytes.Repeat([]byte{byte(129 + n)}, size) }

	one := aLeaf("1234", value(0, 40))
	byHand(t, pairs([]string{"1234"}, 40), steps{"1234": "0", "": "0", "12": "0", "123456": "0", "1235": "0", "ff": "0"}, one)
	byHand(t, pairs([]string{"1234"}, 1), steps{"1234": "0", "": "0", "99": "0"}, aLeaf("1234", value(0, 1)))
	byHand(t, pairs([]string{""}, 1), steps{"": "0", "00": "0"}, aLeaf("", value(0, 1)))

	first, second, third := aLeaf("1", value(0, 40)), aLeaf("1", value(1, 40)), aLeaf("0", value(2, 40))
	fork := aBranch("12", refer(first), refer(second))
	extension := anExtension("1", refer(fork))
	root := aBranch("12", refer(extension), refer(third))
	byHand(t, pairs([]string{"1111", "1121", "20"}, 40), steps{
		"1111": "0123", "1121": "0124", "20": "05",
		"1112": "0123", "1120": "0124", "111111": "0123", "112100": "0124", "1131": "012", "11": "012", "12": "01", "1011": "01",
		"21": "05", "2000": "05", "30": "0", "": "0", "ffff": "0",
	}, root, extension, fork, first, second, third)

	// A root that is an extension, values in branches, and a branch behind the last nibble of a leaf's path.
	deep := aLeaf("0", value(2, 40))
	inner := aBranch("0v", refer(deep), text(value(1, 40)))
	extension = anExtension("0", refer(inner))
	outer := aBranch("0v", refer(extension), text(value(0, 40)))
	root = anExtension("ab", refer(outer))
	byHand(t, pairs([]string{"ab", "ab00", "ab0000"}, 40), steps{
		"ab": "01", "ab00": "0123", "ab0000": "01234",
		"ab0001": "01234", "ab000000": "01234", "ab0010": "0123", "ab01": "012", "ab10": "01", "": "0", "ac": "0", "a0": "0", "ba": "0",
	}, root, outer, extension, inner, deep)

	// Lists within lists: only the root is referred to by its hash, and what is long.
	small := aBranch("12", aLeaf("", value(0, 1)), aLeaf("", value(1, 1)))
	extension = anExtension("00", small)
	third = aLeaf("0", value(2, 1))
	byHand(t, pairs([]string{"1001", "1002", "30"}, 1), steps{
		"1001": "0", "1002": "0", "30": "0", "1003": "0", "100100": "0", "10": "0", "31": "0", "20": "0", "": "0",
	}, aBranch("13", extension, third))
	fourth := aLeaf("0", value(3, 40))
	byHand(t, pairs([]string{"1001", "1002", "30", "40"}, 1, 1, 1, 40), steps{
		"1001": "0", "1002": "0", "30": "0", "40": "01", "41": "01", "4000": "01", "50": "0", "10": "0",
	}, aBranch("134", extension, third, hashOf(fourth)), fourth)
}

// TestBorder has leaves and branches with 31 bytes, which stand in the list above, and with 32 bytes, which don't.
func TestBorder(t *testing.T) {
	for _, c := range []struct {
		name  string
		keys  []string
		sizes []int
		key   string
		count int
	}{
		{"a leaf with 31 bytes", []string{"00", "10"}, []int{28, 1}, "00", 1},
		{"a leaf with 32 bytes", []string{"00", "10"}, []int{29, 1}, "00", 2},
		{"beside a leaf with 32 bytes", []string{"00", "10"}, []int{29, 1}, "10", 1},
		{"ahead of a leaf with 32 bytes", []string{"00", "10"}, []int{29, 1}, "01", 2},
		{"a branch with 31 bytes", []string{"00", "01"}, []int{5, 4}, "00", 1},
		{"a branch with 32 bytes", []string{"00", "01"}, []int{5, 5}, "00", 2},
		{"a way past a branch with 32 bytes", []string{"00", "01"}, []int{5, 5}, "10", 1},
		{"a short root with a branch in an extension", []string{"00", "01"}, []int{1}, "01", 1},
	} {
		l := pairs(c.keys, c.sizes...)
		if p := prove(t, l, unhex(c.key)); len(p) != c.count {
			t.Errorf("P801 Prove with %s: %d nodes, not %d", c.name, len(p), c.count)
		}
		provesAll(t, l, unhex(c.key))
	}
}

// TestFew has each set of 9 keys, with prefixes of each other and without, and values that stand in their lists or don't.
func TestFew(t *testing.T) {
	keys := []string{"", "00", "0000", "000010", "000f", "01", "0123", "10", "f0"}
	others := [][]byte{unhex("000011"), unhex("00001000"), unhex("0001"), unhex("0120"), unhex("02"), unhex("11"), unhex("f000"), unhex("ff"), unhex("f1")}
	for set := range 1 << len(keys) {
		var some []string
		asked := slices.Clone(others)
		for i, k := range keys {
			if set>>i&1 != 0 {
				some = append(some, k)
			} else {
				asked = append(asked, unhex(k))
			}
		}
		for _, sizes := range [][]int{{1}, {40}, {1, 4, 28, 29, 32}} {
			provesAll(t, pairs(some, sizes...), asked...)
		}
	}
}

// TestDeep has keys of which each is the beginning of the next, and keys that differ at one place; the longest way has 129 nodes.
func TestDeep(t *testing.T) {
	r := noise(1)
	key := r.bytes(64)
	for _, size := range []int{1, 40} {
		var l []api.Pair
		for n := range 65 {
			l = append(l, api.Pair{Key: key[:n], Value: r.bytes(size)})
		}
		for n := range key {
			other := slices.Clone(key)
			other[n] ^= 1
			l = append(l, api.Pair{Key: other, Value: r.bytes(size)})
		}
		provesAll(t, l, append(slices.Clone(key), 0), append(slices.Clone(key[:40]), 0, 0, 0))
		if p := prove(t, l, key); len(p) != 129 && size == 40 {
			t.Errorf("P801 Prove of a key with 64 bytes in 129 pairs: %d nodes, not 129", len(p))
		}
	}
}

// TestLongKeys has keys that no pair can have: the path leads as far as for any other key.
func TestLongKeys(t *testing.T) {
	for _, size := range []int{1, 40} {
		key := bytes.Repeat([]byte{0x11}, 64)
		l := []api.Pair{{Key: key, Value: long(size)}, {Key: key[:63], Value: long(size)}, {Key: []byte{0x20}, Value: long(size)}, {Key: []byte{0x12}, Value: long(size)}}
		for _, n := range []int{64, 65, 66, 128, 1000, 100_000} {
			for _, first := range []byte{0x11, 0x12, 0x20, 0x30} {
				proves(t, l, rootOf(t, l), bytes.Repeat([]byte{first}, n))
				proves(t, l, rootOf(t, l), append([]byte{first}, bytes.Repeat(key, 10)...))
			}
		}
		if same := prove(t, l, bytes.Repeat(key, 2)); !slices.EqualFunc(same, prove(t, l, key), bytes.Equal) {
			t.Errorf("P801 Prove of a key with 128 bytes: %d nodes", len(same))
		}
	}
}

// TestNoise has sets of many sizes, with keys of one length or of several, whose bytes are many or few.
func TestNoise(t *testing.T) {
	r := noise(2)
	for round := range 200 {
		span := 1 + r.below(256)
		length := r.below(6)
		key := func() []byte {
			n := length
			if round%2 == 0 {
				n = r.below(length + 1)
			}
			k := r.bytes(n)
			for i := range k {
				k[i] %= byte(min(span, 255))
			}
			return k
		}
		known := map[string]bool{}
		var l []api.Pair
		for range r.below(60) {
			if k := key(); !known[string(k)] {
				known[string(k)] = true
				l = append(l, api.Pair{Key: k, Value: r.bytes(1 + r.below(45))})
			}
		}
		provesAll(t, l, key(), key(), key(), append(key(), r.byte()), nil)
	}
}

// TestRepeated has a trie that occurs at several places, so that one node stands in the proofs of many keys.
func TestRepeated(t *testing.T) {
	var l []api.Pair
	for d := range 16 {
		l = append(l, api.Pair{Key: []byte{byte(d << 4), 1}, Value: long(40)}, api.Pair{Key: []byte{byte(d << 4), 2}, Value: long(40)})
	}
	provesAll(t, l, []byte{0, 3}, []byte{1, 1})
	if p := prove(t, l, []byte{0x70, 2}); len(p) != 4 {
		t.Errorf("P801 Prove in a trie with equal nodes: %d nodes, not 4", len(p))
	}
}

// TestOrder has pairs in other orders.
func TestOrder(t *testing.T) {
	r := noise(3)
	l := append(numbered(300), pairs([]string{"", "00", "0010", "01", "0123", "f0"}, 6, 40)...)
	asked := [][]byte{nil, {0}, {0, 0x10}, {5, 1, 0}, {5, 1, 1}, {5}}
	var want [][][]byte
	for _, key := range asked {
		want = append(want, prove(t, l, key))
	}
	for range 5 {
		r.shuffle(l)
		for i, key := range asked {
			if p := prove(t, l, key); !slices.EqualFunc(p, want[i], bytes.Equal) {
				t.Errorf("P801 Prove of %x in another order: %x, not %x", key, p, want[i])
			}
		}
	}
}

// TestMost has as many pairs, and such long ones, as there may be.
func TestMost(t *testing.T) {
	l := numbered(100_000)
	proves(t, l, rootOf(t, l), l[77_777].Key)
	proves(t, l, rootOf(t, l), []byte{7})
	l = l[:9]
	l = append(l, api.Pair{Key: make([]byte, 64), Value: long(1 << 20)}, api.Pair{Value: long(1 << 20)})
	provesAll(t, l, make([]byte, 63), make([]byte, 65))
}

// TestProveErrors has pairs that have no trie, and keys of all kinds: the key is never a fault.
func TestProveErrors(t *testing.T) {
	longKey := api.Pair{Key: make([]byte, 65), Value: []byte{1}}
	longValue := api.Pair{Key: []byte{1}, Value: make([]byte, 1<<20+1)}
	noValue := api.Pair{Key: []byte{2}}
	good := pairs([]string{"00", "0001", "10", "ff"}, 40)
	for _, c := range []struct {
		name string
		l    []api.Pair
		want api.Errno
	}{
		{"no value", []api.Pair{noValue}, api.ErrArg},
		{"an empty value", []api.Pair{{Key: []byte{2}, Value: []byte{}}}, api.ErrArg},
		{"an empty value among others", append(slices.Clone(good), noValue), api.ErrArg},
		{"a key twice", append(slices.Clone(good), good[1]), api.ErrArg},
		{"a key twice with two values", append(slices.Clone(good), api.Pair{Key: good[1].Key, Value: []byte{1}}), api.ErrArg},
		{"a key with 65 bytes", append(slices.Clone(good), longKey), api.ErrLong},
		{"a value with 2^20 + 1 bytes", append(slices.Clone(good), longValue), api.ErrLong},
		{"100,001 pairs", numbered(100_001), api.ErrLong},
		{"100,001 pairs of nothing", make([]api.Pair, 100_001), api.ErrLong},
		{"100,000 pairs of nothing", make([]api.Pair, 100_000), api.ErrArg},
		{"an empty value and a long key", []api.Pair{noValue, longKey}, api.ErrLong},
		{"a key twice and a long value", []api.Pair{good[0], good[0], longValue}, api.ErrLong},
	} {
		for _, key := range [][]byte{nil, {2}, {0}, {0, 1}, {0xff}, make([]byte, 65), {1}} {
			if p, err := proof.Prove(c.l, key); err != c.want || len(p) != 0 {
				t.Errorf("P801 Prove of %x in pairs with %s: %x, error %d, not %d", key, c.name, p, err, c.want)
			}
		}
	}
}

// spacious is a copy of b with something in its spare capacity.
func spacious(b []byte) []byte {
	room := append(slices.Clone(b), "spare"...)
	return room[:len(b)]
}

// spaciousPairs is a copy of l, with something in all spare capacities.
func spaciousPairs(l []api.Pair) []api.Pair {
	all := []api.Pair{}
	for _, p := range l {
		all = append(all, api.Pair{Key: spacious(p.Key), Value: spacious(p.Value)})
	}
	return append(all, api.Pair{Key: []byte("spare"), Value: []byte("pair")})[:len(l)]
}

// spaciousProof is a copy of p, with something in all spare capacities.
func spaciousProof(p [][]byte) [][]byte {
	all := [][]byte{}
	for _, b := range p {
		all = append(all, spacious(b))
	}
	return append(all, []byte("spare"))[:len(p)]
}

// whole is all that the arguments hold, with the spare capacities.
func whole(l []api.Pair, key []byte, p [][]byte) string {
	var text strings.Builder
	for _, p := range l[:cap(l)] {
		fmt.Fprintf(&text, "%x %x;", p.Key[:cap(p.Key)], p.Value[:cap(p.Value)])
	}
	for _, b := range p[:cap(p)] {
		fmt.Fprintf(&text, "%x,", b[:cap(b)])
	}
	return fmt.Sprintf("%s %x", text.String(), key[:cap(key)])
}

// wipe overwrites b with its spare capacity.
func wipe(b []byte) {
	for i := range b[:cap(b)] {
		b[:cap(b)][i] = 99
	}
}

// TestArguments demands that what is given stays as it is, in its order, with the spare capacity, and that the results share nothing with it and with each other.
func TestArguments(t *testing.T) {
	wide := pairs([]string{"ab0000", "ab", "f0", "ab00", "ab0001"}, 40)
	for _, l := range [][]api.Pair{
		nil,
		pairs([]string{"1234"}, 40),
		pairs([]string{"1234"}, 1),
		wide,
		pairs([]string{"f0", "00", "0001", ""}, 1),
		append(slices.Clone(wide), wide[0]),
		append(slices.Clone(wide), api.Pair{Key: make([]byte, 65), Value: []byte{1}}),
	} {
		for _, k := range []string{"", "ab00", "ab0000", "ab0002", "1234", "f0", "f1"} {
			arg, key := spaciousPairs(l), spacious(unhex(k))
			before := whole(arg, key, nil)
			p, err := proof.Prove(arg, key)
			again, sameErr := proof.Prove(arg, key)
			if whole(arg, key, nil) != before {
				t.Fatalf("P802 Prove of %s changes its arguments: %s, not %s", k, whole(arg, key, nil), before)
			}
			want := spaciousProof(p)
			for _, pair := range arg {
				wipe(pair.Key)
				wipe(pair.Value)
			}
			wipe(key)
			if err != sameErr || !slices.EqualFunc(p, want, bytes.Equal) {
				t.Fatalf("P802 Prove of %s shares memory with its arguments", k)
			}
			for i := range p {
				wipe(p[i])
				if !slices.EqualFunc(p[i+1:], want[i+1:], bytes.Equal) {
					t.Fatalf("P802 the nodes of %s share memory with each other", k)
				}
			}
			clear(p[:cap(p)])
			if !slices.EqualFunc(again, want, bytes.Equal) {
				t.Fatalf("P802 the nodes of %s share memory with those of another call", k)
			}
		}
	}
}

// TestCheckArguments does the same for Check, with proofs that are right, too short, too long and wrong.
func TestCheckArguments(t *testing.T) {
	l := pairs([]string{"ab0000", "ab", "f0", "ab00", "ab0001"}, 40)
	for _, k := range []string{"", "ab", "ab00", "ab0000", "ab0002", "f0", "f1"} {
		right := prove(t, l, unhex(k))
		wrong := spaciousProof(right)
		wrong[len(wrong)-1][0]++
		for _, p := range [][][]byte{right, right[:len(right)-1], append(slices.Clone(right), []byte{1}), wrong} {
			arg, key := spaciousProof(p), spacious(unhex(k))
			want := refCheck(rootOf(t, l), key, arg)
			before := whole(nil, key, arg)
			value, has, err := proof.Check(rootOf(t, l), key, arg)
			again, _, _ := proof.Check(rootOf(t, l), key, arg)
			if whole(nil, key, arg) != before {
				t.Fatalf("P802 Check of %s changes its arguments: %s, not %s", k, whole(nil, key, arg), before)
			}
			for _, b := range arg {
				wipe(b)
			}
			wipe(key)
			if got := (answer{string(value), has, err}); got != want {
				t.Fatalf("P802 Check of %s: %v, not %v", k, got, want)
			}
			wipe(value)
			if string(again) != want.value {
				t.Fatalf("P802 the values of %s share memory", k)
			}
		}
	}
}

// TestTogether calls everything from many goroutines at once, with the same arguments for all.
func TestTogether(t *testing.T) {
	l := numbered(200)
	root, key := rootOf(t, l), l[123].Key
	want := prove(t, l, key)
	var all sync.WaitGroup
	for range 8 {
		all.Go(func() {
			for range 20 {
				p, err := proof.Prove(l, key)
				value, has, checkErr := proof.Check(root, key, want)
				if err != api.OK || !slices.EqualFunc(p, want, bytes.Equal) || !has || checkErr != api.OK || !bytes.Equal(value, l[123].Value) {
					t.Error("P802 a call beside others")
				}
			}
		})
	}
	all.Wait()
}

func BenchmarkProve(b *testing.B) {
	l := numbered(10_000)
	for b.Loop() {
		proof.Prove(l, l[7777].Key)
	}
}

func BenchmarkCheck(b *testing.B) {
	l := numbered(10_000)
	root, _ := trie.Root(l)
	p, _ := proof.Prove(l, l[7777].Key)
	for b.Loop() {
		proof.Check(root, l[7777].Key, p)
	}
}
