package proof_test

import (
	"encoding/hex"
	"fmt"
	"slices"
	"strings"
	"testing"

	"muniments/api"
)

func TestEmptyRoot(t *testing.T) {
	for _, key := range [][]byte{nil, {}, {0x12}, make([]byte, 100)} {
		checks(t, "an empty trie", emptyRoot, key, nil, answer{})
		checks(t, "an empty trie", emptyRoot, key, [][]byte{}, answer{})
		for _, p := range [][][]byte{{nil}, {{128}}, {{}, {}}, encodings(aLeaf("12", long(1))), encodings(aLeaf("12", long(40)), aLeaf("", long(1)))} {
			checks(t, "an empty trie", emptyRoot, key, p, answer{err: api.ErrLong})
		}
	}
}

// TestNoRoot has roots of which there is no node; the zero word is one of them.
func TestNoRoot(t *testing.T) {
	leaf := encoding(aLeaf("12", long(40)))
	next := hashed(leaf)
	next[31]++
	for _, root := range []api.Word{{}, {1}, hashed(nil), next} {
		for _, p := range [][][]byte{nil, {}, {leaf}, {leaf, leaf}, {{128}}, {{1}}} {
			checks(t, "a wrong root", root, unhex("12"), p, answer{err: api.ErrSum})
		}
	}
}

// turned is one of the changes of a proof that some place of it makes wrong, and where.
type turned struct {
	name string
	p    [][]byte
	want api.Errno
}

// turns has changes of p at the place i.
func turns(p [][]byte, i int) []turned {
	with := func(b []byte) [][]byte {
		other := slices.Clone(p)
		other[i] = b
		return other
	}
	flipped := slices.Clone(p[i])
	flipped[len(flipped)/2] ^= 1
	all := []turned{
		{"a missing node", slices.Delete(slices.Clone(p), i, i+1), api.ErrSum},
		{"no more nodes", p[:i], api.ErrSum},
		{"a turned bit", with(flipped), api.ErrSum},
		{"a byte less", with(p[i][:len(p[i])-1]), api.ErrSum},
		{"a byte more", with(append(slices.Clone(p[i]), 0)), api.ErrSum},
		{"no bytes", with(nil), api.ErrSum},
		{"junk", with([]byte{193, 128}), api.ErrSum},
		{"junk between", slices.Insert(slices.Clone(p), i, []byte{1}), api.ErrSum},
		{"junk behind", append(slices.Clone(p), []byte{1}), api.ErrLong},
		{"no bytes behind", append(slices.Clone(p), nil), api.ErrLong},
		{"a node behind", append(slices.Clone(p), p[i]), api.ErrLong},
		{"two nodes behind", append(slices.Clone(p), p[i], p[0]), api.ErrLong},
	}
	for k := range i {
		other := slices.Clone(p)
		other[i], other[k] = p[k], p[i]
		all = append(all, turned{"two nodes in each other's place", other, api.ErrSum})
	}
	return all
}

// TestTurned changes proofs at each place.
func TestTurned(t *testing.T) {
	for _, sizes := range [][]int{{1}, {40}, {1, 40}} {
		l := pairs([]string{"", "00", "0000", "000010", "01", "0123", "10", "f0f0", "f0f1"}, sizes...)
		root := rootOf(t, l)
		for _, k := range []string{"", "00", "0000", "000010", "000011", "0001", "01", "0124", "20", "f0f1", "f0f2", "f0"} {
			p := prove(t, l, unhex(k))
			for i := range p {
				for _, c := range turns(p, i) {
					checks(t, fmt.Sprintf("%s at %d", c.name, i), root, unhex(k), c.p, answer{err: c.want})
				}
			}
		}
	}
}

// TestOthers has the proofs of other keys and of other tries.
func TestOthers(t *testing.T) {
	keys := []string{"", "00", "0000", "000010", "01", "0123", "10", "f0f0", "f0f1"}
	seen := map[api.Errno]int{}
	for _, sizes := range [][]int{{1}, {40}, {1, 40}} {
		l := pairs(keys, sizes...)
		fewer := l[1:]
		for _, k := range append([]string{"0001", "20", "f0"}, keys...) {
			p := prove(t, l, unhex(k))
			for _, other := range append([]string{"000011", "21", "f1"}, keys...) {
				want := refCheck(rootOf(t, l), unhex(other), p)
				checks(t, "of another key", rootOf(t, l), unhex(other), p, want)
				seen[want.err]++
			}
			checks(t, "of another trie", rootOf(t, fewer), unhex(k), p, answer{err: api.ErrSum})
		}
	}
	if seen[api.OK] < 20 || seen[api.ErrSum] < 20 || seen[api.ErrLong] < 20 {
		t.Fatalf("few answers of a kind: %v", seen)
	}
}

// word is a hash as an item.
func word(n int) api.Item {
	h := api.Word{31: byte(n)}
	return text(h[:])
}

// repeat is a list of so many times i, and of more items.
func repeat(i api.Item, count int, more ...api.Item) api.Item {
	return list(append(slices.Repeat([]api.Item{i}, count), more...)...)
}

// small is the list of a branch with fewer than 32 bytes.
var small = aBranch("12", aLeaf("", long(1)), aLeaf("", long(1)))

// validLists has lists that are valid nodes, and wrongLists ones that aren't. Their values and hashes stand at many places, so that most paths lead past the one that is wrong.
var validLists = map[string]api.Item{
	"a leaf":                                   aLeaf("12", long(40)),
	"a leaf with an odd path":                  aLeaf("123", []byte{1}),
	"a leaf without a path":                    aLeaf("", []byte{0}),
	"a leaf with a path of 300 nibbles":        aLeaf(strings.Repeat("1", 300), []byte{1}),
	"a leaf with a value of 2^20 + 1 bytes":    aLeaf("12", long(1<<20+1)),
	"a leaf whose value is an encoding":        aLeaf("12", encoding(small)),
	"an extension to a hash":                   anExtension("1", word(1)),
	"an extension to the hash 0":               anExtension("12", word(0)),
	"an extension with a path of 300 nibbles":  anExtension(strings.Repeat("1", 300), word(1)),
	"an extension to a branch":                 anExtension("123", small),
	"an extension to a branch with 31 bytes":   anExtension("1", aBranch("12", aLeaf("", long(5)), aLeaf("", long(4)))),
	"a branch with two hashes":                 aBranch("0f", word(1), word(2)),
	"a branch with a hash and a value":         aBranch("7v", word(1), text(long(1))),
	"a branch with a value of the byte 0":      aBranch("7v", word(1), text([]byte{0})),
	"a branch with leaves":                     aBranch("01", aLeaf("1", long(1)), aLeaf("", long(1))),
	"a branch with a leaf of 31 bytes":         aBranch("01", aLeaf("", long(28)), word(1)),
	"a branch with a leaf and a value":         aBranch("fv", aLeaf("12", long(3)), text(long(50))),
	"a branch with an extension to a branch":   aBranch("3v", anExtension("1", small), text(long(1))),
	"a branch with a branch":                   aBranch("3v", small, text(long(1))),
	"a branch with everything":                 repeat(word(1), 16, text(long(40))),
	"a branch with all hashes and no value":    repeat(word(1), 16, none),
	"a branch with all leaves and no value":    repeat(aLeaf("12", long(9)), 16, none),
	"a branch with a value of 32 bytes":        aBranch("7v", word(1), text(long(32))),
	"a branch with a leaf whose value is list": aBranch("01", aLeaf("", []byte{192}), word(1)),
}

var wrongLists = map[string]api.Item{
	"an empty list":                     list(),
	"a list of one":                     list(packed("1", true)),
	"a list of three":                   list(packed("1", true), text(long(1)), text(long(1))),
	"a list of 16":                      repeat(word(1), 16),
	"a list of 18":                      repeat(word(1), 18),
	"no list":                           text(long(40)),
	"an encoding within an encoding":    text(encoding(small)),
	"a leaf without a value":            aLeaf("12", nil),
	"a leaf with a list as its value":   list(packed("12", true), list(text(long(1)))),
	"a leaf with an empty list":         list(packed("12", true), list()),
	"a leaf with a node as its value":   list(packed("12", true), small),
	"a leaf with an empty path item":    list(none, text(long(1))),
	"a leaf with a list as its path":    list(list(), text(long(1))),
	"a leaf with a list of its path":    list(list(packed("12", true)), text(long(1))),
	"a path with the first nibble 4":    list(text([]byte{0x41}), word(1)),
	"a path with the first nibble 15":   list(text([]byte{0xf1}), word(1)),
	"a leaf with the nibbles 2 and 1":   list(text([]byte{0x21, 0x23}), text(long(1))),
	"an extension with 0 and 1":         list(text([]byte{0x01, 0x23}), word(1)),
	"an extension without a path":       anExtension("", word(1)),
	"an extension to a branch, no path": anExtension("", small),
	"an extension with a list as path":  list(list(packed("12", false)), word(1)),
	"an extension to nothing":           anExtension("1", none),
	"an extension to one byte":          anExtension("1", text(long(1))),
	"an extension to 31 bytes":          anExtension("1", text(long(31))),
	"an extension to 33 bytes":          anExtension("1", text(long(33))),
	"an extension to an empty list":     anExtension("1", list()),
	"an extension to a leaf":            anExtension("1", aLeaf("1", long(1))),
	"an extension to an extension":      anExtension("1", anExtension("2", small)),
	"an extension to a great branch":    anExtension("1", aBranch("12", aLeaf("", long(5)), aLeaf("", long(5)))),
	"an extension to a wrong branch":    anExtension("1", aBranch("1", aLeaf("", long(1)))),
	"a branch with nothing":             aBranch(""),
	"a branch with one hash":            aBranch("0", word(1)),
	"a branch with one leaf":            aBranch("f", aLeaf("", long(1))),
	"a branch with only a value":        aBranch("v", text(long(1))),
	"a branch with one byte":            aBranch("12", word(1), text(long(1))),
	"a branch with 31 bytes":            aBranch("12", word(1), text(long(31))),
	"a branch with 33 bytes":            aBranch("12", word(1), text(long(33))),
	"a branch with 33 bytes, the last":  aBranch("12f", word(1), word(2), text(long(33))),
	"a branch with an empty list":       aBranch("12", word(1), list()),
	"a branch with a list of one":       aBranch("12", word(1), list(text(long(1)))),
	"a branch with a leaf of 32 bytes":  aBranch("12", word(1), aLeaf("", long(29))),
	"a branch with a long leaf":         aBranch("12", word(1), aLeaf("", long(100))),
	"a branch with a leaf, no value":    aBranch("12", word(1), aLeaf("", nil)),
	"a branch with a leaf, wrong path":  aBranch("12", word(1), list(text([]byte{0x40}), text(long(1)))),
	"a branch with a great extension":   aBranch("12", word(1), anExtension("1", word(1))),
	"a branch with a wrong extension":   aBranch("12", word(1), anExtension("", small)),
	"a branch with a wrong branch":      aBranch("12", word(1), aBranch("1", aLeaf("", long(1)))),
	"a branch with a great branch":      aBranch("12", word(1), aBranch("12", word(1), word(2))),
	"a branch with a list as its value": aBranch("12v", word(1), word(2), list()),
	"a branch with a leaf as its value": aBranch("12v", word(1), word(2), aLeaf("", long(1))),
}

// asked has keys that lead into the lists and past them.
var asked = []string{"", "00", "01", "12", "1230", "20", "33", "f1", "ff", strings.Repeat("1", 300)}

// reach has ways from a root to a node, each with a key that leads to the node's own path.
func reach(b []byte) [][][]byte {
	h := hashed(b)
	extension := encoding(anExtension("12", text(h[:])))
	branch := encoding(aBranch("1v", text(h[:]), text(long(1))))
	all := encoding(repeat(text(h[:]), 16, none))
	up := hashed(all)
	return [][][]byte{{b}, {extension, b}, {branch, b}, {all, b}, {encoding(repeat(text(up[:]), 16, none)), all, b}}
}

// TestValid has lists that are nodes, as the root and below other nodes.
func TestValid(t *testing.T) {
	for name, l := range validLists {
		for _, p := range reach(encoding(l)) {
			for _, k := range asked {
				want := refCheck(hashed(p[0]), unhex(k), p)
				if want.err == api.ErrByte {
					t.Fatalf("the reference refuses %s", name)
				}
				checks(t, name, hashed(p[0]), unhex(k), p, want)
			}
		}
	}
}

// wrongEncodings has bytes that aren't a valid node, by what is wrong with them.
func wrongEncodings() map[string][]byte {
	all := map[string][]byte{
		"nothing":                        nil,
		"an empty byte string":           {128},
		"an empty list":                  {192},
		"a byte":                         {1},
		"a byte with a head":             {129, 1},
		"half a head":                    {248},
		"a head that is too long":        append([]byte{248, 32}, encoding(aLeaf("12", long(29)))[1:]...),
		"an encoding with a byte more":   append(encoding(aLeaf("12", long(40))), 0),
		"an encoding with an empty list": append(encoding(small), 192),
		"an encoding with a byte less":   encoding(aLeaf("12", long(40)))[:43],
		"a text as long as a leaf":       []byte("just a text"),
	}
	for name, l := range wrongLists {
		all[name] = encoding(l)
	}
	return all
}

// TestWrong has bytes that aren't a node, as the root and below other nodes: whatever the key is, if it leads there, this comes ahead of what is wrong behind it and after a wrong hash.
func TestWrong(t *testing.T) {
	for name, b := range wrongEncodings() {
		for _, p := range reach(b) {
			for _, k := range asked {
				want := refCheck(hashed(p[0]), unhex(k), p)
				if len(p) == 1 && want.err != api.ErrByte && hashed(b) != emptyRoot {
					t.Fatalf("the reference takes %s", name)
				}
				checks(t, name, hashed(p[0]), unhex(k), p, want)
				if want.err != api.ErrByte {
					continue
				}
				for _, more := range [][]byte{nil, {1}, b, p[0]} {
					checks(t, name+", and more", hashed(p[0]), unhex(k), append(slices.Clone(p), more), want)
				}
				other := slices.Clone(p)
				other[len(p)-1] = append(slices.Clone(b), 7)
				checks(t, name+", with a wrong hash", hashed(p[0]), unhex(k), other, answer{err: api.ErrSum})
				checks(t, name+", not there", hashed(p[0]), unhex(k), p[:len(p)-1], answer{err: api.ErrSum})
			}
			// A way that ends ahead of it does not tell whether it is there.
			checks(t, name+", beside the path", hashed(p[0]), unhex("12"), p, refCheck(hashed(p[0]), unhex("12"), p))
		}
	}
}

// TestLongest has a leaf with as many bytes as an encoding may have, and with one more, in its value.
func TestLongest(t *testing.T) {
	value := long(1<<24 - 11)
	leaf := encoding(aLeaf("12", value))
	if len(leaf) != 1<<24 {
		t.Fatalf("the leaf has %d bytes", len(leaf))
	}
	checks(t, "2^24 bytes", hashed(leaf), unhex("12"), [][]byte{leaf}, answer{value: string(value), has: true})
	leaf = append(leaf, 200)
	leaf[3]++  // the length of the list
	leaf[10]++ // and of the value
	checks(t, "2^24 + 1 bytes", hashed(leaf), unhex("12"), [][]byte{leaf}, answer{err: api.ErrByte})
}

// TestEmptyBelow has the root of an empty trie as a reference: it is a hash like any other.
func TestEmptyBelow(t *testing.T) {
	branch := aBranch("12", text(emptyRoot[:]), aLeaf("0", long(1)))
	root := hashed(encoding(branch))
	p := [][]byte{encoding(branch), {128}}
	checks(t, "an empty trie below", root, unhex("10"), p, answer{err: api.ErrByte})
	checks(t, "an empty trie below", root, unhex("10"), p[:1], answer{err: api.ErrSum})
	checks(t, "an empty trie beside", root, unhex("20"), p, answer{err: api.ErrLong})
	checks(t, "an empty trie beside", root, unhex("20"), p[:1], answer{value: string(long(1)), has: true})
	zero := aBranch("12", word(0), aLeaf("0", long(1)))
	checks(t, "the zero word below", hashed(encoding(zero)), unhex("10"), encodings(zero), answer{err: api.ErrSum})
	checks(t, "the zero word below", hashed(encoding(zero)), unhex("10"), [][]byte{encoding(zero), {128}}, answer{err: api.ErrSum})
}

// TestForeign has valid nodes that no trie has beside each other: each is read by itself.
func TestForeign(t *testing.T) {
	value := answer{value: string(long(3)), has: true}
	ends := aLeaf("4", long(3))
	for _, c := range []struct {
		name string
		key  string
		p    []api.Item
		want answer
	}{
		{"an extension to a leaf", "1234", []api.Item{anExtension("123", hashOf(ends)), ends}, value},
		{"an extension to an extension", "1234", []api.Item{anExtension("12", hashOf(anExtension("3", hashOf(ends)))), anExtension("3", hashOf(ends)), ends}, value},
		{"a hash of a short leaf", "14", []api.Item{aBranch("1v", hashOf(ends), text(long(1))), ends}, value},
		{"a hash of a short branch", "51", []api.Item{aBranch("5v", hashOf(small), text(long(1))), small}, answer{value: string(long(1)), has: true}},
		{"a leaf that goes on", "145678", []api.Item{aBranch("1v", hashOf(aLeaf("45678", long(3))), text(long(1))), aLeaf("45678", long(3))}, value},
		{"an odd leaf for an even key", "12", []api.Item{aLeaf("123", long(3))}, answer{}},
		{"an odd leaf ahead of a key's end", "1234", []api.Item{aLeaf("123", long(3))}, answer{}},
		{"a branch at the end of a key, without a value", "12", []api.Item{anExtension("12", small)}, answer{}},
		{"a branch at the end of a key, with a value", "12", []api.Item{anExtension("12", aBranch("0v", aLeaf("", long(1)), text(long(3))))}, value},
		{"an extension past the end of a key", "12", []api.Item{anExtension("123", hashOf(ends))}, answer{}},
		{"an extension to the end of a key", "12", []api.Item{anExtension("12", hashOf(ends))}, answer{err: api.ErrSum}},
	} {
		p := encodings(c.p...)
		checks(t, c.name, hashed(p[0]), unhex(c.key), p, c.want)
		if got := refCheck(hashed(p[0]), unhex(c.key), p); got != c.want {
			t.Errorf("the reference has %v for %s, not %v", got, c.name, c.want)
		}
	}
}

// TestCheckLongKeys has keys that are longer than those of pairs may be: they are paths like others.
func TestCheckLongKeys(t *testing.T) {
	for _, n := range []int{63, 64, 65, 66, 150, 5000} {
		k := strings.Repeat("ab", n)
		value := answer{value: string(long(3)), has: true}
		leaf := encoding(aLeaf(k, long(3)))
		checks(t, "a leaf", hashed(leaf), unhex(k), [][]byte{leaf}, value)
		checks(t, "a leaf, and a key that goes on", hashed(leaf), unhex(k+"00"), [][]byte{leaf}, answer{})
		checks(t, "a leaf, and a node more", hashed(leaf), unhex(k), [][]byte{leaf, leaf}, answer{err: api.ErrLong})
		ends := aLeaf("0", long(3))
		branch := aBranch("1v", hashOf(ends), text(long(3)))
		extension := anExtension(k, hashOf(branch))
		p := encodings(extension, branch, ends)
		checks(t, "an extension", hashed(p[0]), unhex(k+"10"), p, value)
		checks(t, "an extension", hashed(p[0]), unhex(k+"11"), p, answer{})
		checks(t, "an extension", hashed(p[0]), unhex(k), p[:2], value)
		checks(t, "an extension", hashed(p[0]), unhex(k), p, answer{err: api.ErrLong})
		checks(t, "an extension", hashed(p[0]), unhex(k), p[:1], answer{err: api.ErrSum})
	}
	// As many nodes as nibbles.
	top := aLeaf("", long(3))
	p := encodings(top)
	for range 400 {
		top = aBranch("1v", hashOf(top), text(long(1)))
		p = append(p, encoding(top))
	}
	slices.Reverse(p)
	checks(t, "200 bytes", hashed(p[0]), unhex(strings.Repeat("11", 200)), p, answer{value: string(long(3)), has: true})
	checks(t, "201 bytes", hashed(p[0]), unhex(strings.Repeat("11", 201)), p, answer{})
	checks(t, "199 bytes", hashed(p[0]), unhex(strings.Repeat("11", 199)), p[:399], answer{value: string(long(1)), has: true})
	checks(t, "199 bytes", hashed(p[0]), unhex(strings.Repeat("11", 199)), p, answer{err: api.ErrLong})
}

// forest has encodings that are nodes or nearly ones, which refer to each other.
type forest struct {
	noise
	all   map[api.Word][]byte
	roots []api.Word
}

// item is an item that may stand in a node, or one nearly like it.
func (f *forest) item(deep int) api.Item {
	switch n := f.below(12); {
	case n == 0:
		return text(f.bytes(f.below(34)))
	case n == 1:
		return none
	case n > 3 || deep == 0:
		h := f.roots[max(0, len(f.roots)-1-f.below(6))]
		return text(h[:])
	}
	return f.list(deep - 1)
}

// list is a list that is a node, or nearly one.
func (f *forest) list(deep int) api.Item {
	p := strings.Repeat("1", f.below(4))
	switch f.below(8) {
	case 0:
		return aLeaf(p, f.bytes(f.below(12)))
	case 1:
		return aLeaf(p, f.bytes(40))
	case 2, 3:
		return anExtension(p, f.item(deep))
	}
	l := make([]api.Item, 17)
	for range 2 + f.below(2) {
		l[f.below(3)] = f.item(deep)
	}
	l[16] = text(f.bytes(f.below(3)))
	return list(l...)
}

// plant adds so many encodings.
func (f *forest) plant(count int) {
	f.all = map[api.Word][]byte{}
	f.roots = []api.Word{{1}, emptyRoot}
	for range count {
		b := encoding(f.list(2))
		if f.below(30) == 0 {
			b[f.below(len(b))]++
		}
		f.all[hashed(b)] = b
		f.roots = append(f.roots, hashed(b))
	}
}

// way has the encodings on the path of the key, as far as there are any.
func (f *forest) way(root api.Word, key []byte) [][]byte {
	var p [][]byte
	refFollow(text(root[:]), hex.EncodeToString(key), func(h api.Word) ([]byte, api.Errno) {
		b, ok := f.all[h]
		if !ok {
			return nil, api.ErrSum
		}
		p = append(p, b)
		return b, api.OK
	})
	return p
}

// TestForest holds Check against the reference, with nodes that no trie has beside each other, in a proof as it should be and in one that was changed.
func TestForest(t *testing.T) {
	f := forest{noise: 5}
	seen := map[answer]int{}
	for range 150 {
		f.plant(60)
		for range 500 {
			root := f.roots[len(f.roots)-1-f.below(30)]
			key := unhex(strings.Repeat("1", 2*f.below(6)))
			for i := range key {
				key[i] += byte(f.below(20) / 18)
			}
			p := f.way(root, key)
			if f.below(5) == 0 {
				at := f.below(len(p) + 1)
				p = slices.Insert(p, at, f.all[f.roots[2+f.below(60)]])
			}
			want := refCheck(root, key, p)
			checks(t, "of a forest", root, key, p, want)
			if len(p) > 2 {
				seen[answer{has: want.has, err: want.err}]++
			}
		}
	}
	for _, a := range []answer{{has: true}, {}, {err: api.ErrSum}, {err: api.ErrByte}, {err: api.ErrLong}} {
		if seen[a] < 100 {
			t.Errorf("few answers of a kind: %v", seen)
		}
	}
}

// TestParts has the beginnings of proofs, which prove nothing.
func TestParts(t *testing.T) {
	r := noise(6)
	var l []api.Pair
	for i := range 500 {
		l = append(l, api.Pair{Key: append(r.bytes(1+r.below(3)), byte(i>>8), byte(i)), Value: r.bytes(1 + r.below(50))})
	}
	root := rootOf(t, l)
	for _, pair := range l {
		p := prove(t, l, pair.Key)
		for n := range p {
			checks(t, "a part", root, pair.Key, p[:n], answer{err: api.ErrSum})
		}
		checks(t, "all", root, pair.Key, p, answer{value: string(pair.Value), has: true})
	}
}
