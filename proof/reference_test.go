package proof_test

import (
	"bytes"
	"encoding/hex"
	"fmt"
	"strings"

	"muniments/api"
	"muniments/keccak"
	"muniments/nodes"
	"muniments/path"
	"muniments/rlp"
)

// Lists of nodes. A path is written as hexadecimal digits.

const digits = "0123456789abcdef"

var none = api.Item{}

func text(b []byte) api.Item { return api.Item{Bytes: b} }

func list(i ...api.Item) api.Item { return api.Item{IsList: true, List: i} }

// long is a byte string of so many bytes, none of which encodes itself.
func long(n int) []byte { return bytes.Repeat([]byte{200}, n) }

// packed is the item of a path.
func packed(p string, ends bool) api.Item {
	var nibbles []byte
	for _, c := range p {
		nibbles = append(nibbles, byte(strings.IndexRune(digits, c)))
	}
	b, _ := path.Pack(nibbles, ends)
	return text(b)
}

// aLeaf is the list of a leaf.
func aLeaf(p string, value []byte) api.Item { return list(packed(p, true), text(value)) }

// anExtension is the list of an extension.
func anExtension(p string, sub api.Item) api.Item { return list(packed(p, false), sub) }

// aBranch is the list of a branch with these elements at the places that the text has for them, as digits, and v for the value.
func aBranch(places string, elements ...api.Item) api.Item {
	l := make([]api.Item, 17)
	for i, c := range places {
		l[strings.IndexRune(digits+"v", c)] = elements[i]
	}
	return list(l...)
}

// encoding is that of i.
func encoding(i api.Item) []byte {
	b, err := rlp.Pack(i)
	if err != api.OK {
		panic(fmt.Sprintf("an item has no encoding: error %d", err))
	}
	return b
}

// hashOf is the hash of i as an item.
func hashOf(i api.Item) api.Item {
	h := keccak.Sum(encoding(i))
	return text(h[:])
}

// refer is the reference of a trie: its list, or the hash of it.
func refer(i api.Item) api.Item {
	if len(encoding(i)) < 32 {
		return i
	}
	return hashOf(i)
}

// encodings has the encoding of each item.
func encodings(l ...api.Item) [][]byte {
	var all [][]byte
	for _, i := range l {
		all = append(all, encoding(i))
	}
	return all
}

// unhex is the bytes that the digits of text spell.
func unhex(text string) []byte {
	b, err := hex.DecodeString(text)
	if err != nil {
		panic(err)
	}
	return b
}

// hashed is the root of an encoding.
func hashed(b []byte) api.Word { return keccak.Sum(b) }

// emptyRoot is the root of an empty trie.
var emptyRoot = api.Word(unhex("56e81f171bcc55a6ff8345e692c0f86e5b48e01b996cadc001622fb5e363b421"))

// The reference: the chapter's words, spelled out plainly.

// answer is what Check answers.
type answer struct {
	value string
	has   bool
	err   api.Errno
}

func (a answer) String() string {
	return fmt.Sprintf("%x, %v, error %d", a.value, a.has, a.err)
}

// refCheck is what Check has to answer.
func refCheck(root api.Word, key []byte, p [][]byte) answer {
	var value []byte
	if root != emptyRoot {
		var err api.Errno
		value, err = refFollow(text(root[:]), hex.EncodeToString(key), func(h api.Word) ([]byte, api.Errno) {
			if len(p) == 0 || keccak.Sum(p[0]) != h {
				return nil, api.ErrSum
			}
			b := p[0]
			p = p[1:]
			return b, api.OK
		})
		if err != api.OK {
			return answer{err: err}
		}
	}
	if len(p) > 0 {
		return answer{err: api.ErrLong}
	}
	return answer{value: string(value), has: len(value) > 0}
}

// refFollow is the value of the path k below the reference i, where take has the encodings.
func refFollow(i api.Item, k string, take func(h api.Word) ([]byte, api.Errno)) ([]byte, api.Errno) {
	if !i.IsList {
		if len(i.Bytes) == 0 {
			return nil, api.OK
		}
		b, err := take(api.Word(i.Bytes))
		if err != api.OK {
			return nil, err
		}
		if !isNode(b) {
			return nil, api.ErrByte
		}
		i, _ = rlp.Read(b)
	}
	if len(i.List) == 17 {
		if k == "" {
			return i.List[16].Bytes, api.OK
		}
		return refFollow(i.List[strings.Index(digits, k[:1])], k[1:], take)
	}
	nibbles, ends, _ := path.Read(i.List[0].Bytes)
	mine := ""
	for _, n := range nibbles {
		mine += digits[n : n+1]
	}
	rest, ok := strings.CutPrefix(k, mine)
	switch {
	case ok && !ends:
		return refFollow(i.List[1], rest, take)
	case ok && rest == "":
		return i.List[1].Bytes, api.OK
	}
	return nil, api.OK
}

// isNode reports whether b is the encoding of a valid node, as chapter 7 has it.
func isNode(b []byte) bool {
	_, err := nodes.Open(nodes.NewStore([]api.Node{{Hash: api.Word{9}, Bytes: b}}), api.Word{9})
	return err == api.OK
}
