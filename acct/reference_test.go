package acct_test

import (
	"bytes"
	"encoding/hex"
	"math/big"
	"slices"
	"testing"

	"muniments/api"
	"muniments/keccak"
	"muniments/trie"
)

// unhex is the bytes that the digits of text spell.
func unhex(text string) []byte {
	b, err := hex.DecodeString(text)
	if err != nil {
		panic(err)
	}
	return b
}

// wordOf is the word with these digits, and leading zeros.
func wordOf(text string) api.Word {
	var w api.Word
	n, ok := new(big.Int).SetString(text, 16)
	if !ok {
		panic(text)
	}
	n.FillBytes(w[:])
	return w
}

// addrOf is the address with these digits.
func addrOf(text string) api.Addr { return api.Addr(unhex(text)) }

// low is the word of a small number.
func low(n byte) api.Word { return api.Word{31: n} }

// at is the address of a small number.
func at(n int) api.Addr { return api.Addr{18: byte(n >> 8), 19: byte(n)} }

// The root of no pairs, and the hash of no bytes.
const (
	noPairs = "56e81f171bcc55a6ff8345e692c0f86e5b48e01b996cadc001622fb5e363b421"
	noBytes = "c5d2460186f7233c927e7db2dcc703c0e500b653ca82273b7bfad8045d85a470"
)

// highest is the word of which all bits are 1.
var highest = api.Word(bytes.Repeat([]byte{255}, 32))

// The reference: the chapter's words, spelled out plainly, for fewer than 256 bytes.

// refHead is the head for n bytes, of a byte string (128) or of a list (192).
func refHead(kind byte, n int) []byte {
	if n < 56 {
		return []byte{kind + byte(n)}
	}
	return []byte{kind + 56, byte(n)}
}

// refText is the encoding of a byte string.
func refText(b []byte) []byte {
	if len(b) == 1 && b[0] < 128 {
		return b
	}
	return slices.Concat(refHead(128, len(b)), b)
}

// refList is the encoding of a list of these encoded items.
func refList(items ...[]byte) []byte {
	b := slices.Concat(items...)
	return slices.Concat(refHead(192, len(b)), b)
}

// refNumber is the encoding of a number.
func refNumber(n *big.Int) []byte { return refText(n.Bytes()) }

// refPack is the Pack of a body whose nonce is not negative.
func refPack(b api.Body) []byte {
	balance := new(big.Int).SetBytes(b.Balance[:])
	return refList(refNumber(big.NewInt(int64(b.Nonce))), refNumber(balance), refText(b.Root[:]), refText(b.CodeHash[:]))
}

// refRoot is the root of the pairs with hashed keys.
func refRoot(t *testing.T, l []api.Pair) api.Word {
	t.Helper()
	root, err := trie.Root(l)
	if err != api.OK {
		t.Fatalf("Root of %d pairs: error %d", len(l), err)
	}
	return root
}

// refPair is the pair of a key before it is hashed.
func refPair(key, value []byte) api.Pair {
	h := keccak.Sum(key)
	return api.Pair{Key: h[:], Value: value}
}

// refSlots is the root of slots without a fault.
func refSlots(t *testing.T, l []api.Slot) api.Word {
	t.Helper()
	var pairs []api.Pair
	for _, s := range l {
		if value := new(big.Int).SetBytes(s.Value[:]); value.Sign() != 0 {
			pairs = append(pairs, refPair(s.Key[:], refNumber(value)))
		}
	}
	return refRoot(t, pairs)
}

// refAccounts is the root of accounts without a fault.
func refAccounts(t *testing.T, l []api.Account) api.Word {
	t.Helper()
	var pairs []api.Pair
	for _, a := range l {
		b := api.Body{Nonce: a.Nonce, Balance: a.Balance, Root: refSlots(t, a.Slots), CodeHash: keccak.Sum(a.Code)}
		pairs = append(pairs, refPair(a.Addr[:], refPack(b)))
	}
	return refRoot(t, pairs)
}

// noise makes numbers that look random and are always the same.
type noise uint32

func (n *noise) byte() byte {
	*n = *n*1664525 + 1013904223
	return byte(*n >> 24)
}

// below is a number from 0 to most - 1.
func (n *noise) below(most int) int {
	return (int(n.byte())<<16 | int(n.byte())<<8 | int(n.byte())) % most
}

func (n *noise) bytes(count int) []byte {
	b := make([]byte, count)
	for i := range b {
		b[i] = n.byte()
	}
	return b
}

// word is a word with leading zeros of any number.
func (n *noise) word() api.Word {
	var w api.Word
	size := n.below(33)
	copy(w[32-size:], n.bytes(size))
	return w
}

// body is a body with a nonce of any size.
func (n *noise) body() api.Body {
	return api.Body{
		Nonce:    n.below(1<<24) << n.below(40) >> n.below(24),
		Balance:  n.word(),
		Root:     n.word(),
		CodeHash: n.word(),
	}
}

// slots has so many slots with different keys, about a quarter of them with the value 0.
func (n *noise) slots(count int) []api.Slot {
	var l []api.Slot
	for i := range count {
		s := api.Slot{Key: api.Word{byte(n.below(3)), 30: byte(i >> 8), 31: byte(i)}}
		if n.below(4) > 0 {
			s.Value = n.word()
		}
		l = append(l, s)
	}
	return l
}

// accounts has so many accounts with different addresses, among them empty ones.
func (n *noise) accounts(count int) []api.Account {
	var l []api.Account
	for i := range count {
		a := api.Account{Addr: at(i)}
		if n.below(4) > 0 {
			a.Nonce = n.below(1000)
			a.Balance = n.word()
		}
		if n.below(2) > 0 {
			a.Code = n.bytes(n.below(300))
			a.Slots = n.slots(n.below(8))
		}
		l = append(l, a)
	}
	return l
}

// shuffle puts l in another order.
func shuffle[E any](n *noise, l []E) {
	for i := range l {
		k := n.below(i + 1)
		l[i], l[k] = l[k], l[i]
	}
}
