package mem_test

import (
	"bytes"
	"math"
	"math/big"
	"slices"
	"testing"

	"muniments/api"
	"muniments/mem"
)

// The reference: what the chapter says, spelled out plainly. A memory is the list of its bytes; a stack is a list, the word that was added last at its front.

type refMem struct{ bytes []byte }

func number(w api.Word) *big.Int { return new(big.Int).SetBytes(w[:]) }

// wordOf is the word of x, which has at most 256 bits.
func wordOf(x *big.Int) api.Word { return api.Word(x.FillBytes(make([]byte, 32))) }

// low is the word of n, which is not negative.
func low(n int) api.Word { return wordOf(big.NewInt(int64(n))) }

// power is the word of 2 to the power of n.
func power(n uint) api.Word { return wordOf(new(big.Int).Lsh(big.NewInt(1), n)) }

// highest is the word of which all bits are 1.
var highest = api.Word(bytes.Repeat([]byte{255}, 32))

func refCost(words int) int {
	n := big.NewInt(int64(words))
	if n.Sign() < 0 {
		n.SetInt64(0)
	}
	if most := big.NewInt(1 << 20); n.Cmp(most) > 0 {
		n.Set(most)
	}
	square := new(big.Int).Mul(n, n)
	square.Quo(square, big.NewInt(512))
	return int(square.Add(square, n.Mul(n, big.NewInt(3))).Int64())
}

// after returns the size of the memory after grow, and what grow returns.
func (r *refMem) after(at, n api.Word) (int, int, bool) {
	size := len(r.bytes)
	if number(n).Sign() == 0 {
		return size, 0, true
	}
	end := new(big.Int).Add(number(at), number(n))
	if end.Cmp(big.NewInt(1<<20)) > 0 {
		return size, 0, false
	}
	for size = max(size, int(end.Int64())); size%32 != 0; {
		size++
	}
	return size, refCost(size/32) - refCost(len(r.bytes)/32), true
}

func (r *refMem) grow(at, n api.Word) (int, bool) {
	size, gas, ok := r.after(at, n)
	for len(r.bytes) < size {
		r.bytes = append(r.bytes, 0)
	}
	return gas, ok
}

func (r *refMem) get(at, n int) []byte {
	if at < 0 || n < 0 || n > 1<<20 {
		return nil
	}
	var b []byte
	for i := range n {
		if at <= math.MaxInt-i && at+i < len(r.bytes) {
			b = append(b, r.bytes[at+i])
		} else {
			b = append(b, 0)
		}
	}
	return b
}

func (r *refMem) put(at int, b []byte) bool {
	end := new(big.Int).Add(big.NewInt(int64(at)), big.NewInt(int64(len(b))))
	if at < 0 || len(b) > 0 && end.Cmp(big.NewInt(int64(len(r.bytes)))) > 0 {
		return false
	}
	for i, v := range b {
		r.bytes[at+i] = v
	}
	return true
}

// sameMem demands of m what r has, and zeros behind it.
func sameMem(t *testing.T, name string, m *mem.Mem, r *refMem) {
	t.Helper()
	if got := m.Size(); got != len(r.bytes) {
		t.Fatalf("%s: Size %d, not %d", name, got, len(r.bytes))
	}
	n := min(len(r.bytes)+40, 1<<20)
	if got := m.Get(0, n); len(got) != n || !bytes.Equal(got, r.get(0, n)) {
		t.Fatalf("%s: the bytes of the memory are wrong", name)
	}
}

type refStack []api.Word

func (r *refStack) push(w api.Word) bool {
	if len(*r) == 1024 {
		return false
	}
	*r = slices.Insert(*r, 0, w)
	return true
}

func (r *refStack) pop(n int) ([]api.Word, bool) {
	if n < 0 || n > len(*r) {
		return nil, false
	}
	l := slices.Clone((*r)[:n])
	*r = slices.Delete(*r, 0, n)
	return l, true
}

func (r *refStack) dup(n int) bool {
	if n < 1 || n > len(*r) {
		return false
	}
	return r.push((*r)[n-1])
}

func (r *refStack) swap(n int) bool {
	if n < 1 || n >= len(*r) {
		return false
	}
	l := *r
	l[0], l[n] = l[n], l[0]
	return true
}

// hold demands that s has the words of r, by taking them all off and putting them on again.
func hold(t *testing.T, name string, s *mem.Stack, r refStack) {
	t.Helper()
	if got := s.Len(); got != len(r) {
		t.Fatalf("%s: Len %d, not %d", name, got, len(r))
	}
	l, ok := s.Pop(len(r))
	if !ok || !slices.Equal(l, r) {
		t.Fatalf("%s: the words are %x, %v, not %x", name, l, ok, r)
	}
	if got := s.Len(); got != 0 {
		t.Fatalf("%s: Len %d after all words are popped", name, got)
	}
	for _, w := range slices.Backward(l) {
		if !s.Push(w) {
			t.Fatalf("%s: Push returns false", name)
		}
	}
}

// filled returns a stack of n words that all differ, and its reference.
func filled(t *testing.T, n int) (*mem.Stack, refStack) {
	t.Helper()
	s, r := &mem.Stack{}, refStack{}
	for i := range n {
		w := api.Word{0: byte(i), 1: byte(i >> 8), 31: byte(i * 7)}
		if !s.Push(w) || !r.push(w) {
			t.Fatalf("P1302 Push on a stack of %d words returns false", i)
		}
	}
	return s, r
}

// noise makes numbers that look random and are always the same.
type noise uint32

func (n *noise) byte() byte {
	*n = *n*1664525 + 1013904223
	return byte(*n >> 24)
}

// below is a number from 0 to most - 1.
func (n *noise) below(most int) int {
	return (int(n.byte())<<16 | int(n.byte())<<8 | int(n.byte())) % most
}

func (n *noise) bytes(count int) []byte {
	b := make([]byte, count)
	for i := range b {
		b[i] = n.byte()
	}
	return b
}

// pick is an element of l.
func pick[E any](n *noise, l ...E) E { return l[n.below(len(l))] }

// spacious is a copy of b with something in its spare capacity.
func spacious(b []byte) []byte {
	return append(slices.Clone(b), 77, 77)[:len(b)]
}
