package block_test

import (
	"bytes"
	"slices"
	"testing"

	"muniments/api"
	"muniments/block"
)

// readsNothing demands an error of Read.
func readsNothing(t *testing.T, name string, b []byte, want api.Errno) {
	t.Helper()
	if got, err := block.Read(b); err != want || !isZero(got) {
		t.Errorf("P1701 Read of %s: %s, error %d, not %d", name, show(got), err, want)
	}
}

// holds demands of Read, whatever b is, a block that has these bytes, or none.
func holds(t *testing.T, b []byte) {
	t.Helper()
	got, err := block.Read(b)
	if err != api.OK {
		if err != api.ErrByte || !isZero(got) {
			t.Fatalf("P1701 Read of %x: %s, error %d", b, show(got), err)
		}
		return
	}
	if raw, err := refPack(got); err != api.OK || !bytes.Equal(raw, b) || !sameBlock(got, api.Block{Parent: got.Parent, Number: got.Number, Time: got.Time, Coinbase: got.Coinbase, GasLimit: got.GasLimit, GasUsed: got.GasUsed, Root: got.Root, Txs: called(got.Txs)}) {
		t.Fatalf("P1701 Read of %x: %s, which has other bytes", b, show(got))
	}
}

// nest is the encoding of the item b within so many lists.
func nest(b []byte, depth int) []byte {
	for range depth {
		b = refList(b)
	}
	return b
}

// TestReadErrors has bytes that are no block's.
func TestReadErrors(t *testing.T) {
	right, _ := refPack(someBlock())
	for name, b := range map[string][]byte{
		"nothing": nil, "no bytes": {}, "a byte": {1}, "an empty byte string": {128}, "an empty list": {192},
		"eight empty byte strings": refList(bytes.Repeat([]byte{128}, 8)), "eight empty lists": refList(bytes.Repeat([]byte{192}, 8)),
		"a block as a byte string": refText(right), "a block in a list": refList(right), "a block twice": slices.Concat(right, right),
		"the elements without a head": right[3:], "a block with a byte behind it": append(slices.Clone(right), 128), "a block without its last byte": right[:len(right)-1],
		"a head with a leading zero": slices.Concat([]byte{250, 0}, right[1:]),
		"a transaction":              refTx(someBlock().Txs[0]), "a list of transactions": refList(refTx(someBlock().Txs[0])),
		// rlp.Read calls these long, but they are not.
		"a list within 31 others": nest([]byte{192}, 31), "a list within 32 others": nest([]byte{192}, 32), "a list within 1000 others": nest([]byte{192}, 1000), "a block within 32 lists": nest(right, 32),
		"nothing but heads": bytes.Repeat([]byte{0xf8}, 1<<17), "empty lists": bytes.Repeat([]byte{192}, 1<<17), "2^17 bytes": make([]byte, 1<<17), "a list of 2^17 bytes": refList(bytes.Repeat([]byte{192}, 1<<17-4)), "a text of 2^17 bytes": refText(make([]byte, 1<<17-4)),
	} {
		readsNothing(t, name, b, api.ErrByte)
	}
}

// TestReadLong has more bytes than a block may have, whatever they are.
func TestReadLong(t *testing.T) {
	long := padded(t, someBlock(), 1, 1<<17+1)
	for name, b := range map[string][]byte{
		"2^17 + 1 bytes": make([]byte, 1<<17+1), "2^24 bytes": make([]byte, 1<<24), "2^24 + 1 bytes": make([]byte, 1<<24+1),
		"a long block": refList(refElements(long)...), "a block with a byte behind it": append(refList(refElements(padded(t, someBlock(), 1, 1<<17))...), 128),
		"many lists": bytes.Repeat([]byte{192}, 1<<17+1), "a long block in a list": refList(refList(refElements(long)...)),
	} {
		readsNothing(t, name, b, api.ErrLong)
	}
}

// wrongElements has what can't stand at each place of a block's list, encoded.
func wrongElements() [8]map[string][]byte {
	var l [8]map[string][]byte
	for k, right := range refElements(someBlock()) {
		l[k] = map[string][]byte{"the element in a list": refList(right), "the element as a byte string": refText(append([]byte{0}, right...)), "a list of an empty byte string": refList([]byte{128}), "a list of an empty list": refList([]byte{192})}
		if k < 7 {
			l[k]["an empty list"] = []byte{192}
		}
	}
	for _, k := range []int{1, 2, 4, 5} {
		for name, text := range map[string]string{
			"the number 0 as a byte": "00", "a number with a leading zero": "820001", "the number 2^63": "888000000000000000", "the number 2^64 - 1": "88ffffffffffffffff", "the number 2^64": "89010000000000000000",
			"eight bytes with a leading zero": "8800ffffffffffffff", "nine bytes with a leading zero": "89007fffffffffffffff", "a long form of a number": "8105", "32 bytes": "a0ffffffffffffffffffffffffffffffffffffffffffffffffffffffffffffffff",
		} {
			l[k][name] = unhex(text)
		}
	}
	for _, k := range []int{0, 3, 6} {
		l[k]["nothing"] = []byte{128}
		for n := range 70 {
			if n != 32 && k != 3 || n != 20 && k == 3 {
				l[k]["other bytes "+string(rune('0'+n))] = refText(bytes.Repeat([]byte{7}, n))
				l[k]["zero bytes "+string(rune('0'+n))] = refText(make([]byte, n))
			}
		}
		l[k]["a list with as many elements"] = refList(bytes.Repeat([]byte{128}, 32))
		l[k]["a list with so many bytes"] = refList(bytes.Repeat([]byte{5}, 20))
	}
	l[7]["nothing"] = []byte{128}
	l[7]["a byte"] = []byte{5}
	l[7]["a byte string"] = refText([]byte("transactions"))
	l[7]["a transaction without a list around it"] = refTx(someBlock().Txs[0])
	return l
}

// TestWrongElements has one wrong element at each place, with the lengths of all lists right.
func TestWrongElements(t *testing.T) {
	for k, wrong := range wrongElements() {
		for name, e := range wrong {
			l := refElements(someBlock())
			l[k] = e
			readsNothing(t, name, refList(l...), api.ErrByte)
		}
	}
	l := refElements(someBlock())
	for k := range l {
		readsNothing(t, "a list without an element", refList(slices.Delete(slices.Clone(l), k, k+1)...), api.ErrByte)
		readsNothing(t, "the first elements", refList(l[:k]...), api.ErrByte)
		readsNothing(t, "the last elements", refList(l[k+1:]...), api.ErrByte)
		for _, more := range [][]byte{{128}, {192}, {5}, l[k]} {
			readsNothing(t, "a list with an element more", refList(slices.Insert(slices.Clone(l), k, more)...), api.ErrByte)
			readsNothing(t, "a list with an element more at its end", refList(append(slices.Clone(l), more)...), api.ErrByte)
		}
		for i := range k {
			other := slices.Clone(l)
			other[i], other[k] = l[k], l[i]
			holds(t, refList(other...))
		}
	}
}

// TestWrongTransactions has lists of transactions in which one is none.
func TestWrongTransactions(t *testing.T) {
	good := refTx(someBlock().Txs[0])
	parts := [][]byte{{1}, {2}, unhex("827530"), refText(alice[:]), refText(bob[:]), {7}, refText([]byte("data"))}
	if !bytes.Equal(refList(parts...), refTx(api.Tx{Nonce: 1, Price: 2, Gas: 30_000, From: alice, To: bob, Value: of(7), Data: []byte("data")})) {
		t.Fatal("the test itself: the elements of a transaction")
	}
	bad := map[string][]byte{"nothing": {128}, "a byte": {5}, "an empty list": {192}, "a transaction as a byte string": refText(good), "a transaction in a list": refList(good), "two transactions in a list": refList(good, good)}
	for k := range parts {
		for _, e := range [][]byte{{192}, refText([]byte{0}), refText([]byte{0, 1}), refText(make([]byte, 33)), refList(parts[k])} {
			other := slices.Clone(parts)
			other[k] = e
			if k < 6 || e[0] >= 192 { // data may be any bytes
				bad["a wrong element "+show(other)] = refList(other...)
			}
		}
		bad["an element less "+show(k)] = refList(slices.Delete(slices.Clone(parts), k, k+1)...)
		bad["an element more "+show(k)] = refList(slices.Insert(slices.Clone(parts), k, []byte{128})...)
	}
	for name, b := range bad {
		for _, l := range [][][]byte{{b}, {b, good}, {good, b}, {good, b, good}, {b, b}} {
			all := refElements(someBlock())
			all[7] = refList(l...)
			readsNothing(t, name, refList(all...), api.ErrByte)
		}
	}
}

// TestChangedBytes has blocks with one byte more, less or changed, and bytes of all kinds.
func TestChangedBytes(t *testing.T) {
	n := noise(2)
	for count := range 3 {
		block := n.block()
		block.Txs = someBlock().Txs[:count]
		b, _ := refPack(block)
		for i := range b {
			readsNothing(t, "the first bytes of a block", b[:i], api.ErrByte)
			readsNothing(t, "a block without a byte", slices.Delete(slices.Clone(b), i, i+1), api.ErrByte)
			for v := range 256 {
				other := slices.Clone(b)
				other[i] = byte(v)
				holds(t, other)
				holds(t, slices.Insert(slices.Clone(b), i, byte(v)))
			}
		}
	}
	for range 10_000 {
		holds(t, n.bytes(n.below(120)))
	}
}

func FuzzRead(f *testing.F) {
	for _, b := range []api.Block{someBlock(), {}, {Txs: []api.Tx{{}}}} {
		raw, _ := refPack(b)
		f.Add(raw)
	}
	f.Fuzz(func(t *testing.T, b []byte) {
		if len(b) <= 1<<17 {
			holds(t, b)
		}
	})
}
