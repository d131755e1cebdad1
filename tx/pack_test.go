package tx_test

import (
	"bytes"
	"slices"
	"strings"
	"testing"

	"muniments/api"
	"muniments/tx"
)

// packs demands these bytes of Pack, and the transaction of Read.
func packs(t *testing.T, a api.Tx, want []byte) {
	t.Helper()
	got, err := tx.Pack(a)
	if err != api.OK || !bytes.Equal(got, want) {
		t.Errorf("P1601 Pack of %s: %s, error %d, not %s", show(a), show(got), err, show(want))
	}
	if a.Make {
		a.To = api.Addr{}
	}
	if back, err := tx.Read(want); err != api.OK || !sameTx(back, a) {
		t.Errorf("P1601 Read of %s: %s, error %d, not %s", show(want), show(back), err, show(a))
	}
}

// TestPack has transactions whose bytes are written out.
func TestPack(t *testing.T) {
	none := "94" + strings.Repeat("00", 20)
	from := "94 a1000000000000000000 00000000000000000001"
	to := "94 b0000000000000000000 00000000000000000002"
	for _, c := range []struct {
		tx   api.Tx
		text string
	}{
		{api.Tx{}, "ef 80 80 80" + none + none + "80 80"},
		{api.Tx{Make: true}, "db 80 80 80" + none + "80 80 80"},
		{api.Tx{Make: true, To: bob}, "db 80 80 80" + none + "80 80 80"},
		{api.Tx{Nonce: 1, Price: 2, Gas: 30000, From: alice, To: bob, Value: of(7)}, "f1 01 02 827530" + from + to + "07 80"},
		{api.Tx{Nonce: 127, Price: 128, Gas: 256, From: alice, To: bob, Value: power(64, 0), Data: []byte{0}}, "f83b 7f 8180 820100" + from + to + "89010000000000000000 00"},
		{api.Tx{Nonce: 1<<63 - 1, From: alice, Make: true, Value: highest, Data: []byte{127, 128}}, "f845 887fffffffffffffff 80 80" + from + "80 a0" + strings.Repeat("ff", 32) + "827f80"},
		{api.Tx{Data: bytes.Repeat([]byte{9}, 56)}, "f868 80 80 80" + none + none + "80 b838" + strings.Repeat("09", 56)},
	} {
		packs(t, c.tx, unhex(c.text))
	}
}

func TestPackNoise(t *testing.T) {
	n := noise(3)
	for range 3000 {
		a := n.tx()
		packs(t, a, refPack(a))
	}
	for size := range 300 {
		a := api.Tx{Nonce: 3, From: alice, To: bob, Data: n.bytes(size)}
		packs(t, a, refPack(a))
	}
	for _, size := range []int{1<<16 - 60, 1<<16 - 1, 1 << 16, 1 << 20} {
		a := api.Tx{From: alice, To: bob, Data: n.bytes(size)}
		packs(t, a, refPack(a))
	}
}

// longest is how many bytes of data, in a transaction without anything else, make 2^24 bytes in all.
const longest = 1<<24 - 4 - 3 - 21 - 21 - 1 - 4

func TestLongPack(t *testing.T) {
	for _, size := range []int{longest - 1, longest} {
		a := api.Tx{From: alice, To: bob, Data: make([]byte, size)}
		packs(t, a, refPack(a))
	}
	if n := len(refPack(api.Tx{Data: make([]byte, longest)})); n != 1<<24 {
		t.Fatalf("the test itself: %d bytes", n)
	}
	for _, size := range []int{longest + 1, longest + 20, 1 << 24, 1<<24 + 1} {
		a := api.Tx{From: alice, To: bob, Data: make([]byte, size)}
		if got, err := tx.Pack(a); err != api.ErrLong || len(got) > 0 {
			t.Errorf("P1601 Pack of %d bytes of data: %d bytes, error %d, not ErrLong", size, len(got), err)
		}
		if _, ok := tx.Item(a); !ok {
			t.Errorf("P1601 Item of %d bytes of data: false", size)
		}
		if got, ok := tx.Of(refItem(a)); !ok || !sameTx(got, a) {
			t.Errorf("P1601 Of an item with %d bytes of data: %s, %v", size, show(got), ok)
		}
		a.Make = true
		if got, err := tx.Pack(a); (err == api.OK) != (size <= longest+20) || (err == api.OK) != (len(got) > 0) {
			t.Errorf("P1601 Pack of %d bytes of data that make an account: %d bytes, error %d", size, len(got), err)
		}
	}
}

// TestNoPack: where there is no Item, nothing else is asked.
func TestNoPack(t *testing.T) {
	for i, a := range negatives() {
		if i%50 == 0 {
			a.Data = make([]byte, 1<<24+1)
		}
		if got, err := tx.Pack(a); err != api.ErrArg || len(got) > 0 {
			t.Errorf("P1601 Pack of %s: %s, error %d, not ErrArg", show(a), show(got), err)
		}
	}
}

// readsNothing demands an error of Read.
func readsNothing(t *testing.T, name string, b []byte, want api.Errno) {
	t.Helper()
	if got, err := tx.Read(b); err != want || !isZero(got) {
		t.Errorf("P1601 Read of %s: %s, error %d, not %d", name, show(got), err, want)
	}
}

// nest is the encoding of the item b within so many lists.
func nest(b []byte, depth int) []byte {
	for range depth {
		b = refList(b)
	}
	return b
}

// refEncode is the encoding of an item.
func refEncode(i api.Item) []byte {
	if !i.IsList {
		return refText(i.Bytes)
	}
	var l [][]byte
	for _, e := range i.List {
		l = append(l, refEncode(e))
	}
	return refList(l...)
}

// TestReadErrors has bytes that are no transaction's.
func TestReadErrors(t *testing.T) {
	right := refPack(someTx())
	for _, c := range []struct {
		name string
		b    []byte
		err  api.Errno
	}{
		{"nothing", nil, api.ErrByte}, {"no bytes", []byte{}, api.ErrByte}, {"a byte", []byte{1}, api.ErrByte}, {"an empty byte string", []byte{128}, api.ErrByte}, {"an empty list", []byte{192}, api.ErrByte},
		{"seven empty byte strings", refList(bytes.Repeat([]byte{128}, 7)), api.ErrByte},
		{"a transaction as a byte string", refText(right), api.ErrByte}, {"a transaction in a list", refList(right), api.ErrByte}, {"a transaction twice", slices.Concat(right, right), api.ErrByte},
		{"the elements without a head", right[2:], api.ErrByte}, {"a transaction with a byte behind it", append(slices.Clone(right), 128), api.ErrByte},
		{"a transaction without its last byte", right[:len(right)-1], api.ErrByte},
		{"a head with a leading zero", slices.Concat([]byte{249, 0}, right[1:]), api.ErrByte},
		{"a list within 31 others", nest([]byte{192}, 31), api.ErrByte}, {"a list within 32 others", nest([]byte{192}, 32), api.ErrLong}, {"a transaction within 31 lists", nest(right, 31), api.ErrByte}, {"a transaction within 32 lists", nest(right, 32), api.ErrLong},
		{"2^24 bytes", make([]byte, 1<<24), api.ErrByte}, {"2^24 + 1 bytes", make([]byte, 1<<24+1), api.ErrLong},
		{"a transaction with 2^24 bytes behind it", append(slices.Clone(right), make([]byte, 1<<24)...), api.ErrLong},
		{"a transaction with 2^24 + 1 bytes", refPack(api.Tx{Data: make([]byte, longest+1)}), api.ErrLong},
	} {
		readsNothing(t, c.name, c.b, c.err)
	}
	for k, wrong := range wrongElements() {
		for name, e := range wrong {
			i := refItem(someTx())
			i.List[k] = e
			readsNothing(t, name, refEncode(i), api.ErrByte)
		}
	}
	i := refItem(someTx())
	for k := range 7 {
		readsNothing(t, "a list without an element", refEncode(api.Item{IsList: true, List: slices.Delete(slices.Clone(i.List), k, k+1)}), api.ErrByte)
		for _, depth := range []int{30, 31, 32, 40} {
			deep := slices.Clone(i.List)
			e := api.Item{}
			for range depth {
				e = api.Item{IsList: true, List: []api.Item{e}}
			}
			deep[k] = e
			want := api.ErrByte
			if depth > 31 {
				want = api.ErrLong
			}
			readsNothing(t, "a list as an element", refEncode(api.Item{IsList: true, List: deep}), want)
		}
	}
}

// holds demands of Read, whatever b is, a transaction that has these bytes, or none.
func holds(t *testing.T, b []byte) {
	t.Helper()
	a, err := tx.Read(b)
	switch {
	case err == api.OK && (min(a.Nonce, a.Price, a.Gas) < 0 || a.Make && a.To != api.Addr{} || !bytes.Equal(refPack(a), b)):
		t.Fatalf("P1601 Read of %x: %s, which has other bytes", b, show(a))
	case err != api.OK && (err != api.ErrByte && err != api.ErrLong || !isZero(a)):
		t.Fatalf("P1601 Read of %x: %s, error %d", b, show(a), err)
	}
}

// TestChangedBytes has transactions with one byte more, less or changed, and bytes of all kinds.
func TestChangedBytes(t *testing.T) {
	n := noise(4)
	for range 5 {
		b := refPack(n.tx())
		for i := range b {
			readsNothing(t, "the first bytes of a transaction", b[:i], api.ErrByte)
			readsNothing(t, "a transaction without a byte", slices.Delete(slices.Clone(b), i, i+1), api.ErrByte)
			for v := range 256 {
				other := slices.Clone(b)
				other[i] = byte(v)
				holds(t, other)
				holds(t, slices.Insert(slices.Clone(b), i, byte(v)))
			}
		}
	}
	for range 20_000 {
		holds(t, n.bytes(n.below(80)))
	}
}

func FuzzRead(f *testing.F) {
	f.Add(refPack(someTx()))
	f.Add(refPack(api.Tx{Make: true}))
	f.Fuzz(func(t *testing.T, b []byte) {
		holds(t, b)
	})
}
