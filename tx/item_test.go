package tx_test

import (
	"bytes"
	"math"
	"slices"
	"testing"

	"muniments/api"
	"muniments/rlp"
	"muniments/tx"
)

// list is the item of a list of these byte strings.
func list(l ...[]byte) api.Item {
	i := api.Item{IsList: true}
	for _, b := range l {
		i.List = append(i.List, api.Item{Bytes: b})
	}
	return i
}

// isItem demands the Item of a transaction, and the transaction of that item.
func isItem(t *testing.T, a api.Tx, want api.Item) {
	t.Helper()
	got, ok := tx.Item(a)
	if !ok || !sameItem(got, want) {
		t.Errorf("P1601 Item of %s: %s, %v, not %s", show(a), show(got), ok, show(want))
	}
	if a.Make {
		a.To = api.Addr{}
	}
	if back, ok := tx.Of(want); !ok || !sameTx(back, a) {
		t.Errorf("P1601 Of %s: %s, %v, not %s", show(want), show(back), ok, show(a))
	}
}

// TestItem has transactions whose items are written out.
func TestItem(t *testing.T) {
	none, ones := make([]byte, 20), bytes.Repeat([]byte{255}, 32)
	addr := unhex("0102030405060708090a0b0c0d0e0f1011121314")
	isItem(t, api.Tx{}, list(nil, nil, nil, none, none, nil, nil))
	isItem(t, api.Tx{Make: true}, list(nil, nil, nil, none, nil, nil, nil))
	isItem(t, api.Tx{Nonce: 1}, list([]byte{1}, nil, nil, none, none, nil, nil))
	isItem(t, api.Tx{Price: 1}, list(nil, []byte{1}, nil, none, none, nil, nil))
	isItem(t, api.Tx{Gas: 1}, list(nil, nil, []byte{1}, none, none, nil, nil))
	isItem(t, api.Tx{From: api.Addr(addr)}, list(nil, nil, nil, addr, none, nil, nil))
	isItem(t, api.Tx{To: api.Addr(addr)}, list(nil, nil, nil, none, addr, nil, nil))
	isItem(t, api.Tx{Value: of(1)}, list(nil, nil, nil, none, none, []byte{1}, nil))
	isItem(t, api.Tx{Data: []byte{0}}, list(nil, nil, nil, none, none, nil, []byte{0}))
	isItem(t, api.Tx{Data: []byte{}}, list(nil, nil, nil, none, none, nil, nil))
	isItem(t, api.Tx{Data: addr}, list(nil, nil, nil, none, none, nil, addr))
	isItem(t, api.Tx{Nonce: 127, Price: 128, Gas: 255}, list([]byte{127}, []byte{128}, []byte{255}, none, none, nil, nil))
	isItem(t, api.Tx{Nonce: 256, Price: 65535, Gas: 65536}, list([]byte{1, 0}, []byte{255, 255}, []byte{1, 0, 0}, none, none, nil, nil))
	isItem(t, api.Tx{Value: highest, Data: []byte{0, 0}}, list(nil, nil, nil, none, none, ones, []byte{0, 0}))
	great := unhex("7fffffffffffffff")
	isItem(t, api.Tx{Nonce: math.MaxInt, Price: math.MaxInt, Gas: math.MaxInt}, list(great, great, great, none, none, nil, nil))
	isItem(t, api.Tx{Nonce: 5, Price: 6, Gas: 7, From: alice, To: bob, Value: of(8), Data: []byte{9}}, list([]byte{5}, []byte{6}, []byte{7}, alice[:], bob[:], []byte{8}, []byte{9}))
	isItem(t, api.Tx{Nonce: 5, Price: 6, Gas: 7, From: alice, Make: true, Value: of(8), Data: []byte{9}}, list([]byte{5}, []byte{6}, []byte{7}, alice[:], nil, []byte{8}, []byte{9}))
}

// TestMakeIgnoresTo: a transaction that makes an account calls none.
func TestMakeIgnoresTo(t *testing.T) {
	for _, to := range []api.Addr{{}, bob, {0: 1}, {19: 1}, api.Addr(bytes.Repeat([]byte{255}, 20))} {
		a := someTx()
		a.Make, a.To = true, to
		isItem(t, a, list([]byte{1}, []byte{1, 2}, unhex("010000000000"), alice[:], nil, number(a.Value).Bytes(), a.Data))
	}
}

// TestItemNoise has numbers and words with each number of bits.
func TestItemNoise(t *testing.T) {
	for k := range 63 {
		for _, n := range []int{1<<k - 1, 1 << k, 1<<k + 1} {
			for _, a := range []api.Tx{{Nonce: n}, {Price: n}, {Gas: n}, {Nonce: n, Price: n / 3, Gas: n / 5}} {
				isItem(t, a, refItem(a))
			}
		}
	}
	for k := range 256 {
		for _, first := range []byte{1 << (k % 8), 255 >> (k % 8)} {
			var w api.Word
			w[k/8] = first
			a := api.Tx{From: alice, To: bob, Value: w}
			isItem(t, a, refItem(a))
		}
	}
	for n := range 300 {
		a := api.Tx{From: alice, To: bob, Data: bytes.Repeat([]byte{byte(n)}, n)}
		isItem(t, a, refItem(a))
	}
	n := noise(1)
	for range 3000 {
		a := n.tx()
		isItem(t, a, refItem(a))
	}
}

// negatives has transactions with at least one negative number.
func negatives() []api.Tx {
	var l []api.Tx
	for _, n := range []int{-1, -2, -255, -256, -1 << 31, -1 << 32, math.MinInt + 1, math.MinInt} {
		for k := 1; k < 8; k++ {
			a := someTx()
			for i, p := range []*int{&a.Nonce, &a.Price, &a.Gas} {
				if k>>i&1 == 1 {
					*p = n
				}
			}
			l = append(l, a)
			a.Make = true
			l = append(l, a)
		}
	}
	return l
}

func TestNoItem(t *testing.T) {
	for _, a := range negatives() {
		if got, ok := tx.Item(a); ok || !sameItem(got, api.Item{}) {
			t.Errorf("P1601 Item of %s: %s, %v, not false", show(a), show(got), ok)
		}
	}
}

// isNone demands that Of finds no transaction.
func isNone(t *testing.T, name string, i api.Item) {
	t.Helper()
	if got, ok := tx.Of(i); ok || !isZero(got) {
		t.Errorf("P1601 Of %s: %s, %v, not false", name, show(got), ok)
	}
}

// TestNoTx has items that look like that of a transaction, each with one fault.
func TestNoTx(t *testing.T) {
	isNone(t, "nothing", api.Item{})
	isNone(t, "a byte string", api.Item{Bytes: refPack(someTx())})
	isNone(t, "an empty list", api.Item{IsList: true})
	for _, a := range []api.Tx{someTx(), {}, {Make: true}} {
		right := refItem(a)
		isNone(t, "a transaction that is no list", api.Item{List: right.List})
		isNone(t, "a transaction in a list", api.Item{IsList: true, List: []api.Item{right}})
		for k := range right.List {
			isNone(t, "an item without an element", api.Item{IsList: true, List: slices.Delete(slices.Clone(right.List), k, k+1)})
			isNone(t, "the first elements", api.Item{IsList: true, List: right.List[:k]})
			for _, more := range []api.Item{{}, {Bytes: []byte{1}}, {IsList: true}, right.List[k]} {
				isNone(t, "an item with one element more", api.Item{IsList: true, List: slices.Insert(slices.Clone(right.List), k, more)})
				isNone(t, "an item with one element more at its end", api.Item{IsList: true, List: append(slices.Clone(right.List), more)})
			}
		}
	}
	for k, wrong := range wrongElements() {
		for name, e := range wrong {
			i := refItem(someTx())
			i.List[k] = e
			isNone(t, name, i)
			i.List[6] = api.Item{Bytes: make([]byte, 5)}
			if k < 6 {
				isNone(t, name+", with other data", i)
			}
		}
	}
}

// wrongElements has what can't stand at each place of a transaction's list.
func wrongElements() [7]map[string]api.Item {
	text := func(s string) api.Item { return api.Item{Bytes: unhex(s)} }
	inList := func(i api.Item) api.Item { return api.Item{IsList: true, List: []api.Item{i}} }
	zeros := func(n int) api.Item { return api.Item{Bytes: make([]byte, n)} }
	right := refItem(someTx()).List
	var l [7]map[string]api.Item
	for k := range l {
		l[k] = map[string]api.Item{
			"an empty list":       {IsList: true},
			"a list of an item":   inList(right[k]),
			"a list with bytes":   {IsList: true, Bytes: right[k].Bytes},
			"a list of all bytes": {IsList: true, List: make([]api.Item, len(right[k].Bytes))},
		}
	}
	for k := range 3 {
		l[k]["the number 0 as a byte"] = text("00")
		l[k]["a number with a leading zero"] = text("0001")
		l[k]["the number 2^63"] = text("8000000000000000")
		l[k]["the number 2^64 - 1"] = text("ffffffffffffffff")
		l[k]["the number 2^64"] = text("010000000000000000")
		l[k]["a number with 32 bytes"] = api.Item{Bytes: highest[:]}
		l[k]["a number with 33 bytes"] = api.Item{Bytes: append([]byte{1}, highest[:]...)}
		l[k]["eight bytes with a leading zero"] = text("00ffffffffffffff")
		l[k]["nine bytes with a leading zero"] = text("007fffffffffffffff")
	}
	for k := 3; k < 5; k++ {
		for _, n := range []int{1, 2, 19, 21, 32, 40} {
			l[k]["an address with another number of bytes"] = zeros(n)
			l[k]["other bytes as an address"] = api.Item{Bytes: bytes.Repeat([]byte{7}, n)}
		}
		l[k]["an address without its last byte"] = api.Item{Bytes: right[k].Bytes[:19]}
		l[k]["an address with one more byte"] = api.Item{Bytes: append(bytes.Clone(right[k].Bytes), 0)}
	}
	l[3]["no sender"] = api.Item{}
	l[5]["the value 0 as a byte"] = text("00")
	l[5]["a value with a leading zero"] = text("0005")
	l[5]["a value with 32 bytes and a leading zero"] = api.Item{Bytes: append([]byte{0}, highest[1:]...)}
	l[5]["a value with 33 bytes"] = api.Item{Bytes: append(bytes.Clone(highest[:]), 1)}
	l[5]["the value 2^256"] = api.Item{Bytes: append([]byte{1}, make([]byte, 32)...)}
	return l
}

// TestAddressLengths has each number of bytes where an address belongs.
func TestAddressLengths(t *testing.T) {
	for n := range 70 {
		for k := 3; k < 5; k++ {
			i := refItem(someTx())
			i.List[k].Bytes = bytes.Repeat([]byte{9}, n)
			got, ok := tx.Of(i)
			if want := n == 20 || k == 4 && n == 0; ok != want || !ok && !isZero(got) {
				t.Errorf("P1601 Of an item with an address of %d bytes at the place %d: %s, %v", n, k, show(got), ok)
			}
		}
	}
}

// TestIgnoredFields: a byte string has no list, and a list no bytes, whatever stands there.
func TestIgnoredFields(t *testing.T) {
	for _, a := range []api.Tx{someTx(), {}, {Make: true}} {
		i := refItem(a)
		i.Bytes = []byte{1, 2, 3}
		for k := range i.List {
			i.List[k].List = []api.Item{{Bytes: []byte{5}}, {IsList: true}}
		}
		if got, ok := tx.Of(i); !ok || !sameTx(got, a) {
			t.Errorf("P1601 Of an item with ignored fields: %s, %v, not %s", show(got), ok, show(a))
		}
	}
}

// elements is what stands at some place of the item of some transaction, or at none.
func (n *noise) element() api.Item {
	switch n.below(12) {
	case 0:
		return api.Item{IsList: true, List: make([]api.Item, n.below(3))}
	case 1:
		return api.Item{Bytes: append([]byte{0}, n.bytes(n.below(21))...)}
	case 2:
		return api.Item{}
	case 3, 4, 5:
		return api.Item{Bytes: n.bytes(20)}
	}
	return rlp.Big(n.word())
}

// TestAnyItems has lists of any elements: a transaction that is found has just this item.
func TestAnyItems(t *testing.T) {
	n := noise(2)
	found := 0
	for range 20_000 {
		i := refItem(n.tx())
		for range n.below(3) {
			i.List[n.below(7)] = n.element()
		}
		got, ok := tx.Of(i)
		switch {
		case ok && (min(got.Nonce, got.Price, got.Gas) < 0 || !sameItem(refItem(got), i) || got.Make && got.To != api.Addr{}):
			t.Fatalf("P1601 Of %s: %s, which has another item", show(i), show(got))
		case ok:
			found++
		case !isZero(got):
			t.Fatalf("P1601 Of %s: %s, beside false", show(i), show(got))
		case mayBe(i):
			t.Fatalf("P1601 Of %s: false", show(i))
		}
	}
	if found < 1000 || found > 19_000 {
		t.Errorf("the test itself: %d items of transactions", found)
	}
}

// mayBe reports whether a list of seven elements is the item of a transaction.
func mayBe(i api.Item) bool {
	for k, e := range i.List {
		n := len(e.Bytes)
		leading := n > 0 && e.Bytes[0] == 0
		switch {
		case e.IsList:
			return false
		case k < 3 && (leading || n > 8 || n == 8 && e.Bytes[0] > 127):
			return false
		case k == 3 && n != 20, k == 4 && n != 20 && n != 0:
			return false
		case k == 5 && (leading || n > 32):
			return false
		}
	}
	return true
}
