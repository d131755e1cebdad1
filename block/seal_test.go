package block_test

import (
	"bytes"
	"math"
	"slices"
	"testing"

	"muniments/api"
	"muniments/block"
	"muniments/keccak"
)

// unsealed demands an error of Seal, and nothing beside it.
func unsealed(t *testing.T, name string, l []api.Account, parent, b api.Block, want api.Errno) {
	t.Helper()
	if got, after, err := seal(t, name, l, parent, b); err != want || !isZero(got) || len(after) > 0 {
		t.Errorf("P1702 Seal of %s: %s, %s, error %d, not %d", name, show(got), show(after), err, want)
	}
}

// TestSealIgnores: what is sealed has its own Parent, Number, GasUsed and Root, whatever stands there.
func TestSealIgnores(t *testing.T) {
	raw, _ := refPack(someParent())
	want := sealed(t, "a move", rich(), someParent(), next(send(4)))
	if want.Parent != keccak.Sum(raw) || want.Number != 77 || want.Time != 1<<40+3 || want.Coinbase != miner || want.GasLimit != 30_000_000 || want.GasUsed != 21_000 {
		t.Errorf("P1702 Seal of a move: %s", show(want))
	}
	for _, n := range append(negatives, 0, 1, 76, 77, 78, 1<<32, math.MaxInt) {
		for k := range 16 {
			b := next(send(4))
			if k&1 != 0 {
				b.Number = n
			}
			if k&2 != 0 {
				b.GasUsed = n
			}
			if k&4 != 0 {
				b.Parent = of(n)
			}
			if k&8 != 0 {
				b.Root = of(n)
			}
			if got := sealed(t, "fields that are ignored", rich(), someParent(), b); !sameBlock(got, want) {
				t.Errorf("P1702 Seal of %s: %s, not %s", show(b), show(got), show(want))
			}
		}
	}
}

// TestSealMake: the To of a transaction that makes an account is 0 in what is sealed; nothing else of any transaction is changed.
func TestSealMake(t *testing.T) {
	l := []api.Tx{send(4), {Nonce: 5, Price: 3, Gas: 60_001, From: alice, To: code1, Make: true, Value: of(9), Data: prog(0, 0, "RETURN")}, send(6), {Gas: 70_000, From: bob, To: highestAddr, Make: true}, {Nonce: 7, Gas: 30_000, From: alice, To: highestAddr, Data: []byte{1, 2, 3}}}
	got := sealed(t, "new accounts", rich(), someParent(), next(l...))
	l[1].To, l[3].To = api.Addr{}, api.Addr{}
	if !slices.EqualFunc(got.Txs, l, sameTx) {
		t.Errorf("P1702 Seal of new accounts: %s, not %s", show(got.Txs), show(l))
	}
}

var highestAddr = api.Addr(bytes.Repeat([]byte{255}, 20))

// TestSealParents has parents without an ID, and those with the greatest Numbers and Times.
func TestSealParents(t *testing.T) {
	for name, change := range map[string]func(b *api.Block){
		"Number -1": func(b *api.Block) { b.Number = -1 }, "the least Number": func(b *api.Block) { b.Number = math.MinInt }, "Number -77": func(b *api.Block) { b.Number = -77 }, "the greatest Number": func(b *api.Block) { b.Number = math.MaxInt },
		"Time -1": func(b *api.Block) { b.Time = -1 }, "the least Time": func(b *api.Block) { b.Time = math.MinInt }, "GasLimit -1": func(b *api.Block) { b.GasLimit = -1 }, "GasUsed -1": func(b *api.Block) { b.GasUsed = -1 },
		"a Nonce -1": func(b *api.Block) { b.Txs[0].Nonce = -1 }, "a Price -1": func(b *api.Block) { b.Txs[0].Price = -1 }, "a Gas -1": func(b *api.Block) { b.Txs[0].Gas = -1 }, "long data": func(b *api.Block) { b.Txs[0].Data = make([]byte, 1<<17) },
	} {
		parent := someParent()
		change(&parent)
		unsealed(t, "a block after a parent with "+name, rich(), parent, next(send(4)), api.ErrArg)
		b := next(send(4))
		b.Time = math.MaxInt
		unsealed(t, "a late block after a parent with "+name, rich(), parent, b, api.ErrArg)
	}
	parent := someParent()
	for _, n := range []int{0, 1, 1<<31 - 1, 1 << 32, math.MaxInt - 2, math.MaxInt - 1} {
		parent.Number = n
		if b := sealed(t, "a great Number", rich(), parent, next(send(4))); b.Number != n+1 {
			t.Errorf("P1702 Seal after the Number %d: %d", n, b.Number)
		}
	}
	long := padded(t, someParent(), 0, 1<<17)
	sealed(t, "a block after the longest parent", rich(), long, next(send(4)))
	long.Txs[0].Data = append(long.Txs[0].Data, 1)
	unsealed(t, "a block after a parent that is too long", rich(), long, next(send(4)), api.ErrArg)
}

// TestSealTimes has times at the limits.
func TestSealTimes(t *testing.T) {
	for _, was := range []int{0, 1, 1 << 32, math.MaxInt - 1, math.MaxInt} {
		for _, is := range []int{math.MinInt, -1, 0, 1, 2, 1<<32 - 1, 1 << 32, 1<<32 + 1, math.MaxInt - 1, math.MaxInt} {
			parent, b := someParent(), next(send(4))
			parent.Time, b.Time = was, is
			switch {
			case is < 0:
				unsealed(t, "a negative Time", rich(), parent, b, api.ErrArg)
			case is <= was:
				unsealed(t, "a Time that isn't later", rich(), parent, b, api.ErrNumber)
			default:
				if got := sealed(t, "a later Time", rich(), parent, b); got.Time != is {
					t.Errorf("P1702 Seal with the Time %d: %d", is, got.Time)
				}
			}
		}
	}
}

// TestSealLong has blocks whose ID is asked with the GasUsed 0.
func TestSealLong(t *testing.T) {
	long := func(size int) api.Block {
		b := next(api.Tx{Nonce: 4, Gas: 3_000_000, From: alice, To: bob})
		b.Parent, b.Number, b.GasUsed, b.Root = highest, math.MaxInt, math.MaxInt, highest
		b = padded(t, b, 0, size+16)
		b.Number, b.GasUsed = -5, 1<<40
		return b
	}
	// The GasUsed takes three bytes more than a 0 does.
	for _, size := range []int{1<<17 - 5, 1<<17 - 4, 1<<17 - 3} {
		got := sealed(t, "a long block", rich(), someParent(), long(size))
		if raw, err := block.Pack(got); err != api.OK || len(raw) != size+3 {
			t.Errorf("P1702 Seal of a long block: %d bytes, error %d", len(raw), err)
		}
	}
	for _, size := range []int{1<<17 + 1, 1<<17 + 2, 1<<17 + 3, 1 << 18, 1<<24 + 1} {
		unsealed(t, "a block that is too long", rich(), someParent(), long(size), api.ErrArg)
	}
}
