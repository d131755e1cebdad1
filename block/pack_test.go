package block_test

import (
	"bytes"
	"math"
	"slices"
	"strings"
	"testing"

	"muniments/api"
	"muniments/block"
	"muniments/keccak"
)

// packs demands these bytes of Pack, the block of Read, and their hash of ID.
func packs(t *testing.T, b api.Block, want []byte) {
	t.Helper()
	got, err := block.Pack(b)
	if err != api.OK || !bytes.Equal(got, want) {
		t.Errorf("P1701 Pack of %s: %s, error %d, not %s", show(b), show(got), err, show(want))
	}
	if id, ok := block.ID(b); !ok || id != keccak.Sum(want) {
		t.Errorf("P1701 ID of %s: %x, %v, not %x", show(b), id, ok, keccak.Sum(want))
	}
	b.Txs = called(b.Txs)
	if back, err := block.Read(want); err != api.OK || !sameBlock(back, b) {
		t.Errorf("P1701 Read of %s: %s, error %d, not %s", show(want), show(back), err, show(b))
	}
}

// packsNothing demands an error of Pack, and no ID.
func packsNothing(t *testing.T, name string, b api.Block, want api.Errno) {
	t.Helper()
	if got, err := block.Pack(b); err != want || len(got) > 0 {
		t.Errorf("P1701 Pack of %s: %s, error %d, not %d", name, show(got), err, want)
	}
	if id, ok := block.ID(b); ok || id != (api.Word{}) {
		t.Errorf("P1701 ID of %s: %x, %v", name, id, ok)
	}
}

// TestPack has blocks whose bytes are written out.
func TestPack(t *testing.T) {
	nobody, zero := "94"+strings.Repeat("00", 20), "a0"+strings.Repeat("00", 32)
	from := "94 a1000000000000000000 00000000000000000001"
	to := "94 b0000000000000000000 00000000000000000002"
	pays := "94 cb000000000000000000 00000000000000000005"
	ones := "a0" + strings.Repeat("ff", 32)
	low := "a0" + strings.Repeat("00", 31) + "09"
	for _, c := range []struct {
		b    api.Block
		text string
	}{
		{api.Block{}, "f85c" + zero + "80 80" + nobody + "80 80" + zero + "c0"},
		{api.Block{Txs: []api.Tx{}}, "f85c" + zero + "80 80" + nobody + "80 80" + zero + "c0"},
		{api.Block{Parent: highest}, "f85c" + ones + "80 80" + nobody + "80 80" + zero + "c0"},
		{api.Block{Parent: of(9)}, "f85c" + low + "80 80" + nobody + "80 80" + zero + "c0"},
		{api.Block{Number: 5}, "f85c" + zero + "05 80" + nobody + "80 80" + zero + "c0"},
		{api.Block{Time: 5}, "f85c" + zero + "80 05" + nobody + "80 80" + zero + "c0"},
		{api.Block{Coinbase: miner}, "f85c" + zero + "80 80" + pays + "80 80" + zero + "c0"},
		{api.Block{GasLimit: 5}, "f85c" + zero + "80 80" + nobody + "05 80" + zero + "c0"},
		{api.Block{GasUsed: 5}, "f85c" + zero + "80 80" + nobody + "80 05" + zero + "c0"},
		{api.Block{Root: highest}, "f85c" + zero + "80 80" + nobody + "80 80" + ones + "c0"},
		{api.Block{Root: of(9)}, "f85c" + zero + "80 80" + nobody + "80 80" + low + "c0"},
		{api.Block{Txs: []api.Tx{{}}}, "f88c" + zero + "80 80" + nobody + "80 80" + zero + "f0 ef 80 80 80" + nobody + nobody + "80 80"},
		{api.Block{Txs: []api.Tx{{Make: true, To: bob}}}, "f878" + zero + "80 80" + nobody + "80 80" + zero + "dc db 80 80 80" + nobody + "80 80 80"},
		{api.Block{Txs: []api.Tx{{Make: true}, {From: alice, Make: true}}}, "f895" + zero + "80 80" + nobody + "80 80" + zero + "f838 db 80 80 80" + nobody + "80 80 80 db 80 80 80" + from + "80 80 80"},
		{
			api.Block{Parent: of(9), Number: 127, Time: 128, Coinbase: miner, GasLimit: 30_000_000, GasUsed: 21_000, Root: highest, Txs: []api.Tx{{Nonce: 1, Price: 2, Gas: 30_000, From: alice, To: bob, Value: of(7)}}},
			"f895" + low + "7f 8180" + pays + "8401c9c380 825208" + ones + "f2 f1 01 02 827530" + from + to + "07 80",
		},
		{
			api.Block{Number: math.MaxInt, Time: math.MaxInt, GasLimit: math.MaxInt, GasUsed: math.MaxInt},
			"f87c" + zero + "887fffffffffffffff 887fffffffffffffff" + nobody + "887fffffffffffffff 887fffffffffffffff" + zero + "c0",
		},
	} {
		packs(t, c.b, unhex(c.text))
	}
}

// TestPackNoise has numbers with each number of bits, and blocks of all kinds.
func TestPackNoise(t *testing.T) {
	holds := func(b api.Block) {
		raw, _ := refPack(b)
		packs(t, b, raw)
	}
	for k := range 63 {
		for _, n := range []int{1<<k - 1, 1 << k, 1<<k + 1} {
			for _, b := range []api.Block{{Number: n}, {Time: n}, {GasLimit: n}, {GasUsed: n}, {Number: n, Time: n / 3, GasLimit: n / 5, GasUsed: n / 7}} {
				holds(b)
			}
		}
	}
	for k := range 256 {
		var w api.Word
		w[k/8] = 1 << (k % 8)
		holds(api.Block{Parent: w})
		holds(api.Block{Root: w})
		if k < 160 {
			var a api.Addr
			a[k/8] = 1 << (k % 8)
			holds(api.Block{Coinbase: a})
		}
	}
	n := noise(1)
	for range 3000 {
		holds(n.block())
	}
	for count := range 100 {
		b := someBlock()
		b.Txs = nil
		for range count {
			b.Txs = append(b.Txs, n.tx())
		}
		holds(b)
	}
}

// TestMakeIgnoresTo: a transaction that makes an account calls none.
func TestMakeIgnoresTo(t *testing.T) {
	for _, to := range []api.Addr{{}, bob, {0: 1}, {19: 1}} {
		b := someBlock()
		for i := range b.Txs {
			b.Txs[i].Make, b.Txs[i].To = true, to
		}
		raw, _ := refPack(b)
		packs(t, b, raw)
	}
}

// negatives has numbers that are less than 0.
var negatives = []int{-1, -2, -255, -256, -1 << 31, -1 << 32, math.MinInt + 1, math.MinInt}

// TestNegative has negative numbers at each place, alone and together, in blocks that are short and too long.
func TestNegative(t *testing.T) {
	for _, long := range []bool{false, true} {
		fresh := func() api.Block {
			b := someBlock()
			if long {
				b.Txs[1].Data = make([]byte, api.MaxBlock)
			}
			return b
		}
		for _, n := range negatives {
			for k := 1; k < 16; k++ {
				b := fresh()
				for i, p := range []*int{&b.Number, &b.Time, &b.GasLimit, &b.GasUsed} {
					if k>>i&1 == 1 {
						*p = n
					}
				}
				packsNothing(t, "a negative number", b, api.ErrArg)
			}
			for i := range 3 {
				for k := 1; k < 8; k++ {
					b := fresh()
					for j, p := range []*int{&b.Txs[i].Nonce, &b.Txs[i].Price, &b.Txs[i].Gas} {
						if k>>j&1 == 1 {
							*p = n
						}
					}
					packsNothing(t, "a negative number in a transaction", b, api.ErrArg)
				}
			}
		}
		if long {
			packsNothing(t, "a long block", fresh(), api.ErrLong)
		}
	}
	b := someBlock()
	b.Txs[0].Data, b.Txs[2].Nonce = make([]byte, 1<<24), -1
	packsNothing(t, "2^24 bytes ahead of a negative number", b, api.ErrArg)
	b.Txs = append(slices.Repeat([]api.Tx{{}}, 1<<13), api.Tx{Gas: -1})
	packsNothing(t, "many transactions ahead of a negative number", b, api.ErrArg)
}

// padded is b with so much data in the transaction k that it has just size bytes.
func padded(t *testing.T, b api.Block, k, size int) api.Block {
	t.Helper()
	b.Txs = slices.Clone(b.Txs)
	b.Txs[k].Data = nil
	for range 3 { // the heads grow with the data
		b.Txs[k].Data = bytes.Repeat([]byte{200}, size-len(refList(refElements(b)...))+len(b.Txs[k].Data))
	}
	if n := len(refList(refElements(b)...)); n != size {
		t.Fatalf("the test itself: %d bytes, not %d", n, size)
	}
	return b
}

// TestLongest has blocks of just as many bytes as there may be, and of more.
func TestLongest(t *testing.T) {
	for k := range 3 {
		for _, size := range []int{1000, 1<<16 - 1, 1 << 16, 1<<16 + 5, 1<<17 - 2, 1<<17 - 1, 1 << 17} {
			b := padded(t, someBlock(), k, size)
			packs(t, b, refList(refElements(b)...))
		}
		for _, size := range []int{1<<17 + 1, 1<<17 + 2, 1<<17 + 100, 1 << 18, 1 << 24, 1<<24 + 1} {
			packsNothing(t, "too many bytes", padded(t, someBlock(), k, size), api.ErrLong)
		}
	}
	for _, size := range []int{1 << 17, 1<<17 + 1, 1<<24 + 1} { // the example, and more
		packsNothing(t, "long data", api.Block{Txs: []api.Tx{{Data: make([]byte, size)}}}, api.ErrLong)
	}
	b := padded(t, someBlock(), 0, 1<<17)
	for _, p := range []*int{&b.Number, &b.Time, &b.GasLimit, &b.GasUsed, &b.Txs[0].Nonce, &b.Txs[1].Price, &b.Txs[2].Gas} {
		was := *p
		*p = math.MaxInt
		packsNothing(t, "a number that is longer by some bytes", b, api.ErrLong)
		*p = was
	}
	b.Txs[1].Make, b.Txs[1].Data = false, b.Txs[1].Data[:1]
	packsNothing(t, "20 bytes more for To", b, api.ErrLong)
	b.Txs[1].Make = true
	raw, _ := refPack(b)
	packs(t, b, raw)
}

// TestManyTransactions has blocks that get long by the number of their transactions.
func TestManyTransactions(t *testing.T) {
	one := api.Tx{From: alice, Make: true} // 28 bytes
	most := (1<<17 - 33 - 1 - 1 - 21 - 1 - 1 - 33 - 4 - 4) / 28
	b := api.Block{Txs: slices.Repeat([]api.Tx{one}, most)}
	raw, err := refPack(b)
	if err != api.OK || len(raw)+28 <= 1<<17 {
		t.Fatalf("the test itself: %d bytes", len(raw))
	}
	packs(t, b, raw)
	b.Txs = append(b.Txs, one)
	packsNothing(t, "a transaction too many", b, api.ErrLong)
	b.Txs = slices.Repeat(b.Txs, 130) // more bytes than any encoding has
	packsNothing(t, "far too many transactions", b, api.ErrLong)
	b.Txs = slices.Repeat([]api.Tx{{Data: make([]byte, 1<<16)}}, 1<<12)
	packsNothing(t, "many transactions with the same data", b, api.ErrLong)
}

// TestID has the hash of bytes that are written out.
func TestID(t *testing.T) {
	raw := unhex("f85c a0" + strings.Repeat("00", 32) + "80 80 94" + strings.Repeat("00", 20) + "80 80 a0" + strings.Repeat("00", 32) + "c0")
	if id, ok := block.ID(api.Block{}); !ok || id != keccak.Sum(raw) {
		t.Errorf("P1701 ID of an empty block: %x, %v", id, ok)
	}
	packsNothing(t, "the Number -1", api.Block{Number: -1}, api.ErrArg)
	known := map[api.Word]string{}
	for name, change := range map[string]func(b *api.Block){
		"nothing": func(*api.Block) {}, "Parent": func(b *api.Block) { b.Parent[31]++ }, "Number": func(b *api.Block) { b.Number++ }, "Time": func(b *api.Block) { b.Time++ }, "Coinbase": func(b *api.Block) { b.Coinbase[19]++ },
		"GasLimit": func(b *api.Block) { b.GasLimit++ }, "GasUsed": func(b *api.Block) { b.GasUsed++ }, "Root": func(b *api.Block) { b.Root[0]++ },
		"a transaction less": func(b *api.Block) { b.Txs = b.Txs[:2] }, "another order": func(b *api.Block) { b.Txs[0], b.Txs[1] = b.Txs[1], b.Txs[0] }, "another Nonce": func(b *api.Block) { b.Txs[2].Nonce++ }, "other Data": func(b *api.Block) { b.Txs[2].Data[0]++ },
	} {
		b := someBlock()
		change(&b)
		id, ok := block.ID(b)
		if other, is := known[id]; is || !ok {
			t.Errorf("P1701 ID with a change of %s is as with that of %s: %x, %v", name, other, id, ok)
		}
		known[id] = name
	}
}
