package block_test

import (
	"bytes"
	"fmt"
	"math"
	"slices"
	"testing"

	"muniments/acct"
	"muniments/api"
	"muniments/block"
	"muniments/evm"
	"muniments/keccak"
)

// execute demands of Execute what the reference comes to.
func execute(t *testing.T, name string, l []api.Account, parent, b api.Block) ([]api.Account, []api.Receipt, api.Errno) {
	t.Helper()
	after, receipts, err := block.Execute(l, parent, b)
	wantAfter, wantReceipts, wantErr := refExecute(l, parent, b)
	if err != wantErr || !sameReceipts(receipts, wantReceipts) {
		t.Fatalf("P1702 Execute of %s: receipts %s, error %d\nnot %s, %d", name, show(receipts), err, show(wantReceipts), wantErr)
	}
	if !sameAccounts(after, wantAfter) {
		t.Fatalf("P1702 Execute of %s: accounts %s\nnot %s", name, show(after), show(wantAfter))
	}
	return after, receipts, err
}

// refused demands an error of Execute, and nothing beside it.
func refused(t *testing.T, name string, l []api.Account, parent, b api.Block, want api.Errno) {
	t.Helper()
	if after, receipts, err := execute(t, name, l, parent, b); err != want || len(after)+len(receipts) > 0 {
		t.Errorf("P1702 Execute of %s: %s, %s, error %d, not %d", name, show(after), show(receipts), err, want)
	}
}

// seal demands of Seal what the reference comes to, and that Execute accepts what is sealed.
func seal(t *testing.T, name string, l []api.Account, parent, b api.Block) (api.Block, []api.Account, api.Errno) {
	t.Helper()
	sealed, after, err := block.Seal(l, parent, b)
	want, wantAfter, wantErr := refSeal(l, parent, b)
	if err != wantErr || !sameBlock(sealed, want) {
		t.Fatalf("P1702 Seal of %s: %s, error %d\nnot %s, %d", name, show(sealed), err, show(want), wantErr)
	}
	if !sameAccounts(after, wantAfter) {
		t.Fatalf("P1702 Seal of %s: accounts %s\nnot %s", name, show(after), show(wantAfter))
	}
	if err == api.OK {
		again, _, err := execute(t, name+", sealed", l, parent, sealed)
		if err != api.OK || !sameAccounts(again, after) {
			t.Fatalf("P1702 Execute of %s, sealed: %s, error %d, not %s", name, show(again), err, show(after))
		}
	}
	return sealed, after, err
}

// sealed is a block that Execute accepts.
func sealed(t *testing.T, name string, l []api.Account, parent, b api.Block) api.Block {
	t.Helper()
	s, _, err := seal(t, name, l, parent, b)
	if err != api.OK {
		t.Fatalf("P1702 Seal of %s: error %d", name, err)
	}
	return s
}

// works demands that a block is accepted, and how its transactions end.
func works(t *testing.T, name string, l []api.Account, b api.Block, ends ...api.Errno) ([]api.Account, []api.Receipt) {
	t.Helper()
	after, receipts, err := execute(t, name, l, someParent(), sealed(t, name, l, someParent(), b))
	if err != api.OK || len(receipts) != len(ends) {
		t.Fatalf("P1702 Execute of %s: %d receipts, error %d", name, len(receipts), err)
	}
	for i, want := range ends {
		if receipts[i].Err != want {
			t.Errorf("P1702 Execute of %s: the transaction %d ends with the error %d, not %d", name, i, receipts[i].Err, want)
		}
	}
	return after, receipts
}

// someParent is a block that others come after.
func someParent() api.Block {
	return api.Block{Parent: of(3), Number: 76, Time: 1 << 40, Coinbase: bob, GasLimit: 1000, GasUsed: 77, Root: of(4), Txs: []api.Tx{{Nonce: 5, Data: []byte("parent")}}}
}

// next is a block with these transactions after someParent.
func next(l ...api.Tx) api.Block {
	return api.Block{Number: 77, Time: 1<<40 + 3, Coinbase: miner, GasLimit: 30_000_000, Txs: l}
}

// rich has accounts that can pay for transactions.
func rich() []api.Account {
	return []api.Account{{Addr: alice, Nonce: 4, Balance: of(100_000_000)}, {Addr: bob, Balance: of(1_000_000)}}
}

// send is a transaction of alice that moves 7.
func send(nonce int) api.Tx {
	return api.Tx{Nonce: nonce, Price: 2, Gas: 30_000, From: alice, To: bob, Value: of(7)}
}

// account is what the list has for an address.
func account(l []api.Account, a api.Addr) api.Account {
	for _, x := range l {
		if x.Addr == a {
			return x
		}
	}
	return api.Account{Addr: a}
}

// TestExamples has the examples of the chapter.
func TestExamples(t *testing.T) {
	for _, l := range [][]api.Account{nil, rich()} {
		root, _ := acct.Root(l)
		id, _ := block.ID(someParent())
		want := api.Block{Parent: id, Number: 77, Time: 1<<40 + 3, Coinbase: miner, GasLimit: 30_000_000, Root: root}
		b, after, err := seal(t, "no transactions", l, someParent(), next())
		if err != api.OK || !sameBlock(b, want) || !sameAccounts(after, l) {
			t.Errorf("P1702 Seal of a block without transactions: %s, error %d, not %s", show(b), err, show(want))
		}
		after, receipts, err := block.Execute(l, someParent(), want)
		if err != api.OK || !sameAccounts(after, l) || len(receipts) > 0 {
			t.Errorf("P1702 Execute of a block without transactions: %s, %s, error %d", show(after), show(receipts), err)
		}
	}
	b := sealed(t, "a move", rich(), someParent(), next(send(4)))
	if b.GasUsed != 21000 {
		t.Errorf("P1702 Seal of a move: GasUsed %d", b.GasUsed)
	}
	b.GasUsed = 1
	refused(t, "a sealed block with another GasUsed", rich(), someParent(), b, api.ErrUsed)
}

// TestMoves has transactions one after the other, each on what the one before it has left.
func TestMoves(t *testing.T) {
	back := api.Tx{Price: 1, Gas: 21_000, From: bob, To: alice, Value: of(1_000_000 - 21_000 + 21)}
	after, receipts := works(t, "moves", rich(), next(send(4), send(5), send(6), back), 0, 0, 0, 0)
	want := []api.Account{
		{Addr: alice, Nonce: 7, Balance: of(100_000_000 - 3*7 - 3*42_000 + 1_000_000 - 21_000 + 21)},
		{Addr: bob, Nonce: 1},
		{Addr: miner, Balance: of(7 * 21_000)},
	}
	if !sameAccounts(after, want) {
		t.Errorf("P1702 moves: %s, not %s", show(after), show(want))
	}
	for i, r := range receipts {
		if !sameReceipt(r, api.Receipt{Used: 21000}) {
			t.Errorf("P1702 moves: the receipt %d is %s", i, show(r))
		}
	}
	refused(t, "moves in another order", rich(), someParent(), next(send(5), send(4)), api.ErrNonce)
	refused(t, "a move before the balance is there", rich(), someParent(), next(back, send(4)), api.ErrFunds)
}

// TestContext has what a code may ask of its block; the sender of each transaction is the origin.
func TestContext(t *testing.T) {
	code := prog("NUMBER", 0, "MSTORE TIMESTAMP", 32, "MSTORE GASLIMIT", 64, "MSTORE COINBASE", 96, "MSTORE ORIGIN", 128, "MSTORE", 160, 0, "RETURN")
	l := append(rich(), api.Account{Addr: code1, Code: code})
	for _, x := range []struct {
		parent, b api.Block
	}{
		{someParent(), next()},
		{api.Block{}, api.Block{Number: 1, Time: 1, GasLimit: math.MaxInt32}},
		{api.Block{Number: math.MaxInt - 1, Time: math.MaxInt - 1, GasLimit: 3}, api.Block{Number: math.MaxInt, Time: math.MaxInt, GasLimit: 200_000, Coinbase: alice}},
		{api.Block{Number: 1 << 32, Time: 5, Coinbase: alice}, api.Block{Number: 1<<32 + 1, Time: 1 << 50, GasLimit: 1_000_000, Coinbase: code1}},
	} {
		x.b.Txs = []api.Tx{{Nonce: 4, Gas: 90_000, From: alice, To: code1}, {Gas: 80_000, From: bob, To: code1}}
		b := sealed(t, "a context", l, x.parent, x.b)
		_, receipts, err := execute(t, "a context", l, x.parent, b)
		for i, from := range []api.Addr{alice, bob} {
			var want []byte
			for _, w := range []api.Word{of(x.b.Number), of(x.b.Time), of(x.b.GasLimit), wordOf(x.b.Coinbase), wordOf(from)} {
				want = append(want, w[:]...)
			}
			if err != api.OK || !bytes.Equal(receipts[i].Out, want) {
				t.Errorf("P1702 the context: %s, error %d, not %s", show(receipts), err, show(want))
			}
		}
	}
}

// TestReceipts has transactions that end in all kinds of ways: each has its receipt, in their order.
func TestReceipts(t *testing.T) {
	l := append(rich(),
		api.Account{Addr: code1, Code: prog(5, 0, "SSTORE", 9, 0, "MSTORE8", 6, 1, 0, "LOG1", 1, 0, "RETURN")},
		api.Account{Addr: code2, Code: prog(5, 0, "SSTORE", 8, 0, "MSTORE8", 1, 0, "REVERT"), Slots: []api.Slot{{Key: of(0), Value: of(3)}}},
	)
	init := prog(7, 1, "SSTORE", 2, 0, "RETURN")
	b := next(
		api.Tx{Nonce: 4, Price: 1, Gas: 50_000, From: alice, To: code1},
		api.Tx{Nonce: 5, Price: 1, Gas: 50_000, From: alice, To: code2},
		api.Tx{Nonce: 6, Price: 1, Gas: 60_000, From: alice, To: bob, Make: true, Data: []byte{0xfe}},
		api.Tx{Nonce: 7, Price: 1, Gas: 90_000, From: alice, To: bob, Make: true, Value: of(11), Data: init},
		api.Tx{Nonce: 8, Price: 1, Gas: 25_000, From: alice, To: code1},
		api.Tx{Nonce: 0, Price: 1, Gas: 25_000, From: bob, To: alice, Value: of(1)},
	)
	after, receipts := works(t, "ends of all kinds", l, b, api.OK, api.ErrRevert, api.ErrOp, api.OK, api.ErrGas, api.OK)
	made := evm.Address(alice, 7)
	if !bytes.Equal(receipts[0].Out, []byte{9}) || len(receipts[0].Logs) != 1 || !bytes.Equal(receipts[1].Out, []byte{8}) || receipts[2].Used != 60_000 || receipts[3].Addr != made || receipts[4].Used != 25_000 || receipts[5].Used != 21_000 {
		t.Errorf("P1702 ends of all kinds: %s", show(receipts))
	}
	paid := 0
	for _, r := range receipts {
		paid += r.Used
	}
	if got := account(after, miner); got.Balance != of(paid) {
		t.Errorf("P1702 ends of all kinds: the coinbase has %x, not %d", got.Balance, paid)
	}
	want := api.Account{Addr: made, Nonce: 1, Balance: of(11), Code: []byte{0, 0}, Slots: []api.Slot{{Key: of(1), Value: of(7)}}}
	if got := account(after, made); !sameAccounts([]api.Account{got}, []api.Account{want}) {
		t.Errorf("P1702 ends of all kinds: the new account is %s", show(got))
	}
	if got := account(after, code1); !slices.Equal(got.Slots, []api.Slot{{Key: of(0), Value: of(5)}}) {
		t.Errorf("P1702 ends of all kinds: %s", show(got))
	}
}

// TestGone has accounts that have nothing any more afterwards: they are none.
func TestGone(t *testing.T) {
	l := []api.Account{{Addr: alice, Balance: of(60_007)}, {Addr: code1, Balance: of(5), Code: prog(bob, "SELFDESTRUCT")}, {Addr: code2, Code: prog(0, 1, "SSTORE"), Slots: []api.Slot{{Key: of(1), Value: of(9)}}}}
	after, _ := works(t, "accounts that go away", l, next(
		api.Tx{Nonce: 0, Price: 1, Gas: 26_003, From: alice, To: code1},
		api.Tx{Nonce: 1, Price: 1, Gas: 26_006, From: alice, To: code2},
	), 0, 0)
	want := []api.Account{{Addr: alice, Nonce: 2, Balance: of(60_007 - 26_003 - 26_006)}, {Addr: bob, Balance: of(5)}, {Addr: code2, Code: l[2].Code}, {Addr: miner, Balance: of(26_003 + 26_006)}}
	if !sameAccounts(after, want) {
		t.Errorf("P1702 accounts that go away: %s, not %s", show(after), show(want))
	}
	after, _ = works(t, "nothing is paid", []api.Account{{Addr: bob, Balance: of(1)}}, next(api.Tx{Gas: 21_000, From: bob, To: alice, Value: of(1)}), 0)
	if want := []api.Account{{Addr: alice, Balance: of(1)}, {Addr: bob, Nonce: 1}}; !sameAccounts(after, want) {
		t.Errorf("P1702 nothing is paid: %s", show(after))
	}
}

// TestParentIsNotExamined: of the parent, Execute takes Number and Time alone, and of the block all but Parent.
func TestParentIsNotExamined(t *testing.T) {
	b := sealed(t, "a move", rich(), someParent(), next(send(4)))
	for _, parent := range []api.Word{{}, of(1), highest, b.Root, keccak.Sum()} {
		b.Parent = parent
		if _, _, err := execute(t, "another Parent", rich(), someParent(), b); err != api.OK {
			t.Errorf("P1702 Execute of a block with another Parent: error %d", err)
		}
	}
	for _, parent := range []api.Block{
		{Number: 76}, {Number: 76, Time: -1}, {Number: 76, Time: math.MinInt}, {Number: 76, Time: 1<<40 + 2}, {Number: 76, GasLimit: -1, GasUsed: -7}, {Number: 76, Txs: []api.Tx{{Nonce: -1}}},
		{Number: 76, Txs: []api.Tx{{Data: make([]byte, 1<<17)}}}, {Number: 76, GasLimit: math.MaxInt, GasUsed: 1, Root: highest, Coinbase: code1},
	} {
		if _, _, err := execute(t, "another parent", rich(), parent, b); err != api.OK {
			t.Errorf("P1702 Execute of a block after %s: error %d", show(parent), err)
		}
	}
}

// TestNumbers has numbers and times of the block and of its parent at their limits.
func TestNumbers(t *testing.T) {
	numbers := []int{math.MinInt, math.MinInt + 1, -2, -1, 0, 1, 2, 76, 77, 1 << 31, 1 << 32, 1<<32 + 1, math.MaxInt - 1, math.MaxInt}
	root, _ := acct.Root(rich())
	for _, was := range numbers {
		for _, is := range numbers {
			b := api.Block{Number: is, Time: 5, Root: root}
			want := api.ErrNumber
			switch {
			case is < 0:
				want = api.ErrArg
			case is-1 == was:
				want = api.OK
			}
			if _, _, err := execute(t, "a number", rich(), api.Block{Number: was, Time: 4}, b); err != want {
				t.Errorf("P1702 Execute of the Number %d after %d: error %d, not %d", is, was, err, want)
			}
			b = api.Block{Number: 8, Time: is, Root: root}
			want = api.ErrNumber
			switch {
			case is < 0:
				want = api.ErrArg
			case is > was:
				want = api.OK
			}
			if _, _, err := execute(t, "a time", rich(), api.Block{Number: 7, Time: was}, b); err != want {
				t.Errorf("P1702 Execute of the Time %d after %d: error %d, not %d", is, was, err, want)
			}
		}
	}
}

// TestGasLimits has limits that are just enough for what transactions may use after the others, and by one too little.
func TestGasLimits(t *testing.T) {
	root, _ := acct.Root(rich())
	for _, limit := range []int{0, 1, 20_999, 1<<31 - 2, 1<<31 - 1, 1 << 31, 1<<31 + 1, 1 << 32, math.MaxInt} {
		b := api.Block{Number: 77, Time: 1 << 41, GasLimit: limit, Root: root}
		_, _, err := execute(t, "a limit", rich(), someParent(), b)
		_, _, sealErr := seal(t, "a limit", rich(), someParent(), b)
		want := api.OK
		if limit >= 1<<31 {
			want = api.ErrLimit
		}
		if err != want || sealErr != want {
			t.Errorf("P1702 the GasLimit %d: errors %d and %d, not %d", limit, err, sealErr, want)
		}
	}
	for _, x := range []struct {
		name  string
		limit int
		err   api.Errno
		gas   []int
	}{
		{"one", 30_000, api.OK, []int{30_000}}, {"one and too little", 29_999, api.ErrLimit, []int{30_000}}, {"nothing", 0, api.ErrLimit, []int{21_000}},
		{"two that use less than they may", 51_000, api.OK, []int{30_000, 30_000}}, {"two and too little", 50_999, api.ErrLimit, []int{30_000, 30_000}},
		{"two that use all", 42_000, api.OK, []int{21_000, 21_000}}, {"two that use all and too little", 41_999, api.ErrLimit, []int{21_000, 21_000}},
		{"three", 72_000, api.OK, []int{40_000, 50_000, 30_000}}, {"three and too little for the second", 70_999, api.ErrLimit, []int{40_000, 50_000, 21_000}}, {"three and too little for the third", 71_999, api.ErrLimit, []int{40_000, 50_000, 30_000}}, {"three and too little for the first", 72_000, api.ErrLimit, []int{72_001, 21_000, 21_000}},
		{"the greatest limit", math.MaxInt32, api.OK, []int{math.MaxInt32}}, {"the greatest limit twice", math.MaxInt32, api.ErrLimit, []int{math.MaxInt32, math.MaxInt32}}, {"the greatest limit and what is left of it", math.MaxInt32, api.OK, []int{math.MaxInt32, math.MaxInt32 - 21_000}}, {"a greater gas", math.MaxInt32, api.ErrLimit, []int{1 << 31}}, {"the greatest number", math.MaxInt32, api.ErrLimit, []int{math.MaxInt}}, {"the greatest number behind another", math.MaxInt32, api.ErrLimit, []int{21_000, math.MaxInt}},
	} {
		b := next()
		b.GasLimit = x.limit
		for i, gas := range x.gas {
			a := send(4 + i)
			a.Price, a.Gas = 0, gas
			b.Txs = append(b.Txs, a)
		}
		if got, _, err := seal(t, x.name, rich(), someParent(), b); err != x.err || err == api.OK && got.GasUsed != 21_000*len(x.gas) {
			t.Errorf("P1702 Seal of %s: error %d, not %d", x.name, err, x.err)
		}
		if x.err != api.OK {
			refused(t, x.name, rich(), someParent(), b, x.err)
		}
	}
}

// TestUsedAndRoot has sealed blocks with another GasUsed or Root.
func TestUsedAndRoot(t *testing.T) {
	for _, txs := range [][]api.Tx{nil, {send(4)}, {send(4), send(5), {Nonce: 6, Price: 1, Gas: 60_000, From: alice, Make: true, Data: []byte{0xfe}}}} {
		right := sealed(t, "a block", rich(), someParent(), next(txs...))
		used := right.GasUsed
		for _, n := range []int{0, 1, 21_000, used - 1, used + 1, used ^ 1<<32, used ^ 1<<31, used + 1<<62, 2 * used, math.MaxInt} {
			b := right
			if b.GasUsed = n; n != used && n >= 0 {
				refused(t, "another GasUsed", rich(), someParent(), b, api.ErrUsed)
				b.Root[5]++
				refused(t, "another GasUsed and Root", rich(), someParent(), b, api.ErrUsed)
			}
		}
		for i := range 256 {
			b := right
			b.Root[i/8] ^= 1 << (i % 8)
			refused(t, "another Root", rich(), someParent(), b, api.ErrRoot)
		}
		before, _ := acct.Root(rich())
		for _, root := range []api.Word{{}, before, highest, someParent().Root} {
			b := right
			if b.Root = root; root != right.Root {
				refused(t, "another Root", rich(), someParent(), b, api.ErrRoot)
			}
		}
		other := rich()
		other[1].Nonce = 1
		refused(t, "other accounts", other, someParent(), right, api.ErrRoot)
	}
}

// TestLastBytes: the Root hangs on each thing of each account.
func TestLastBytes(t *testing.T) {
	l := append(rich(), api.Account{Addr: code1, Code: []byte{0}, Slots: []api.Slot{{Key: of(1), Value: of(2)}}})
	b := sealed(t, "no transactions", l, someParent(), next())
	for i, change := range []func(l []api.Account){
		func(l []api.Account) { l[0].Balance[31]++ }, func(l []api.Account) { l[0].Balance[0]++ }, func(l []api.Account) { l[1].Nonce++ }, func(l []api.Account) { l[2].Code = []byte{1} }, func(l []api.Account) { l[2].Addr[19]++ },
		func(l []api.Account) { l[2].Slots = []api.Slot{{Key: of(1), Value: of(3)}} }, func(l []api.Account) { l[2].Slots = []api.Slot{{Key: of(2), Value: of(2)}} }, func(l []api.Account) { l[2].Slots = nil },
	} {
		other := slices.Clone(l)
		change(other)
		refused(t, fmt.Sprint("other accounts ", i), other, someParent(), b, api.ErrRoot)
	}
}

// TestManyAccounts has as many accounts as a root can be of, and one more: what is sealed is accepted.
func TestManyAccounts(t *testing.T) {
	for _, count := range []int{100_000, 100_001} {
		var l []api.Account
		for i := range count {
			l = append(l, api.Account{Addr: api.Addr{17: byte(i >> 16), 18: byte(i >> 8), 19: byte(i)}, Nonce: 1})
		}
		sealed(t, "many accounts", l, someParent(), next())
	}
}
