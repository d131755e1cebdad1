package block_test

import (
	"bytes"
	"fmt"
	"math"
	"math/big"
	"slices"
	"testing"

	"muniments/api"
	"muniments/block"
	"muniments/gas"
	"muniments/state"
	"muniments/tx"
)

// code is one that does something with what it is given.
func (n *noise) code() []byte {
	return pick(n,
		nil, nil,
		[]byte{0xfe},
		prog("CALLVALUE", n.below(3), "SSTORE"),
		prog("NUMBER TIMESTAMP SSTORE GASLIMIT", 0, "MSTORE", 32, 0, "RETURN"),
		prog("CALLDATASIZE", 0, 0, "CALLDATACOPY CALLDATASIZE", 0, "LOG0 CALLDATASIZE", 0, "RETURN"),
		prog("ORIGIN", 0, "MSTORE", 1, 1, "SSTORE", 32, 0, "REVERT"),
		prog("CALLER SELFDESTRUCT"), prog("COINBASE SELFDESTRUCT"),
		prog(0, 0, 0, 0, n.below(9), "COINBASE", n.below(9000), "CALL"),
		prog(0, 0, 0, 0, 0, pick(n, alice, bob, code1, code2), "GAS CALL GAS", 0, "MSTORE", 32, 0, "RETURN"),
		prog(0, 0, n.below(5), "CREATE", 0, "MSTORE", 32, 0, "RETURN"),
		prog("JUMPDEST", 0, "JUMP"),
		prog(3, 0, "RETURN"),
	)
}

// accounts has some of the accounts of the tests.
func (n *noise) accounts() []api.Account {
	var l []api.Account
	for _, a := range []api.Addr{alice, bob, code1, code2, miner} {
		x := api.Account{Addr: a, Nonce: pick(n, 0, 1, 5, 200), Balance: pick(n, of(n.below(300_000)), of(1<<50), of(-1-n.below(200_000)), n.word()), Code: n.code()}
		if n.below(3) == 0 {
			x.Slots = []api.Slot{{Key: of(1), Value: of(1 + n.below(9))}}
		}
		if n.below(5) > 0 && (x.Nonce > 0 || x.Balance != api.Word{}) {
			l = append(l, x)
		}
	}
	return l
}

// sent is a transaction of one of the accounts l; as a rule it can be executed.
func (n *noise) sent(l []api.Account) api.Tx {
	var from api.Account
	if len(l) > 0 {
		from = pick(n, l...)
	}
	a := api.Tx{Nonce: from.Nonce, Price: pick(n, 0, 1, 1, 2), From: from.Addr, To: pick(n, alice, bob, code1, code2, miner), Make: n.below(4) == 0, Data: n.code()}
	a.Gas = gas.Intrinsic(a) + pick(n, 0, 1, 50, 3000, 60_000, 60_000, 200_000)
	if n.below(2) == 0 {
		a.Value = of(n.below(5))
	}
	if all := big.NewInt(int64(a.Price * a.Gas)); number(from.Balance).Cmp(all) < 0 {
		a.Price, a.Value = 0, api.Word{}
	}
	switch n.below(60) {
	case 0:
		a.Nonce += n.below(3) - 1
	case 1:
		a.Gas -= n.below(61_000)
	case 2:
		a.Value = of(-1 - n.below(9))
	case 3:
		a.Price = pick(n, -1, 1<<31, math.MaxInt)
	}
	return a
}

// after is a block after parent, on the accounts l; as a rule it can be sealed.
func (n *noise) after(l []api.Account, parent api.Block) api.Block {
	b := api.Block{Parent: n.word(), Number: n.below(5), Time: parent.Time + 1 + n.below(20), Coinbase: pick(n, miner, alice, bob, code1), GasUsed: n.below(100), Root: n.word()}
	s := state.New(l)
	used := 0
	for range n.below(6) {
		a := n.sent(s.Accounts())
		b.Txs = append(b.Txs, a)
		// In the block it may come to something else, with another limit.
		if r, err := tx.Apply(s, a, api.Context{Number: parent.Number + 1, Time: b.Time, GasLimit: 30_000_000, Coinbase: b.Coinbase}); err == api.OK {
			b.GasLimit = max(b.GasLimit, used+a.Gas)
			used += r.Used
		}
	}
	switch n.below(30) {
	case 0:
		b.Time = parent.Time - n.below(2)
	case 1:
		b.GasLimit--
	case 2:
		b.GasLimit = pick(n, 0, -1, 1<<31, 1<<31-1)
	case 3, 4, 5, 6, 7, 8, 9, 10:
		b.GasLimit = 30_000_000
	}
	return b
}

// changed is b with something else in one field, or nothing else.
func (n *noise) changed(b api.Block) api.Block {
	b = copyBlock(b)
	b.Parent = n.word()
	switch n.below(12) {
	case 0:
		b.Number += n.below(3) - 1
	case 1:
		b.Time -= n.below(20)
	case 2:
		b.Coinbase = pick(n, miner, alice, bob, code1)
	case 3:
		b.GasLimit += n.below(3) - 1
	case 4:
		b.GasUsed += n.below(3) - 1
	case 5:
		b.Root[n.below(32)] ^= 1 << n.below(8)
	case 6:
		if len(b.Txs) > 0 {
			i := n.below(len(b.Txs))
			b.Txs = slices.Delete(b.Txs, i, i+1)
		}
	case 7:
		if len(b.Txs) > 1 {
			i := n.below(len(b.Txs) - 1)
			b.Txs[i], b.Txs[i+1] = b.Txs[i+1], b.Txs[i]
		}
	case 8:
		if len(b.Txs) > 0 {
			a := &b.Txs[n.below(len(b.Txs))]
			switch n.below(4) {
			case 0:
				a.Gas += n.below(3) - 1
			case 1:
				a.Price++
			case 2:
				a.Value[31]++
			case 3:
				a.Data = append(a.Data, byte(n.below(2)))
			}
		}
	}
	return b
}

// TestRandomChains seals block after block, with transactions of all kinds, and executes what is sealed and what is like it.
func TestRandomChains(t *testing.T) {
	n := noise(3)
	errs, ends, chains := map[api.Errno]int{}, map[api.Errno]int{}, 0
	for round := range 150 {
		l := n.accounts()
		parent := api.Block{Number: pick(&n, 0, 7, 1<<40, math.MaxInt-5), Time: n.count(), Txs: []api.Tx{n.tx()}}
		for i := range 12 {
			name := fmt.Sprintf("the block %d of the chain %d", i, round)
			b := n.after(l, parent)
			s, after, err := seal(t, name, l, parent, b)
			if errs[err]++; err != api.OK {
				execute(t, name, l, parent, b)
				continue
			}
			if _, receipts, err := execute(t, name, l, parent, s); err == api.OK {
				for _, r := range receipts {
					ends[r.Err]++
				}
			}
			for range 4 {
				_, _, err := execute(t, name+", changed", l, parent, n.changed(s))
				errs[err]++
			}
			chains = max(chains, i)
			l, parent = after, s
		}
	}
	for _, err := range []api.Errno{api.OK, api.ErrArg, api.ErrNonce, api.ErrGas, api.ErrFunds, api.ErrNumber, api.ErrLimit, api.ErrUsed, api.ErrRoot} {
		if errs[err] < 20 {
			t.Errorf("the test itself: only %d random blocks with the error %d", errs[err], err)
		}
	}
	for _, err := range []api.Errno{api.OK, api.ErrGas, api.ErrOp, api.ErrRevert} {
		if ends[err] < 20 {
			t.Errorf("the test itself: only %d random transactions that end with the error %d", ends[err], err)
		}
	}
	if chains < 11 {
		t.Errorf("the test itself: no chain of more than %d blocks", chains)
	}
}

// TestRandomBytes packs what is sealed, reads it and executes what was read.
func TestRandomBytes(t *testing.T) {
	n := noise(4)
	for i := range 300 {
		l := n.accounts()
		parent := n.block()
		parent.Number, parent.Time = n.below(9), n.below(9)
		s, after, err := block.Seal(l, parent, n.after(l, parent))
		if err != api.OK {
			continue
		}
		raw, err := block.Pack(s)
		if want, _ := refPack(s); err != api.OK || !bytes.Equal(raw, want) {
			t.Fatalf("P1701 Pack of %s: %x, error %d", show(s), raw, err)
		}
		read, err := block.Read(raw)
		if err != api.OK || !sameBlock(read, s) {
			t.Fatalf("P1701 Read of %x: %s, error %d", raw, show(read), err)
		}
		if got, _, err := execute(t, fmt.Sprint("read ", i), l, parent, read); err != api.OK || !sameAccounts(got, after) {
			t.Errorf("P1702 a block that was read: %s, error %d", show(got), err)
		}
	}
}

func BenchmarkExecute(b *testing.B) {
	var l []api.Tx
	for i := range 100 {
		l = append(l, send(4+i))
	}
	s, _, err := block.Seal(rich(), someParent(), next(l...))
	for b.Loop() {
		if _, _, err = block.Execute(rich(), someParent(), s); err != api.OK {
			b.Fatal(err)
		}
	}
}

func BenchmarkPackRead(b *testing.B) {
	for b.Loop() {
		raw, _ := block.Pack(someBlock())
		if _, err := block.Read(raw); err != api.OK {
			b.Fatal(err)
		}
	}
}
