package tx_test

import (
	"bytes"
	"fmt"
	"math"
	"math/big"
	"slices"
	"testing"

	"muniments/api"
	"muniments/state"
	"muniments/tx"
)

// code is one that does something with what it is given.
func (n *noise) code() []byte {
	return pick(n,
		nil, nil,
		[]byte{0xfe},
		prog("CALLVALUE", n.below(3), "SSTORE"),
		prog("CALLDATASIZE", 0, 0, "CALLDATACOPY CALLDATASIZE", 0, "LOG0 CALLDATASIZE", 0, "RETURN"),
		prog("ORIGIN", 0, "MSTORE", 1, 1, "SSTORE", 32, 0, "REVERT"),
		prog("CALLER SELFDESTRUCT"), prog("COINBASE SELFDESTRUCT"), prog("ADDRESS SELFDESTRUCT"),
		prog(0, 0, 0, 0, "SELFBALANCE CALLER", n.below(9000), "CALL", 0, "MSTORE", 32, 0, "RETURN"),
		prog(0, 0, 0, 0, n.below(9), "COINBASE", n.below(9000), "CALL"),
		prog(0, 0, 0, 0, 0, pick(n, alice, bob, code1, code2), "GAS CALL GAS", 0, "MSTORE", 32, 0, "RETURN"),
		prog(0, 0, n.below(5), "CREATE", 0, "MSTORE", 32, 0, "RETURN"),
		prog("JUMPDEST", 0, "JUMP"),
		prog(3, 0, "RETURN"),
	)
}

// balance is a small one, one that is as good as full, or any.
func (n *noise) balance() api.Word {
	switch n.below(6) {
	case 0:
		return of(-1 - n.below(3))
	case 1:
		return of(-n.below(200_000))
	case 2:
		return of(n.below(3))
	case 3:
		return n.word()
	}
	return of(n.below(2_000_000))
}

// accounts has each of the accounts of the tests, if it has something.
func (n *noise) accounts() []api.Account {
	var l []api.Account
	for _, a := range []api.Addr{alice, bob, code1, code2, miner} {
		x := api.Account{Addr: a, Nonce: pick(n, 0, 0, 1, 5, 200, 1<<62-1, 1<<62), Balance: n.balance(), Code: n.code()}
		if n.below(3) == 0 {
			x.Slots = []api.Slot{{Key: of(1), Value: of(1 + n.below(9))}}
		}
		l = refChange(l, a, func(old *api.Account) { *old = x })
	}
	return l
}

// sent is a transaction of one of the accounts l; as a rule it can be executed.
func (n *noise) sent(l []api.Account) api.Tx {
	var from api.Account
	if len(l) > 0 {
		from = pick(n, l...)
	}
	a := api.Tx{Nonce: from.Nonce, Price: pick(n, 0, 1, 2, 1000, math.MaxInt32), From: from.Addr, To: pick(n, alice, bob, code1, code2, miner), Make: n.below(4) == 0, Data: n.code()}
	a.Gas = refIntrinsic(a) + pick(n, 0, 1, 50, 3000, 60_000, 60_000, 200_000)
	most := number(from.Balance)
	most.Sub(most, big.NewInt(int64(a.Price)*int64(a.Gas)))
	switch {
	case n.below(3) == 0:
		a.Value = of(n.below(5))
	case most.Sign() >= 0 && n.below(2) == 0:
		a.Value = word256(most) // just enough
	}
	switch n.below(20) {
	case 0:
		a.Nonce += n.below(3) - 1
	case 1:
		a.Gas -= n.below(61_000)
	case 2:
		a.Value = word256(most.Add(most, big.NewInt(1)))
	case 3:
		a.Price = pick(n, -1, 1<<31, math.MaxInt)
	}
	return a
}

func (n *noise) context() api.Context {
	return api.Context{Number: n.count(), Time: n.count(), GasLimit: n.count(), Coinbase: pick(n, miner, miner, alice, bob, code1), Origin: pick(n, alice, bob, api.Addr{})}
}

// TestRandom executes transactions of all kinds on accounts of all kinds.
func TestRandom(t *testing.T) {
	n := noise(6)
	refused, ended := map[api.Errno]int{}, map[api.Errno]int{}
	for i := range 6000 {
		l := n.accounts()
		r, err, _ := apply(t, fmt.Sprint("random ", i), l, n.sent(l), n.context())
		if refused[err]++; err == api.OK {
			ended[r.Err]++
		}
	}
	for _, err := range []api.Errno{api.OK, api.ErrArg, api.ErrNonce, api.ErrGas, api.ErrFunds} {
		if refused[err] < 30 {
			t.Errorf("the test itself: only %d random transactions with the error %d", refused[err], err)
		}
	}
	for _, err := range []api.Errno{api.OK, api.ErrGas, api.ErrOp, api.ErrRevert, api.ErrFunds} {
		if ended[err] < 30 {
			t.Errorf("the test itself: only %d random transactions whose code ends with the error %d", ended[err], err)
		}
	}
}

// TestRandomInOrder executes transactions on one state, one after the other.
func TestRandomInOrder(t *testing.T) {
	n := noise(7)
	for round := range 100 {
		l := n.accounts()
		s := state.New(l)
		for i := range 50 {
			a, c := n.sent(l), n.context()
			got, err := tx.Apply(s, a, c)
			after, want, wantErr := refApply(l, a, c)
			if err != wantErr || !sameReceipt(got, want) || !sameAccounts(s.Accounts(), after) {
				t.Fatalf("P1602 round %d, transaction %d: %s, error %d, %s\nnot %s, %d, %s", round, i, show(got), err, show(s.Accounts()), show(want), wantErr, show(after))
			}
			l = after
		}
	}
}

// TestRandomBytes packs transactions, reads them and executes what was read.
func TestRandomBytes(t *testing.T) {
	n := noise(8)
	for i := range 1000 {
		l := n.accounts()
		a := n.sent(l)
		b, err := tx.Pack(a)
		if a.Nonce < 0 || a.Price < 0 || a.Gas < 0 {
			if err != api.ErrArg {
				t.Errorf("P1601 Pack of %s: error %d", show(a), err)
			}
			continue
		}
		read, err := tx.Read(b)
		if err != api.OK || !bytes.Equal(b, refPack(a)) {
			t.Fatalf("P1601 Pack of %s: %x, error %d", show(a), b, err)
		}
		got, _, s := apply(t, fmt.Sprint("read ", i), l, read, someContext)
		after, want, _ := refApply(l, a, someContext)
		if !sameReceipt(got, want) || !sameAccounts(s.Accounts(), after) {
			t.Errorf("P1602 a transaction that was read: %s, not %s", show(got), show(want))
		}
	}
	if l := n.accounts(); !slices.IsSortedFunc(l, func(a, b api.Account) int { return bytes.Compare(a.Addr[:], b.Addr[:]) }) {
		t.Errorf("the test itself: %s", show(l))
	}
}
