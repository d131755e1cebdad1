package tx_test

import (
	"bytes"
	"math"
	"slices"
	"testing"

	"muniments/api"
	"muniments/evm"
	"muniments/state"
	"muniments/tx"
)

// apply executes a on a state with these accounts, which are by rising address, and demands what the reference comes to: the receipt, the error and all accounts.
func apply(t *testing.T, name string, l []api.Account, a api.Tx, c api.Context) (api.Receipt, api.Errno, *state.State) {
	t.Helper()
	s := state.New(l)
	got, err := tx.Apply(s, a, c)
	after, want, wantErr := refApply(l, a, c)
	if err != wantErr || !sameReceipt(got, want) {
		t.Fatalf("P1602 %s: receipt %s, error %d\nnot %s, %d", name, show(got), err, show(want), wantErr)
	}
	if now := s.Accounts(); !sameAccounts(now, after) {
		t.Fatalf("P1602 %s: accounts %s\nnot %s", name, show(now), show(after))
	}
	return got, err, s
}

// works demands that a transaction is executed, with such a use of gas and such an error of its code.
func works(t *testing.T, name string, l []api.Account, a api.Tx, used int, err api.Errno) (api.Receipt, *state.State) {
	t.Helper()
	r, refused, s := apply(t, name, l, a, someContext)
	if refused != api.OK || r.Used != used || r.Err != err {
		t.Fatalf("P1602 %s: %s, error %d, not the use of %d gas with the error %d", name, show(r), refused, used, err)
	}
	return r, s
}

// has demands a nonce and a balance.
func has(t *testing.T, name string, s *state.State, a api.Addr, nonce int, balance api.Word) {
	t.Helper()
	if s.Nonce(a) != nonce || s.Balance(a) != balance {
		t.Errorf("P1602 %s: %x has the nonce %d and the balance %x, not %d and %x", name, a, s.Nonce(a), s.Balance(a), nonce, balance)
	}
}

// TestExamples has the examples of the chapter.
func TestExamples(t *testing.T) {
	l := []api.Account{{Addr: alice, Balance: of(100_000)}}
	r, s := works(t, "a move of 7", l, api.Tx{Price: 2, Gas: 30_000, From: alice, To: bob, Value: of(7)}, 21000, api.OK)
	if !sameReceipt(r, api.Receipt{Used: 21000}) {
		t.Errorf("P1602 a move of 7: %s", show(r))
	}
	has(t, "a move of 7", s, alice, 1, of(100_000-42_000-7))
	has(t, "a move of 7", s, bob, 0, of(7))
	has(t, "a move of 7", s, miner, 0, of(42_000))

	_, s = works(t, "a transaction of nothing", nil, api.Tx{Gas: 21000, From: alice, To: bob}, 21000, api.OK)
	if want := []api.Account{{Addr: alice, Nonce: 1}}; !sameAccounts(s.Accounts(), want) {
		t.Errorf("P1602 a transaction of nothing: %s", show(s.Accounts()))
	}
}

// TestGas has what is paid for gas, to whom, and what comes back.
func TestGas(t *testing.T) {
	store := api.Account{Addr: code1, Code: prog(5, 0, "SSTORE")}
	l := []api.Account{{Addr: alice, Nonce: 9, Balance: power(100, 0)}, store, {Addr: miner, Balance: of(11)}}
	for _, price := range []int{0, 1, 3, 1000, math.MaxInt32} {
		for _, x := range []struct {
			gas, used int
			err       api.Errno
		}{{100_000, 41006, api.OK}, {41006, 41006, api.OK}, {41005, 41005, api.ErrGas}, {21000, 21000, api.ErrGas}, {math.MaxInt32, 41006, api.OK}} {
			_, s := works(t, "gas", l, api.Tx{Nonce: 9, Price: price, Gas: x.gas, From: alice, To: code1}, x.used, x.err)
			paid := number(of(price))
			paid.Mul(paid, number(of(x.used)))
			has(t, "gas", s, miner, 0, word256(paid.Add(paid, number(of(11)))))
			left := number(power(100, 11))
			has(t, "gas", s, alice, 10, word256(left.Sub(left, paid)))
		}
	}
}

// TestData has the gas for data, which is paid ahead of the execution, and the data that the code gets.
func TestData(t *testing.T) {
	echo := prog("CALLDATASIZE", 0, 0, "CALLDATACOPY GAS CALLDATASIZE MSTORE CALLDATASIZE", 32, "ADD", 0, "RETURN")
	l := []api.Account{{Addr: alice, Balance: of(1 << 40)}, {Addr: code1, Code: echo}}
	for _, data := range [][]byte{nil, {0}, {1}, {0, 1, 0, 255}, bytes.Repeat([]byte{0}, 100), bytes.Repeat([]byte{7}, 1000)} {
		r, _, _ := apply(t, "data", l, api.Tx{Price: 1, Gas: 100_000, From: alice, To: code1, Data: data}, someContext)
		if r.Err != api.OK || !bytes.Equal(r.Out[:len(data)], data) {
			t.Errorf("P1602 data %x: %s", data, show(r))
		}
		// GAS is asked behind the four instructions ahead of it, of which the copy costs 3 for each word and the memory.
		words := (len(data) + 31) / 32
		gas := 100_000 - refIntrinsic(api.Tx{Data: data}) - 2 - 3 - 3 - 3 - 3*words - 3*words - words*words/512 - 2
		if want := of(gas); !bytes.Equal(r.Out[len(data):], want[:]) {
			t.Errorf("P1602 the gas after data %x: %x, not %x", data, r.Out[len(data):], want)
		}
	}
}

// TestContext has what a code may ask: the sender is the origin and the caller, and everything else is as in the context.
func TestContext(t *testing.T) {
	code := prog("ORIGIN", 0, "MSTORE CALLER", 32, "MSTORE CALLVALUE", 64, "MSTORE COINBASE", 96, "MSTORE NUMBER", 128, "MSTORE TIMESTAMP", 160, "MSTORE GASLIMIT", 192, "MSTORE ADDRESS", 224, "MSTORE CALLER BALANCE", 256, "MSTORE SELFBALANCE", 288, "MSTORE COINBASE BALANCE", 320, "MSTORE", 352, 0, "RETURN")
	l := []api.Account{{Addr: alice, Nonce: 3, Balance: of(1_000_000)}, {Addr: code1, Balance: of(5), Code: code}, {Addr: miner, Balance: of(50)}}
	for _, c := range []api.Context{someContext, {}, {Number: -1, Time: math.MinInt, GasLimit: -3, Coinbase: miner, Origin: alice}, {Number: math.MaxInt, Time: 1, GasLimit: 2, Coinbase: alice, Origin: miner}, {Number: 1, Time: 2, GasLimit: 3, Coinbase: code1, Origin: code1}} {
		r, _, _ := apply(t, "the context", l, api.Tx{Nonce: 3, Price: 4, Gas: 100_000, From: alice, To: code1, Value: of(60)}, c)
		of256 := map[api.Addr]api.Word{alice: of(1_000_000 - 400_000 - 60), code1: of(65), miner: of(50)}
		var want []byte
		for _, w := range []api.Word{wordOf(alice), wordOf(alice), of(60), wordOf(c.Coinbase), of(c.Number), of(c.Time), of(c.GasLimit), wordOf(code1), of256[alice], of256[code1], of256[c.Coinbase]} {
			want = append(want, w[:]...)
		}
		if r.Err != api.OK || !bytes.Equal(r.Out, want) {
			t.Errorf("P1602 the context %v: %s, not %s", c, show(r), show(want))
		}
	}
}

// TestMake has transactions that make an account, whatever stands in To.
func TestMake(t *testing.T) {
	made := evm.Address(alice, 3)
	init := prog("ORIGIN", 0, "SSTORE", 1, 0, "LOG0", 2, 0, "RETURN")
	for _, to := range []api.Addr{{}, bob, code1} {
		l := []api.Account{{Addr: alice, Nonce: 3, Balance: of(1_000_000)}, {Addr: code1, Code: []byte{0xfe}}}
		a := api.Tx{Nonce: 3, Price: 5, Gas: 150_000, From: alice, To: to, Make: true, Value: of(70), Data: init}
		used := refIntrinsic(a) + 2 + 3 + 20000 + 6 + 375 + 8 + 3 + 6 + 400
		r, s := works(t, "a new account", l, a, used, api.OK)
		if r.Addr != made || len(r.Out) > 0 || len(r.Logs) != 1 || r.Logs[0].Addr != made {
			t.Errorf("P1602 a new account: %s", show(r))
		}
		has(t, "a new account", s, made, 1, of(70))
		has(t, "a new account", s, alice, 4, of(1_000_000-70-5*used))
		if !bytes.Equal(s.Code(made), []byte{0, 0}) || s.Slot(made, of(0)) != wordOf(alice) {
			t.Errorf("P1602 a new account: the code %x, the value %x", s.Code(made), s.Slot(made, of(0)))
		}
		if s.Exists(bob) {
			t.Errorf("P1602 a new account: To has something")
		}
	}
	r, s := works(t, "an account of nothing", nil, api.Tx{Gas: 53_000, From: bob, Make: true}, 53_000, api.OK)
	if want := evm.Address(bob, 0); r.Addr != want || s.Nonce(bob) != 1 || s.Nonce(want) != 1 {
		t.Errorf("P1602 an account of nothing: %s", show(r))
	}
}

// TestMakeErrors has transactions that were to make an account: their gas is paid, and the nonce is incremented once.
func TestMakeErrors(t *testing.T) {
	made := evm.Address(alice, 3)
	for _, x := range []struct {
		name string
		code []byte
		has  api.Account
		more int // used beside the intrinsic gas; all, if it is negative
		err  api.Errno
		out  []byte
	}{
		{"REVERT", prog(9, 0, "MSTORE8", 1, 0, "LOG0", 1, 0, "REVERT"), api.Account{}, 3 + 3 + 3 + 3 + 6 + 375 + 8 + 6, api.ErrRevert, []byte{9}},
		{"an error", []byte{0xfe}, api.Account{}, -1, api.ErrOp, nil},
		{"too long a code", prog(api.MaxCode+1, 0, "RETURN"), api.Account{}, -1, api.ErrLong, nil},
		{"an address that is taken", nil, api.Account{Nonce: 1}, -1, api.ErrClash, nil},
		{"an address with a code", nil, api.Account{Code: []byte{0}}, -1, api.ErrClash, nil},
		{"an address that has too much", nil, api.Account{Balance: of(-7)}, 0, api.ErrFunds, nil},
	} {
		x.has.Addr = made
		l := []api.Account{{Addr: alice, Nonce: 3, Balance: of(1_000_000)}}
		l = refChange(l, made, func(a *api.Account) { *a = x.has })
		a := api.Tx{Nonce: 3, Price: 5, Gas: 150_000, From: alice, Make: true, Value: of(7), Data: x.code}
		used := refIntrinsic(a) + x.more
		if x.more < 0 {
			used = a.Gas
		}
		r, s := works(t, x.name, l, a, used, x.err)
		if !bytes.Equal(r.Out, x.out) || len(r.Logs) > 0 || r.Addr != (api.Addr{}) {
			t.Errorf("P1602 %s: %s", x.name, show(r))
		}
		has(t, x.name, s, alice, 4, of(1_000_000-5*used))
		has(t, x.name, s, made, x.has.Nonce, x.has.Balance)
		has(t, x.name, s, miner, 0, of(5*used))
	}
}

// TestCallErrors has calls whose code ends with an error: what it changed is undone, but for the nonce and the gas.
func TestCallErrors(t *testing.T) {
	set := prog(5, 0, "SSTORE", 1, 0, "LOG0")
	for _, x := range []struct {
		name string
		code []byte
		gas  int // used beside 21000
		err  api.Errno
		out  []byte
	}{
		{"an error", slices.Concat(set, []byte{0xfe}), 79_000, api.ErrOp, nil},
		{"no jump", slices.Concat(set, prog(0, "JUMP")), 79_000, api.ErrJump, nil},
		{"REVERT", slices.Concat(set, prog(2, 0, "REVERT")), 6 + 20000 + 6 + 375 + 8 + 3 + 6, api.ErrRevert, []byte{0, 0}},
		{"REVERT alone", prog(0, 0, "REVERT"), 6, api.ErrRevert, nil},
	} {
		l := []api.Account{{Addr: alice, Nonce: 3, Balance: of(1_000_000)}, {Addr: code1, Balance: of(1), Code: x.code}}
		r, s := works(t, x.name, l, api.Tx{Nonce: 3, Price: 7, Gas: 100_000, From: alice, To: code1, Value: of(9)}, 21000+x.gas, x.err)
		if !bytes.Equal(r.Out, x.out) || len(r.Logs) > 0 || r.Addr != (api.Addr{}) {
			t.Errorf("P1602 %s: %s", x.name, show(r))
		}
		has(t, x.name, s, alice, 4, of(1_000_000-7*r.Used))
		has(t, x.name, s, code1, 0, of(1))
		has(t, x.name, s, miner, 0, of(7*r.Used))
	}
	l := []api.Account{{Addr: alice, Nonce: 3, Balance: of(1_000_000)}, {Addr: code1, Balance: of(-9), Code: set}}
	_, s := works(t, "an account that would have too much", l, api.Tx{Nonce: 3, Price: 7, Gas: 100_000, From: alice, To: code1, Value: of(9)}, 21000, api.ErrFunds)
	has(t, "an account that would have too much", s, alice, 4, of(1_000_000-7*21000))
	has(t, "an account that would have too much", s, code1, 0, of(-9))
}

// TestLogs has the logs of a code and of those that it calls, and what it returns.
func TestLogs(t *testing.T) {
	l := []api.Account{
		{Addr: alice, Balance: of(1_000_000)},
		{Addr: code1, Code: prog(7, 0, "MSTORE", 6, 5, 32, 0, "LOG2", 0, 0, 0, 0, 0, code2, 10_000, "CALL", 4, 1, 31, "LOG1", 2, 30, "RETURN")},
		{Addr: code2, Code: prog(0, 0, "LOG0")},
	}
	r, _, _ := apply(t, "logs", l, api.Tx{Price: 1, Gas: 100_000, From: alice, To: code1}, someContext)
	seven := of(7)
	want := []api.Log{{Addr: code1, Topics: []api.Word{of(5), of(6)}, Data: seven[:]}, {Addr: code2}, {Addr: code1, Topics: []api.Word{of(4)}, Data: []byte{7}}}
	if r.Err != api.OK || !slices.EqualFunc(r.Logs, want, sameLog) || !bytes.Equal(r.Out, []byte{0, 7}) || r.Addr != (api.Addr{}) {
		t.Errorf("P1602 logs: %s", show(r))
	}
}

// TestSame has accounts that are several of the sender, the one that is called and the coinbase.
func TestSame(t *testing.T) {
	for _, from := range []api.Addr{alice, bob, miner} {
		for _, to := range []api.Addr{alice, bob, miner} {
			for _, price := range []int{0, 2} {
				l := []api.Account{{Addr: alice, Balance: of(500_000)}, {Addr: bob, Balance: of(500_000)}, {Addr: miner, Balance: of(500_000)}}
				_, s := works(t, "accounts that are the same", l, api.Tx{Price: price, Gas: 100_000, From: from, To: to, Value: of(9)}, 21000, api.OK)
				for _, a := range []api.Addr{alice, bob, miner} {
					nonce, balance := 0, 500_000
					if a == from {
						nonce, balance = 1, balance-9-price*21000
					}
					if a == to {
						balance += 9
					}
					if a == miner {
						balance += price * 21000
					}
					has(t, "accounts that are the same", s, a, nonce, of(balance))
				}
			}
		}
	}
}

// TestNothingForCoinbase: a coinbase that gets nothing does not come to be.
func TestNothingForCoinbase(t *testing.T) {
	l := []api.Account{{Addr: alice, Balance: of(5)}}
	_, s := works(t, "gas without a price", l, api.Tx{Gas: 100_000, From: alice, To: bob, Value: of(5)}, 21000, api.OK)
	if s.Exists(miner) {
		t.Errorf("P1602 gas without a price: there is a coinbase")
	}
}

// TestFull has balances that would be 2^256 or more after the execution.
func TestFull(t *testing.T) {
	const all, used = 2 * 50_000, 2 * 21_000
	pays := []api.Account{{Addr: alice, Balance: of(all)}}
	for _, x := range []struct{ was, is api.Word }{
		{of(-1), of(-1)}, {of(-used), of(-1)}, {of(-used - 1), of(-1)}, {of(-used + 1), of(-1)}, {of(-used - 2), of(-2)}, {of(0), of(used)}, {power(255, 0), power(255, used)},
	} {
		l := refGive(pays, miner, number(x.was))
		_, s := works(t, "a full coinbase", l, api.Tx{Price: 2, Gas: 50_000, From: alice, To: bob}, 21000, api.OK)
		has(t, "a full coinbase", s, miner, 0, x.is)
		has(t, "a full coinbase", s, alice, 1, of(all-used))
	}
	// The code moves so much to the sender, which has nothing at that moment, that the gas that is left finds no room, or just room enough.
	gives := prog(0, 0, 0, 0, "SELFBALANCE CALLER", 0, "CALL")
	gas := 21000 + 3*4 + 5 + 2 + 3 + 700 + 9000 - 2300
	back := all - 2*gas
	for _, x := range []struct{ was, is api.Word }{{of(-1), of(-1)}, {of(-back), of(-1)}, {of(-back - 1), of(-1)}, {of(-back - 2), of(-2)}, {of(1), of(back + 1)}} {
		l := append(slices.Clone(pays), api.Account{Addr: code1, Balance: x.was, Code: gives})
		_, s := works(t, "a full sender", l, api.Tx{Price: 2, Gas: 50_000, From: alice, To: code1}, gas, api.OK)
		has(t, "a full sender", s, alice, 1, x.is)
		has(t, "a full sender", s, code1, 0, of(0))
		has(t, "a full sender", s, miner, 0, of(2*gas))
	}
	// What doesn't find room with the sender is lost, and so is what doesn't find room with the coinbase, also where they are one.
	l := append(slices.Clone(pays), api.Account{Addr: code1, Balance: of(-1), Code: gives})
	c := someContext
	c.Coinbase = alice
	_, _, s := apply(t, "a full sender that is the coinbase", l, api.Tx{Price: 2, Gas: 50_000, From: alice, To: code1}, c)
	has(t, "a full sender that is the coinbase", s, alice, 1, of(-1))
}

// TestKilled has senders and coinbases that go away while the code is executed: what they get for gas comes afterwards.
func TestKilled(t *testing.T) {
	dies := prog(bob, "SELFDESTRUCT")
	l := []api.Account{{Addr: alice, Nonce: 6, Balance: of(1_000_000), Code: dies, Slots: []api.Slot{{Key: of(1), Value: of(1)}}}, {Addr: miner, Nonce: 8, Balance: of(300), Code: dies}}
	r, s := works(t, "a sender that goes away", l, api.Tx{Nonce: 6, Price: 2, Gas: 100_000, From: alice, To: alice, Value: of(4)}, 26003, api.OK)
	left := api.Account{Addr: alice, Balance: of(2 * (100_000 - r.Used))}
	has(t, "a sender that goes away", s, bob, 0, of(800_000))
	if got := s.Accounts(); len(got) != 3 || !sameAccounts(got[:1], []api.Account{left}) {
		t.Errorf("P1602 a sender that goes away: %s", show(got))
	}
	_, s = works(t, "a coinbase that goes away", l, api.Tx{Nonce: 6, Price: 2, Gas: 100_000, From: alice, To: miner, Value: of(4)}, 26003, api.OK)
	has(t, "a coinbase that goes away", s, miner, 0, of(2*26003))
	has(t, "a coinbase that goes away", s, bob, 0, of(304))
	if len(s.Code(miner)) > 0 {
		t.Errorf("P1602 a coinbase that goes away: it has the code %x", s.Code(miner))
	}
}

// TestNonceAhead: the nonce of the sender is incremented ahead of the execution, so that its own code makes the account of the next one.
func TestNonceAhead(t *testing.T) {
	l := []api.Account{{Addr: alice, Nonce: 6, Balance: of(1_000_000), Code: prog(0, 0, 0, "CREATE", 0, "MSTORE", 32, 0, "RETURN")}}
	r, _, s := apply(t, "a sender that makes an account", l, api.Tx{Nonce: 6, Price: 2, Gas: 100_000, From: alice, To: alice}, someContext)
	if want := wordOf(evm.Address(alice, 7)); !bytes.Equal(r.Out, want[:]) || s.Nonce(alice) != 8 || r.Addr != (api.Addr{}) {
		t.Errorf("P1602 a sender that makes an account: %s, nonce %d", show(r), s.Nonce(alice))
	}
}

// TestDepth: a code can call itself as often as one with the depth 0, and no code is static.
func TestDepth(t *testing.T) {
	l := []api.Account{{Addr: alice, Balance: of(1)}, {Addr: code1, Code: prog(0, "SLOAD", 1, "ADD", 0, "SSTORE", 0, 0, 0, 0, 0, "ADDRESS GAS CALL")}}
	_, _, s := apply(t, "a code that calls itself", l, api.Tx{Gas: math.MaxInt32, From: alice, To: code1}, someContext)
	if got := s.Slot(code1, of(0)); got != of(65) {
		t.Errorf("P1602 a code that calls itself: %x times", got)
	}
}

// TestInOrder executes transactions one after the other.
func TestInOrder(t *testing.T) {
	s := state.New([]api.Account{{Addr: alice, Balance: of(1_000_000)}})
	for nonce := range 5 {
		a := api.Tx{Nonce: nonce, Price: 1, Gas: 60_000, From: alice, To: bob, Value: of(10), Make: nonce == 3}
		if r, err := tx.Apply(s, a, someContext); err != api.OK || r.Err != api.OK {
			t.Errorf("P1602 the transaction %d: %s, error %d", nonce, show(r), err)
		}
		if r, err := tx.Apply(s, a, someContext); err != api.ErrNonce || !sameReceipt(r, api.Receipt{}) {
			t.Errorf("P1602 the transaction %d once more: %s, error %d", nonce, show(r), err)
		}
	}
	has(t, "five transactions", s, alice, 5, of(1_000_000-50-4*21000-53000))
	has(t, "five transactions", s, bob, 0, of(40))
	has(t, "five transactions", s, miner, 0, of(4*21000+53000))
}
