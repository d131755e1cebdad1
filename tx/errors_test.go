package tx_test

import (
	"bytes"
	"fmt"
	"math"
	"testing"

	"muniments/api"
	"muniments/state"
	"muniments/tx"
)

// refused demands that a transaction is not executed, and that nothing is changed.
func refused(t *testing.T, name string, l []api.Account, a api.Tx, want api.Errno) {
	t.Helper()
	r, err, s := apply(t, name, l, a, someContext)
	if err != want || !sameReceipt(r, api.Receipt{}) {
		t.Errorf("P1602 %s: %s, error %d, not %d", name, show(r), err, want)
	}
	if !sameAccounts(s.Accounts(), l) {
		t.Errorf("P1602 %s: %s, not %s", name, show(s.Accounts()), show(l))
	}
}

// accepted demands that a transaction is executed.
func accepted(t *testing.T, name string, l []api.Account, a api.Tx) {
	t.Helper()
	if _, err, _ := apply(t, name, l, a, someContext); err != api.OK {
		t.Errorf("P1602 %s: error %d", name, err)
	}
}

// faults has, for each error in its order, ways in which a transaction can have it, without one that comes earlier.
func faults() [4]map[string]func(a *api.Tx) {
	gas := func(change int) func(a *api.Tx) {
		return func(a *api.Tx) { a.Gas = refIntrinsic(*a) + change }
	}
	return [4]map[string]func(a *api.Tx){
		{
			"Nonce -1": func(a *api.Tx) { a.Nonce = -1 }, "the least Nonce": func(a *api.Tx) { a.Nonce = math.MinInt },
			"Price -1": func(a *api.Tx) { a.Price = -1 }, "the least Price": func(a *api.Tx) { a.Price = math.MinInt },
			"Gas -1": func(a *api.Tx) { a.Gas = -1 }, "the least Gas": func(a *api.Tx) { a.Gas = math.MinInt },
			"Price 2^31": func(a *api.Tx) { a.Price = 1 << 31 }, "Price 2^32": func(a *api.Tx) { a.Price = 1 << 32 }, "the greatest Price": func(a *api.Tx) { a.Price = math.MaxInt },
			"Gas 2^31": func(a *api.Tx) { a.Gas = 1 << 31 }, "Gas 2^32": func(a *api.Tx) { a.Gas = 1 << 32 }, "the greatest Gas": func(a *api.Tx) { a.Gas = math.MaxInt },
		},
		{
			"a lower Nonce": func(a *api.Tx) { a.Nonce = 3 }, "a higher Nonce": func(a *api.Tx) { a.Nonce = 5 }, "no Nonce": func(a *api.Tx) { a.Nonce = 0 }, "a great Nonce": func(a *api.Tx) { a.Nonce = 4 + 1<<32 },
			"another sender": func(a *api.Tx) { a.From = bob }, "a sender that isn't there": func(a *api.Tx) { a.From = code1 },
		},
		{"no Gas": func(a *api.Tx) { a.Gas = 0 }, "one gas too little": gas(-1), "Gas 1": func(a *api.Tx) { a.Gas = 1 }},
		{"the greatest Value": func(a *api.Tx) { a.Value = highest }, "a Value of 2^63": func(a *api.Tx) { a.Value = power(63, 0) }, "the greatest Price and Gas": func(a *api.Tx) {
			a.Price = math.MaxInt32
			if a.Gas > 60_000 {
				a.Gas = math.MaxInt32
			}
		}},
	}
}

// TestErrors has each way to each error, and each pair of ways to two errors: the first one in the chapter's order is returned.
func TestErrors(t *testing.T) {
	errs := [4]api.Errno{api.ErrArg, api.ErrNonce, api.ErrGas, api.ErrFunds}
	l := []api.Account{{Addr: alice, Nonce: 4, Balance: of(1_000_000)}, {Addr: bob, Nonce: 7}}
	for _, right := range []api.Tx{
		{Nonce: 4, Price: 9, Gas: 100_000, From: alice, To: bob, Value: of(100), Data: []byte{0, 1, 2}},
		{Nonce: 4, Price: 9, Gas: 100_000, From: alice, Make: true, Value: of(100), Data: prog(0, 0, "RETURN")},
	} {
		accepted(t, "without a fault", l, right)
		for i, first := range faults() {
			for name, spoil := range first {
				a := right
				spoil(&a)
				refused(t, name, l, a, errs[i])
				for k, second := range faults() {
					for other, spoilMore := range second {
						// The fault of the lower number is made last, so that it stands.
						a := right
						if k > i {
							spoilMore(&a)
							spoil(&a)
							refused(t, name+" and "+other, l, a, errs[i])
						} else if k < i {
							spoil(&a)
							spoilMore(&a)
							refused(t, other+" and "+name, l, a, errs[k])
						}
					}
				}
			}
		}
	}
}

// TestAllFaults has transactions with all errors from one on.
func TestAllFaults(t *testing.T) {
	l := []api.Account{{Addr: alice, Nonce: 4}}
	a := api.Tx{Nonce: 4, Price: 1, Gas: 21000, From: alice, To: bob}
	refused(t, "no funds", l, a, api.ErrFunds)
	a.Gas = 20999
	refused(t, "no funds and too little gas", l, a, api.ErrGas)
	a.Nonce = 5
	refused(t, "no funds, too little gas and another nonce", l, a, api.ErrNonce)
	a.Price = -1
	refused(t, "everything", l, a, api.ErrArg)
}

// TestNonceLimits has the nonces around 2^62, and as great as they can be.
func TestNonceLimits(t *testing.T) {
	for _, make := range []bool{false, true} {
		for _, nonce := range []int{0, 1, 1<<31 - 1, 1 << 31, 1 << 32, 1<<62 - 2, 1<<62 - 1, 1 << 62, 1<<62 + 1, math.MaxInt - 1, math.MaxInt} {
			var l []api.Account
			if nonce > 0 {
				l = []api.Account{{Addr: alice, Nonce: nonce}}
			}
			a := api.Tx{Nonce: nonce, Gas: 60_000, From: alice, To: bob, Make: make}
			if nonce >= 1<<62 {
				refused(t, fmt.Sprint("the nonce ", nonce), l, a, api.ErrNonce)
				continue
			}
			_, err, s := apply(t, fmt.Sprint("the nonce ", nonce), l, a, someContext)
			if err != api.OK || s.Nonce(alice) != nonce+1 {
				t.Errorf("P1602 the nonce %d: error %d, and then %d", nonce, err, s.Nonce(alice))
			}
			for _, other := range []int{nonce - 1, nonce + 1, nonce + 1<<32, nonce ^ 1<<31, 1 << 62} {
				if a.Nonce = other; other >= 0 && other != nonce {
					refused(t, fmt.Sprintf("the nonce %d, not %d", other, nonce), l, a, api.ErrNonce)
				}
			}
		}
	}
}

// TestGasLimits has as much gas as is needed ahead of the execution, and one less.
func TestGasLimits(t *testing.T) {
	for _, make := range []bool{false, true} {
		for _, data := range [][]byte{nil, {0}, {1}, {0, 1, 0, 255}, bytes.Repeat([]byte{0}, 1000), bytes.Repeat([]byte{0x5b}, 1000)} {
			for _, price := range []int{0, 3} {
				l := []api.Account{{Addr: alice, Balance: of(1 << 40)}}
				a := api.Tx{Price: price, From: alice, To: bob, Make: make, Data: data}
				a.Gas = refIntrinsic(a)
				accepted(t, fmt.Sprint("just the gas for ", data), l, a)
				a.Gas--
				refused(t, fmt.Sprint("one gas too little for ", data), l, a, api.ErrGas)
			}
		}
	}
}

// TestFundsLimits has balances that are just enough, and by one too little, also where the sum is no word.
func TestFundsLimits(t *testing.T) {
	for _, make := range []bool{false, true} {
		for _, x := range []struct {
			price, gas int
			value      api.Word
		}{
			{0, 60_000, of(0)}, {0, 60_000, of(1)}, {0, 60_000, highest}, {0, 60_000, power(255, 0)}, {1, 60_000, of(0)}, {1, 60_000, of(100)}, {7, 60_001, power(64, -1)}, {7, 60_001, power(128, -5)},
			{math.MaxInt32, math.MaxInt32, of(0)}, {math.MaxInt32, math.MaxInt32, of(1)}, {math.MaxInt32, math.MaxInt32, power(64, 0)}, {math.MaxInt32, 60_000, of(9)}, {2, 60_000, of(-120_000 - 1)}, {2, 60_000, of(-120_000 - 2)},
		} {
			a := api.Tx{Price: x.price, Gas: x.gas, From: alice, To: bob, Make: make, Value: x.value}
			all := number(of(x.price))
			all.Mul(all, number(of(x.gas))).Add(all, number(x.value))
			enough := word256(all)
			name := fmt.Sprintf("%x for %d gas of %d and %x", enough, x.gas, x.price, x.value)
			accepted(t, name, refGive(nil, alice, all), a)
			accepted(t, "more than "+name, []api.Account{{Addr: alice, Balance: highest}}, a)
			if all.Sign() > 0 {
				refused(t, "less than "+name, refGive([]api.Account{{Addr: alice, Slots: []api.Slot{{Key: of(1), Value: of(1)}}}}, alice, all.Sub(all, number(of(1)))), a, api.ErrFunds)
			}
		}
	}
	for _, value := range []api.Word{of(-120_000), of(-119_999), of(-1), of(-60_000)} {
		for _, balance := range []api.Word{highest, of(120_000), of(119_999), of(0), of(-120_000), of(-119_999)} {
			l := refGive([]api.Account{{Addr: bob, Nonce: 1}}, alice, number(balance))
			refused(t, fmt.Sprintf("%x for 120000 and %x, which is more than a word", balance, value), l, api.Tx{Price: 2, Gas: 60_000, From: alice, To: bob, Value: value}, api.ErrFunds)
		}
	}
}

// TestGreatest has the greatest price and gas, whose product is an int.
func TestGreatest(t *testing.T) {
	l := []api.Account{{Addr: alice, Balance: power(62, 0)}}
	_, s := works(t, "the greatest price and gas", l, api.Tx{Price: math.MaxInt32, Gas: math.MaxInt32, From: alice, To: bob}, 21000, api.OK)
	has(t, "the greatest price and gas", s, miner, 0, of(21000*math.MaxInt32))
	has(t, "the greatest price and gas", s, alice, 1, of(1<<62-21000*math.MaxInt32))
}

// TestNoState: no state is like one without accounts, and so is one that nothing was done to.
func TestNoState(t *testing.T) {
	for _, x := range []struct {
		a    api.Tx
		want api.Receipt
		err  api.Errno
	}{
		{api.Tx{Gas: 30_000, From: alice, To: bob}, api.Receipt{Used: 21000}, api.OK}, {api.Tx{}, api.Receipt{}, api.ErrGas}, {api.Tx{Gas: 30_000, Nonce: 1}, api.Receipt{}, api.ErrNonce},
		{api.Tx{Gas: 30_000, Price: 1}, api.Receipt{}, api.ErrFunds}, {api.Tx{Gas: -1}, api.Receipt{}, api.ErrArg},
	} {
		for _, s := range []*state.State{nil, {}} {
			if got, err := tx.Apply(s, x.a, someContext); err != x.err || !sameReceipt(got, x.want) {
				t.Errorf("P1602 Apply without a state: %s, error %d, not %s, %d", show(got), err, show(x.want), x.err)
			}
		}
	}
}
