package evm_test

import (
	"bytes"
	"slices"
	"testing"

	"muniments/api"
	"muniments/evm"
	"muniments/keccak"
	"muniments/mem"
)

// deploys is a code that returns n bytes of the memory, of which the first one is 7.
func deploys(n int) []byte { return prog(7, 0, "MSTORE8", n, 0, "RETURN") }

// deployGas is what deploys costs, ahead of the code.
func deployGas(n int) int {
	return 3 + 3 + 3 + 3 + 3 + mem.Cost(max(n+31, 32)/32)
}

// creation is a message of alice that makes an account, and the account.
func creation(kind int, code []byte) (api.Message, api.Addr) {
	m := api.Message{Kind: kind, From: alice, To: code3, Code: code3, Value: of(60), Salt: power(200, 5), Data: code, Gas: 10_000_000}
	if kind == api.KCreate2 {
		return m, refAddress2(alice, m.Salt, code)
	}
	return m, refAddress(alice, 4)
}

// TestCreate has what a new account gets, for both kinds.
func TestCreate(t *testing.T) {
	for _, kind := range []int{api.KCreate, api.KCreate2} {
		for _, n := range []int{0, 1, 2, 100, api.MaxCode - 1, api.MaxCode} {
			m, made := creation(kind, slices.Concat(prog(5, 6, "SSTORE", 1, 0, "LOG0"), deploys(n)))
			o, s := play(t, "a new account", []api.Account{{Addr: alice, Nonce: 4, Balance: of(100)}}, m, someContext)
			gas := m.Gas - 6 - 20000 - 6 - 375 - 8 - deployGas(n) - 200*n
			ends(t, "a new account", o, gas, api.OK, nil)
			code := make([]byte, n)
			if n > 0 {
				code[0] = 7
			}
			if o.Addr != made || len(o.Logs) != 1 || o.Logs[0].Addr != made {
				t.Errorf("P1501 a new account: %s", text(o))
			}
			want := []api.Account{{Addr: alice, Nonce: 5, Balance: of(40)}, {Addr: made, Nonce: 1, Balance: of(60), Code: code, Slots: []api.Slot{{Key: of(6), Value: of(5)}}}}
			slices.SortFunc(want, func(a, b api.Account) int { return bytes.Compare(a.Addr[:], b.Addr[:]) })
			if !sameAccounts(s.Accounts(), want) {
				t.Errorf("P1501 a new account: %s, not %s", text(s.Accounts()), text(want))
			}
		}
	}
	if _, made := creation(api.KCreate, nil); made != evm.Address(alice, 4) {
		t.Errorf("P1502 the account of KCreate is not Address")
	}
	if m, made := creation(api.KCreate2, []byte{1}); made != evm.Address2(alice, m.Salt, m.Data) {
		t.Errorf("P1502 the account of KCreate2 is not Address2")
	}
}

// TestCreateContext has who the code of a new account is while it is executed: it has no data, and is not yet the account's code.
func TestCreateContext(t *testing.T) {
	for _, kind := range []int{api.KCreate, api.KCreate2} {
		l := []api.Account{{Addr: alice, Nonce: 4, Balance: of(100)}}
		m, made := creation(kind, whoAmI())
		o, s := play(t, "the code of a new account", l, m, someContext)
		if want := answers(wordOf(made), wordOf(alice), of(60), wordOf(someContext.Origin), of(0), of(0), of(len(m.Data)), of(0)); o.Err != api.OK || !bytes.Equal(s.Code(made), want) {
			t.Errorf("P1501 the code of a new account: %s, %s not %s", text(o), text(s.Code(made)), text(want))
		}
		m, made = creation(kind, prog("ADDRESS EXTCODESIZE", 0, "MSTORE CALLER BALANCE SELFBALANCE", 32, "MSTORE", 64, "MSTORE ADDRESS EXTCODEHASH", 96, "MSTORE", 128, 0, "RETURN"))
		o, s = play(t, "a new account asks for itself", l, m, someContext)
		if want := answers(of(0), of(60), of(40), keccak.Sum()); o.Err != api.OK || !bytes.Equal(s.Code(made), want) {
			t.Errorf("P1501 a new account asks for itself: %s, %s not %s", text(o), text(s.Code(made)), text(want))
		}
	}
}

// TestCreateErrors has codes that make no account: the nonce of the sender stays incremented.
func TestCreateErrors(t *testing.T) {
	set := prog(5, 6, "SSTORE", 1, 0, "LOG0")
	for _, kind := range []int{api.KCreate, api.KCreate2} {
		for _, x := range []struct {
			name string
			code []byte
			gas  int
			left int
			err  api.Errno
			out  []byte
		}{
			{"REVERT", slices.Concat(set, prog(3, 0, "REVERT")), 100_000, 100_000 - 6 - 20000 - 6 - 375 - 8 - 3 - 6, api.ErrRevert, []byte{0, 0, 0}},
			{"REVERT with more than MaxCode bytes", prog(api.MaxCode+1, 0, "REVERT"), 100_000, 100_000 - 6 - mem.Cost(769), api.ErrRevert, make([]byte, api.MaxCode+1)},
			{"an error", slices.Concat(set, []byte{0xfe}), 100_000, 0, api.ErrOp, nil},
			{"too long a code", slices.Concat(set, deploys(api.MaxCode+1)), 10_000_000, 0, api.ErrLong, nil},
			{"too long a code, and too little gas", deploys(api.MaxCode + 1), 5_000, 0, api.ErrLong, nil},
			{"too little gas for the code", slices.Concat(set, deploys(100)), 6 + 20000 + 6 + 375 + 8 + deployGas(100) + 200*100 - 1, 0, api.ErrGas, nil},
			{"too little gas for one byte", deploys(1), deployGas(1) + 199, 0, api.ErrGas, nil},
			{"too little gas", set, 100, 0, api.ErrGas, nil},
		} {
			m, made := creation(kind, x.code)
			m.Gas = x.gas
			l := []api.Account{{Addr: alice, Nonce: 4, Balance: of(100)}, {Addr: made, Balance: of(9)}}
			o, s := play(t, x.name, l, m, someContext)
			ends(t, x.name, o, x.left, x.err, x.out)
			if len(o.Logs) > 0 || o.Addr != (api.Addr{}) {
				t.Errorf("P1501 %s: %s", x.name, text(o))
			}
			l[0].Nonce = 5
			unchanged(t, x.name, s, l)
		}
		m, _ := creation(kind, deploys(1))
		m.Gas = deployGas(1) + 200
		o, _ := play(t, "just enough gas for one byte", []api.Account{{Addr: alice, Nonce: 4, Balance: of(100)}}, m, someContext)
		ends(t, "just enough gas for one byte", o, 0, api.OK, nil)
		m.Gas = -5
		o, s := play(t, "no gas", []api.Account{{Addr: alice, Nonce: 4, Balance: of(100)}}, m, someContext)
		ends(t, "no gas", o, 0, api.ErrGas, nil)
		if s.Nonce(alice) != 5 {
			t.Errorf("P1501 a new account without gas: the nonce %d", s.Nonce(alice))
		}
	}
}

// TestClash has new accounts at which there is something already.
func TestClash(t *testing.T) {
	for _, kind := range []int{api.KCreate, api.KCreate2} {
		m, made := creation(kind, deploys(1))
		for _, x := range []struct {
			name string
			has  api.Account
			err  api.Errno
		}{
			{"a nonce", api.Account{Nonce: 1}, api.ErrClash}, {"a great nonce", api.Account{Nonce: 1<<63 - 1}, api.ErrClash}, {"a code", api.Account{Code: []byte{0}}, api.ErrClash},
			{"a nonce and a code", api.Account{Nonce: 1, Code: []byte{0}}, api.ErrClash}, {"a balance", api.Account{Balance: of(3)}, api.OK}, {"a slot", api.Account{Slots: []api.Slot{{Key: of(1), Value: of(1)}}}, api.OK},
			{"too much", api.Account{Balance: of(-60)}, api.ErrFunds}, {"too much and a nonce", api.Account{Balance: of(-60), Nonce: 2}, api.ErrClash}, {"nearly too much", api.Account{Balance: of(-61)}, api.OK},
		} {
			x.has.Addr = made
			l := []api.Account{{Addr: alice, Nonce: 4, Balance: of(100)}, x.has}
			for _, m.Gas = range []int{100_000, 1, 0, -7} {
				o, s := play(t, x.name, l, m, someContext)
				switch {
				case x.err == api.ErrClash:
					ends(t, "a new account that has "+x.name, o, 0, x.err, nil)
				case x.err == api.ErrFunds:
					ends(t, "a new account that has "+x.name, o, max(m.Gas, 0), x.err, nil)
				case m.Gas == 100_000:
					ends(t, "a new account that has "+x.name, o, m.Gas-deployGas(1)-200, api.OK, nil)
				}
				if s.Nonce(alice) != 5 {
					t.Errorf("P1501 a new account that has %s: the nonce %d", x.name, s.Nonce(alice))
				}
				if o.Err != api.OK {
					changed := slices.Clone(l)
					changed[0].Nonce = 5
					unchanged(t, x.name, s, changed)
				}
			}
		}
	}
}

// maker is a code that makes an account of its data, by this instruction, and returns the account and RETURNDATASIZE.
func maker(op string, value int) []byte {
	code := prog("CALLDATASIZE", 0, 40, "CALLDATACOPY")
	if op == "CREATE2" {
		code = append(code, prog(99)...)
	}
	return append(code, prog("CALLDATASIZE", 40, value, op, 0, "MSTORE RETURNDATASIZE", 32, "MSTORE", 64, 0, "RETURN")...)
}

// TestNestedCreate has accounts that codes make.
func TestNestedCreate(t *testing.T) {
	for _, op := range []string{"CREATE", "CREATE2"} {
		for _, x := range []struct {
			name  string
			value int
			code  []byte
			ok    bool
			size  int
		}{
			{"an account", 60, slices.Concat(prog(5, 6, "SSTORE"), deploys(3)), true, 0}, {"an account without a code", 100, nil, true, 0}, {"too great a value", 101, nil, false, 0},
			{"REVERT", 60, slices.Concat(prog(5, 6, "SSTORE"), prog(35, 0, "REVERT")), false, 35}, {"an error", 60, prog(5, 6, "SSTORE", []byte{0xfe}), false, 0}, {"an account that goes away", 60, prog(plain, "SELFDESTRUCT"), true, 0},
		} {
			made := refAddress(code1, 8)
			if op == "CREATE2" {
				made = refAddress2(code1, of(99), x.code)
			}
			for _, gas := range []int{1_000_000, 60_000, 40_000} {
				l := []api.Account{{Addr: code1, Nonce: 8, Balance: of(100), Code: maker(op, x.value)}}
				o, s := play(t, op+" of "+x.name, l, api.Message{From: alice, To: code1, Data: x.code, Gas: gas}, someContext)
				if gas < 1_000_000 {
					continue
				}
				want := answers(of(0), of(x.size))
				if x.ok {
					want = answers(wordOf(made), of(x.size))
				}
				if o.Err != api.OK || !bytes.Equal(o.Out, want) || o.Addr != (api.Addr{}) {
					t.Errorf("P1501 %s of %s: %s, not %s", op, x.name, text(o), text(want))
				}
				nonce := 9
				if x.value > 100 { // it failed at once
					nonce = 8
				}
				if s.Nonce(code1) != nonce {
					t.Errorf("P1501 %s of %s: the nonce %d", op, x.name, s.Nonce(code1))
				}
			}
		}
	}
}

// TestNestedCreateGas has the gas of a message that makes an account: all but a 64th of what is left.
func TestNestedCreateGas(t *testing.T) {
	tell := prog("GAS", 0, "MSTORE", 32, 0, "REVERT")
	for op, salt := range map[string][]byte{"CREATE": nil, "CREATE2": prog(5)} {
		code := slices.Concat(prog("CALLDATASIZE", 0, 0, "CALLDATACOPY"), salt, prog("CALLDATASIZE", 0, 0, op, 32, 0, 0, "RETURNDATACOPY", 32, 0, "RETURN"))
		l := []api.Account{{Addr: code1, Nonce: 1, Code: code}}
		for _, gas := range []int{1_000_000, 100_000, 32_100} {
			o, _ := play(t, op, l, api.Message{From: alice, To: code1, Data: tell, Gas: gas}, someContext)
			if gas == 32_100 {
				continue
			}
			left := gas - (2 + 3 + 3 + 3 + 3 + 3) - (2 + 3 + 3) - 32000
			if op == "CREATE2" {
				left -= 3 + 6
			}
			given := left - left/64
			if want := of(given - 2); !bytes.Equal(o.Out, want[:]) {
				t.Errorf("P1501 the gas of %s: %s, not %x", op, text(o), want)
			}
		}
	}
}

// TestFamily has accounts that are made one after the other, and by accounts that were made: each nonce counts.
func TestFamily(t *testing.T) {
	twice := prog(0, 0, 0, "CREATE", 0, 0, 0, "CREATE", 0, "MSTORE", 32, "MSTORE", 64, 0, "RETURN")
	l := []api.Account{{Addr: code1, Nonce: 127, Code: twice}}
	o, s := play(t, "two accounts", l, api.Message{To: code1, Gas: 1_000_000}, someContext)
	if want := answers(wordOf(refAddress(code1, 128)), wordOf(refAddress(code1, 127))); o.Err != api.OK || !bytes.Equal(o.Out, want) || s.Nonce(code1) != 129 {
		t.Errorf("P1501 two accounts: %s, not %s", text(o), text(want))
	}
	// A code that is executed for a new account makes one itself, with the nonce 1.
	m, made := creation(api.KCreate, twice)
	o, s = play(t, "accounts of an account", []api.Account{{Addr: alice, Nonce: 4, Balance: of(100)}}, m, someContext)
	if want := answers(wordOf(refAddress(made, 2)), wordOf(refAddress(made, 1))); o.Err != api.OK || !bytes.Equal(s.Code(made), want) || s.Nonce(made) != 3 {
		t.Errorf("P1501 accounts of an account: %s, not %s", text(s.Code(made)), text(want))
	}
	// The same CREATE2 once more clashes, and its gas is lost.
	again := prog(7, 0, 0, 0, "CREATE2", 7, 0, 0, 0, "CREATE2", 0, "MSTORE", 32, "MSTORE", 64, 0, "RETURN")
	l[0].Code = again
	o, s = play(t, "one account twice", l, api.Message{To: code1, Gas: 1_000_000}, someContext)
	if want := answers(of(0), wordOf(refAddress2(code1, of(7), nil))); o.Err != api.OK || !bytes.Equal(o.Out, want) || s.Nonce(code1) != 129 || o.Gas > 30_000 {
		t.Errorf("P1501 one account twice: %s, not %s", text(o), text(want))
	}
	// An account that goes away can be made again.
	l[0].Code = slices.Concat(prog(api.Word{0x30, 0xff}, 0, "MSTORE"), prog(7, 2, 0, 0, "CREATE2", 7, 2, 0, 0, "CREATE2", 0, "MSTORE", 32, "MSTORE", 64, 0, "RETURN"))
	o, s = play(t, "one account twice, that goes away", l, api.Message{To: code1, Gas: 1_000_000}, someContext)
	again2 := wordOf(refAddress2(code1, of(7), []byte{0x30, 0xff}))
	if want := answers(again2, again2); o.Err != api.OK || !bytes.Equal(o.Out, want) || len(s.Accounts()) != 1 {
		t.Errorf("P1501 one account twice, that goes away: %s, not %s", text(o), text(want))
	}
}
