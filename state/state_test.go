package state_test

import (
	"fmt"
	"math"
	"testing"

	"muniments/acct"
	"muniments/api"
	"muniments/state"
)

// slot is a slot of small numbers.
func slot(key, value byte) api.Slot { return api.Slot{Key: low(key), Value: low(value)} }

// rich is an account that has all, at the address of a small number.
func rich(n int) api.Account {
	return api.Account{Addr: at(n), Nonce: 7, Balance: low(9), Code: []byte{1, 2, 3}, Slots: []api.Slot{slot(1, 5), slot(2, 6)}}
}

// isNothing demands nothing at an address.
func isNothing(t *testing.T, name string, s *state.State, addr api.Addr) {
	t.Helper()
	holds(t, name, s, api.Account{Addr: addr})
	for _, key := range []api.Word{{}, low(1), low(2), {1}, highest} {
		if got := s.Slot(addr, key); got != (api.Word{}) {
			t.Fatalf("%s: Slot of %x at %x: %x", name, addr, key, got)
		}
	}
}

func TestNothing(t *testing.T) {
	for _, s := range []*state.State{state.New(nil), state.New([]api.Account{}), {}, state.New(nil).Copy(), (&state.State{}).Copy()} {
		has(t, "P1001 no accounts", s)
		for _, addr := range []api.Addr{{}, at(1), {1}, {19: 255}} {
			isNothing(t, "P1001 an address that was never set", s, addr)
		}
		has(t, "P1001 after questions", s)
	}
}

// TestNew has lists of accounts, and what is left of them.
func TestNew(t *testing.T) {
	for _, c := range []struct {
		name    string
		l, want []api.Account
	}{
		{"an account with all", []api.Account{rich(1)}, []api.Account{rich(1)}},
		{"a nonce", []api.Account{{Addr: at(1), Nonce: 1}}, []api.Account{{Addr: at(1), Nonce: 1}}},
		{"the highest nonce", []api.Account{{Nonce: math.MaxInt}}, []api.Account{{Nonce: math.MaxInt}}},
		{"a balance", []api.Account{{Addr: at(1), Balance: low(1)}}, []api.Account{{Addr: at(1), Balance: low(1)}}},
		{"a balance in the first byte", []api.Account{{Balance: api.Word{1}}}, []api.Account{{Balance: api.Word{1}}}},
		{"a code", []api.Account{{Addr: at(1), Code: []byte{0}}}, []api.Account{{Addr: at(1), Code: []byte{0}}}},
		{"a code of bytes that are no text", []api.Account{{Code: []byte{255, 0, 128, 192, 0xed, 0xa0, 0x80}}}, []api.Account{{Code: []byte{255, 0, 128, 192, 0xed, 0xa0, 0x80}}}},
		{"a long code", []api.Account{{Code: make([]byte, api.MaxCode+1)}}, []api.Account{{Code: make([]byte, api.MaxCode+1)}}},
		{"a slot", []api.Account{{Addr: at(1), Slots: []api.Slot{{Value: low(1)}}}}, []api.Account{{Addr: at(1), Slots: []api.Slot{{Value: low(1)}}}}},

		{"only an address", []api.Account{{Addr: at(1)}}, nil},
		{"only the address 0", []api.Account{{}}, nil},
		{"empty lists", []api.Account{{Addr: at(1), Code: []byte{}, Slots: []api.Slot{}}}, nil},
		{"a negative nonce", []api.Account{{Addr: at(1), Nonce: -1}}, nil},
		{"the lowest nonce", []api.Account{{Addr: at(1), Nonce: math.MinInt, Balance: low(1)}}, []api.Account{{Addr: at(1), Balance: low(1)}}},
		{"slots of the value 0", []api.Account{{Addr: at(1), Slots: []api.Slot{{}, slot(1, 0)}}}, nil},
		{"a slot of the value 0 among others", []api.Account{{Slots: []api.Slot{slot(1, 5), slot(2, 0), slot(3, 5)}}}, []api.Account{{Slots: []api.Slot{slot(1, 5), slot(3, 5)}}}},

		{"the nonces 9 and 2", []api.Account{{Addr: at(1), Nonce: 9}, {Addr: at(1), Nonce: 2}}, []api.Account{{Addr: at(1), Nonce: 2}}},
		{"an address twice", []api.Account{rich(1), {Addr: at(1), Nonce: 1}}, []api.Account{{Addr: at(1), Nonce: 1}}},
		{"an address twice, with another between", []api.Account{{Addr: at(1), Nonce: 1, Balance: low(3)}, {Addr: at(2), Nonce: 8}, rich(1)}, []api.Account{rich(1), {Addr: at(2), Nonce: 8}}},
		{"an address three times", []api.Account{rich(1), {Addr: at(1), Nonce: 3}, {Addr: at(1), Balance: low(4)}}, []api.Account{{Addr: at(1), Balance: low(4)}}},
		{"an address twice with other slots", []api.Account{{Slots: []api.Slot{slot(1, 5), slot(2, 5)}}, {Slots: []api.Slot{slot(2, 6), slot(3, 6)}}}, []api.Account{{Slots: []api.Slot{slot(2, 6), slot(3, 6)}}}},
		{"an account and then an empty one", []api.Account{rich(1), {Addr: at(1)}}, nil},
		{"an account and then one with a negative nonce", []api.Account{rich(1), {Addr: at(1), Nonce: -9}}, nil},
		{"an account and then one with slots of the value 0", []api.Account{rich(1), {Addr: at(1), Slots: []api.Slot{slot(1, 0)}}}, nil},
		{"an empty account and then another", []api.Account{{Addr: at(1)}, rich(1)}, []api.Account{rich(1)}},
		{"a key twice", []api.Account{{Slots: []api.Slot{slot(1, 5), slot(1, 6)}}}, []api.Account{{Slots: []api.Slot{slot(1, 6)}}}},
		{"a key twice, with another between", []api.Account{{Slots: []api.Slot{slot(1, 6), slot(2, 7), slot(1, 5)}}}, []api.Account{{Slots: []api.Slot{slot(1, 5), slot(2, 7)}}}},
		{"a key with a value and then 0", []api.Account{{Nonce: 1, Slots: []api.Slot{slot(1, 5), slot(1, 0)}}}, []api.Account{{Nonce: 1}}},
		{"only a key with a value and then 0", []api.Account{{Slots: []api.Slot{slot(1, 5), slot(1, 0)}}}, nil},
		{"a key with 0 and then a value", []api.Account{{Slots: []api.Slot{slot(1, 0), slot(1, 5)}}}, []api.Account{{Slots: []api.Slot{slot(1, 5)}}}},

		{"falling addresses", []api.Account{rich(3), rich(2), rich(1)}, []api.Account{rich(1), rich(2), rich(3)}},
		{"addresses with high bytes",
			[]api.Account{{Addr: api.Addr{255}, Nonce: 1}, {Addr: api.Addr{128}, Nonce: 2}, {Addr: api.Addr{127, 255}, Nonce: 3}, {Addr: at(256), Nonce: 4}, {Addr: at(255), Nonce: 5}, {Nonce: 6}},
			[]api.Account{{Nonce: 6}, {Addr: at(255), Nonce: 5}, {Addr: at(256), Nonce: 4}, {Addr: api.Addr{127, 255}, Nonce: 3}, {Addr: api.Addr{128}, Nonce: 2}, {Addr: api.Addr{255}, Nonce: 1}}},
		{"keys with high bytes",
			[]api.Account{{Slots: []api.Slot{{Key: highest, Value: low(1)}, {Key: api.Word{128}, Value: low(2)}, {Key: api.Word{127, 255}, Value: low(3)}, {Key: api.Word{30: 1}, Value: low(4)}, slot(255, 5), slot(0, 6)}}},
			[]api.Account{{Slots: []api.Slot{slot(0, 6), slot(255, 5), {Key: api.Word{30: 1}, Value: low(4)}, {Key: api.Word{127, 255}, Value: low(3)}, {Key: api.Word{128}, Value: low(2)}, {Key: highest, Value: low(1)}}}}},
		{"the same keys in two accounts", []api.Account{{Addr: at(2), Slots: []api.Slot{slot(1, 5)}}, {Addr: at(1), Slots: []api.Slot{slot(1, 6)}}}, []api.Account{{Addr: at(1), Slots: []api.Slot{slot(1, 6)}}, {Addr: at(2), Slots: []api.Slot{slot(1, 5)}}}},
	} {
		s := state.New(c.l)
		has(t, "P1001 New of "+c.name, s, c.want...)
		isNothing(t, "P1001 New of "+c.name, s, api.Addr{9, 9, 9})
		for _, a := range c.l {
			if len(c.want) == 0 {
				isNothing(t, "P1001 New of "+c.name, s, a.Addr)
			}
		}
		has(t, "P1001 New of the Accounts of "+c.name, state.New(s.Accounts()), c.want...)
		has(t, "P1003 Copy of "+c.name, s.Copy(), c.want...)
	}
}

// TestSet sets each value of an account alone, ahead of others and behind them, and sets it to nothing again.
func TestSet(t *testing.T) {
	changes := []struct {
		name       string
		set, unset func(s *state.State, addr api.Addr)
		with       func(a *api.Account)
	}{
		{"SetNonce",
			func(s *state.State, addr api.Addr) { s.SetNonce(addr, 5) },
			func(s *state.State, addr api.Addr) { s.SetNonce(addr, 0) },
			func(a *api.Account) { a.Nonce = 5 }},
		{"SetNonce with the highest one",
			func(s *state.State, addr api.Addr) { s.SetNonce(addr, math.MaxInt) },
			func(s *state.State, addr api.Addr) { s.SetNonce(addr, -5) },
			func(a *api.Account) { a.Nonce = math.MaxInt }},
		{"SetNonce and the lowest one",
			func(s *state.State, addr api.Addr) { s.SetNonce(addr, 1) },
			func(s *state.State, addr api.Addr) { s.SetNonce(addr, math.MinInt) },
			func(a *api.Account) { a.Nonce = 1 }},
		{"SetBalance",
			func(s *state.State, addr api.Addr) { s.SetBalance(addr, low(5)) },
			func(s *state.State, addr api.Addr) { s.SetBalance(addr, api.Word{}) },
			func(a *api.Account) { a.Balance = low(5) }},
		{"SetBalance with the highest one",
			func(s *state.State, addr api.Addr) { s.SetBalance(addr, highest) },
			func(s *state.State, addr api.Addr) { s.SetBalance(addr, api.Word{}) },
			func(a *api.Account) { a.Balance = highest }},
		{"SetCode",
			func(s *state.State, addr api.Addr) { s.SetCode(addr, []byte{0}) },
			func(s *state.State, addr api.Addr) { s.SetCode(addr, nil) },
			func(a *api.Account) { a.Code = []byte{0} }},
		{"SetCode with a long one",
			func(s *state.State, addr api.Addr) { s.SetCode(addr, make([]byte, api.MaxCode+1)) },
			func(s *state.State, addr api.Addr) { s.SetCode(addr, []byte{}) },
			func(a *api.Account) { a.Code = make([]byte, api.MaxCode+1) }},
		{"SetSlot",
			func(s *state.State, addr api.Addr) { s.SetSlot(addr, low(5), low(6)) },
			func(s *state.State, addr api.Addr) { s.SetSlot(addr, low(5), api.Word{}) },
			func(a *api.Account) { a.Slots = []api.Slot{slot(5, 6)} }},
		{"SetSlot at the key 0",
			func(s *state.State, addr api.Addr) { s.SetSlot(addr, api.Word{}, api.Word{1}) },
			func(s *state.State, addr api.Addr) { s.SetSlot(addr, api.Word{}, api.Word{}) },
			func(a *api.Account) { a.Slots = []api.Slot{{Value: api.Word{1}}} }},
	}
	for _, c := range changes {
		for _, addr := range []api.Addr{{}, at(4), {255}} {
			for _, s := range []*state.State{state.New(nil), {}} {
				want := api.Account{Addr: addr}
				c.with(&want)
				c.set(s, addr)
				has(t, "P1002 "+c.name, s, want)
				c.set(s, addr)
				has(t, "P1002 "+c.name+" twice", s, want)
				c.unset(s, addr)
				has(t, "P1002 "+c.name+" to nothing", s)
				isNothing(t, "P1002 "+c.name+" to nothing", s, addr)
				c.unset(s, addr)
				has(t, "P1002 "+c.name+" to nothing twice", s)
			}
		}
		s := state.New([]api.Account{rich(3), rich(5)})
		for _, d := range changes {
			var want api.Account
			want.Addr = at(4)
			c.with(&want)
			d.with(&want)
			c.set(s, at(4))
			d.set(s, at(4))
			if c.name[:7] == "SetSlot" && d.name[:7] == "SetSlot" && c.name != d.name {
				want.Slots = []api.Slot{{Value: api.Word{1}}, slot(5, 6)}
			}
			has(t, "P1002 "+c.name+" and "+d.name, s, rich(3), want, rich(5))
			c.unset(s, at(4))
			d.unset(s, at(4))
			has(t, "P1002 "+c.name+" and "+d.name+" to nothing", s, rich(3), rich(5))
		}
	}
}

// TestSetOver has an account with all, of which one value becomes another or nothing.
func TestSetOver(t *testing.T) {
	for i, c := range []struct {
		set  func(s *state.State)
		with func(a *api.Account)
	}{
		{func(s *state.State) { s.SetNonce(at(1), 8) }, func(a *api.Account) { a.Nonce = 8 }},
		{func(s *state.State) { s.SetNonce(at(1), -5) }, func(a *api.Account) { a.Nonce = 0 }},
		{func(s *state.State) { s.SetBalance(at(1), low(8)) }, func(a *api.Account) { a.Balance = low(8) }},
		{func(s *state.State) { s.SetBalance(at(1), api.Word{}) }, func(a *api.Account) { a.Balance = api.Word{} }},
		{func(s *state.State) { s.SetCode(at(1), []byte{1, 2}) }, func(a *api.Account) { a.Code = []byte{1, 2} }},
		{func(s *state.State) { s.SetCode(at(1), nil) }, func(a *api.Account) { a.Code = nil }},
		{func(s *state.State) { s.SetSlot(at(1), low(1), low(8)) }, func(a *api.Account) { a.Slots = []api.Slot{slot(1, 8), slot(2, 6)} }},
		{func(s *state.State) { s.SetSlot(at(1), low(1), api.Word{}) }, func(a *api.Account) { a.Slots = []api.Slot{slot(2, 6)} }},
		{func(s *state.State) { s.SetSlot(at(1), low(0), low(8)) }, func(a *api.Account) { a.Slots = []api.Slot{slot(0, 8), slot(1, 5), slot(2, 6)} }},
		{func(s *state.State) { s.SetSlot(at(1), low(3), api.Word{}) }, func(a *api.Account) {}},
		{func(s *state.State) { s.Kill(at(1)) }, func(a *api.Account) { *a = api.Account{Addr: at(1)} }},
	} {
		s := state.New([]api.Account{rich(0), rich(1), rich(2)})
		want := rich(1)
		c.with(&want)
		c.set(s)
		has(t, fmt.Sprint("P1002 change ", i), s, full(rich(0), want, rich(2))...)
		holds(t, fmt.Sprint("P1002 change ", i), s, want)
	}
}

func TestKill(t *testing.T) {
	for _, s := range []*state.State{state.New(nil), {}} {
		s.Kill(at(1))
		has(t, "P1002 Kill of nothing", s)
	}
	s := state.New([]api.Account{rich(1), rich(2)})
	s.Kill(at(1))
	has(t, "P1002 Kill", s, rich(2))
	isNothing(t, "P1002 Kill", s, at(1))
	s.Kill(at(1))
	has(t, "P1002 Kill twice", s, rich(2))
	s.SetNonce(at(1), 1)
	has(t, "P1002 SetNonce after Kill", s, api.Account{Addr: at(1), Nonce: 1}, rich(2))
	s.SetSlot(at(1), low(1), low(8))
	has(t, "P1002 SetSlot after Kill", s, api.Account{Addr: at(1), Nonce: 1, Slots: []api.Slot{slot(1, 8)}}, rich(2))
	s.Kill(at(2))
	s.Kill(at(1))
	has(t, "P1002 Kill of all", s)
}

// below is the word of 2^256 - n.
func below(n byte) api.Word {
	w := highest
	w[31] = -n
	return w
}

func TestMove(t *testing.T) {
	for _, c := range []struct {
		name             string
		from, to, w      api.Word
		ok               bool
		fromLeft, toLeft api.Word
	}{
		{"a part", low(5), low(1), low(3), true, low(2), low(4)},
		{"all", low(5), low(1), low(5), true, low(0), low(6)},
		{"all to nothing", low(5), low(0), low(5), true, low(0), low(5)},
		{"1 of 1", low(1), low(0), low(1), true, low(0), low(1)},
		{"0", low(5), low(1), low(0), true, low(5), low(1)},
		{"0 of 0", low(0), low(0), low(0), true, low(0), low(0)},
		{"0 to the highest", low(5), highest, low(0), true, low(5), highest},
		{"1 of 0", low(0), low(5), low(1), false, low(0), low(5)},
		{"one too much", low(5), low(1), low(6), false, low(5), low(1)},
		{"the highest of 5", low(5), low(1), highest, false, low(5), low(1)},
		{"the highest", highest, low(0), highest, true, low(0), highest},
		{"one less than the highest", highest, low(1), below(2), true, low(1), highest},
		{"the highest to 1", highest, low(1), highest, false, highest, low(1)},
		{"the highest to the highest", highest, highest, highest, false, highest, highest},
		{"1 to the highest", low(5), highest, low(1), false, low(5), highest},
		{"3 to 2^256 - 3", low(5), below(3), low(3), false, low(5), below(3)},
		{"2 to 2^256 - 3", low(5), below(3), low(2), true, low(3), highest},
		{"4 to 2^256 - 3", low(5), below(3), low(4), false, low(5), below(3)},
		{"2^255 to 2^255", highest, api.Word{128}, api.Word{128}, false, highest, api.Word{128}},
		{"2^255 to one less", highest, api.Word{127, 31: 1}, api.Word{128}, true, api.Word(append([]byte{127}, highest[1:]...)), api.Word{255, 31: 1}},
		{"with a carry", api.Word{30: 2}, low(255), api.Word{30: 1, 31: 1}, true, low(255), api.Word{30: 2}},
		{"too much and too high", low(5), highest, low(6), false, low(5), highest},
	} {
		for _, more := range []api.Account{{}, {Nonce: 7, Code: []byte{1}, Slots: []api.Slot{slot(1, 5)}}} {
			from, to := more, more
			from.Addr, from.Balance = at(2), c.from
			to.Addr, to.Balance = at(1), c.to
			s := state.New([]api.Account{from, to, rich(3)})
			if got := s.Move(at(2), at(1), c.w); got != c.ok {
				t.Errorf("P1002 Move of %s: %v", c.name, got)
			}
			from.Balance, to.Balance = c.fromLeft, c.toLeft
			holds(t, "P1002 Move of "+c.name, s, from)
			holds(t, "P1002 Move of "+c.name, s, to)
			has(t, "P1002 Move of "+c.name, s, full(to, from, rich(3))...)
		}
	}
}

func TestMoveToItself(t *testing.T) {
	for _, c := range []struct {
		has, w api.Word
		ok     bool
	}{
		{low(5), low(5), true},
		{low(5), low(3), true},
		{low(5), low(0), true},
		{low(5), low(6), false},
		{low(5), highest, false},
		{low(0), low(0), true},
		{low(0), low(1), false},
		{highest, highest, true},
		{highest, low(1), true},
		{api.Word{128}, api.Word{128}, true},
	} {
		s := state.New([]api.Account{rich(2)})
		s.SetBalance(at(1), c.has)
		if got := s.Move(at(1), at(1), c.w); got != c.ok {
			t.Errorf("P1002 Move of %x to itself, of %x: %v", c.w, c.has, got)
		}
		if s.Balance(at(1)) != c.has || s.Exists(at(1)) != (c.has != api.Word{}) {
			t.Errorf("P1002 Move of %x to itself, of %x: leaves %x", c.w, c.has, s.Balance(at(1)))
		}
		holds(t, "P1002 Move to itself", s, rich(2))
	}
	s := &state.State{}
	if s.Move(at(1), at(2), low(1)) || !s.Move(at(1), at(2), low(0)) || !s.Move(at(1), at(1), low(0)) {
		t.Errorf("P1002 Move without accounts")
	}
	has(t, "P1002 Move without accounts", s)
}

// TestRoot demands acct.Root of Accounts after each of many changes, and roots that are known from elsewhere.
func TestRoot(t *testing.T) {
	const none = "56e81f171bcc55a6ff8345e692c0f86e5b48e01b996cadc001622fb5e363b421"
	const one = "8257aee1cdaa2c42ae5dfad636710ee73437466b7504770feb19d63e2be3c913"
	s := &state.State{}
	if got := fmt.Sprintf("%x", s.Root()); got != none {
		t.Errorf("P1003 Root of nothing: %s", got)
	}
	s.SetBalance(api.Addr{1}, low(1))
	mark := s.Mark()
	s.SetSlot(api.Addr{1}, api.Word{1}, api.Word{1})
	if got := fmt.Sprintf("%x", s.Root()); got != one {
		t.Errorf("P1003 Root of an account with a slot: %s", got)
	}
	s.Back(mark)
	s.Kill(api.Addr{1})
	if got := fmt.Sprintf("%x", s.Root()); got != none {
		t.Errorf("P1003 Root after Kill: %s", got)
	}
	r := noise(1)
	for i := range 200 {
		s.SetNonce(at(r.below(20)), r.below(3))
		s.SetCode(at(r.below(20)), r.bytes(r.below(3)))
		s.SetSlot(at(r.below(20)), low(r.byte()&3), r.word())
		want, err := acct.Root(s.Accounts())
		if got := s.Root(); err != api.OK || got != want {
			t.Fatalf("P1003 Root after %d changes: %x, not %x, error %d", i, got, want, err)
		}
	}
}

// TestRootOfTooMany has more accounts than a trie takes: there is no root, but acct.Root's word beside its error.
func TestRootOfTooMany(t *testing.T) {
	s := state.New(nil)
	for i := range 100_001 {
		s.SetNonce(api.Addr{byte(i), byte(i >> 8), byte(i >> 16)}, 1)
	}
	want, err := acct.Root(s.Accounts())
	if got := s.Root(); err != api.ErrLong || got != want {
		t.Errorf("P1003 Root of 100,001 accounts: %x, not %x, error %d", got, want, err)
	}
	s.Kill(api.Addr{5})
	want, err = acct.Root(s.Accounts())
	if got := s.Root(); err != api.OK || got != want {
		t.Errorf("P1003 Root of 100,000 accounts: %x, not %x, error %d", got, want, err)
	}
}
