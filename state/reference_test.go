package state_test

import (
	"bytes"
	"maps"
	"math/big"
	"slices"
	"testing"

	"muniments/api"
	"muniments/state"
)

// low is the word of a small number.
func low(n byte) api.Word { return api.Word{31: n} }

// at is the address of a small number.
func at(n int) api.Addr { return api.Addr{18: byte(n >> 8), 19: byte(n)} }

// highest is the word of which all bits are 1.
var highest = api.Word(bytes.Repeat([]byte{255}, 32))

// The reference: what the chapter says, spelled out plainly. All that an address has stands in one value, and a record is a copy of everything.

type refAccount struct {
	nonce   int
	balance api.Word
	code    string
	slots   map[api.Word]api.Word // also of the value 0
}

type refRecord struct {
	number   int
	accounts map[api.Addr]refAccount
}

type reference struct {
	accounts map[api.Addr]refAccount // also empty ones
	records  []refRecord
}

func newReference(l []api.Account) *reference {
	r := &reference{accounts: map[api.Addr]refAccount{}}
	for _, a := range l {
		slots := map[api.Word]api.Word{}
		for _, s := range a.Slots {
			slots[s.Key] = s.Value
		}
		r.accounts[a.Addr] = refAccount{max(0, a.Nonce), a.Balance, string(a.Code), slots}
	}
	return r
}

func refClone(accounts map[api.Addr]refAccount) map[api.Addr]refAccount {
	c := map[api.Addr]refAccount{}
	for addr, a := range accounts {
		a.slots = maps.Clone(a.slots)
		c[addr] = a
	}
	return c
}

func (r *reference) change(addr api.Addr, f func(a *refAccount)) {
	a := r.accounts[addr]
	if a.slots == nil {
		a.slots = map[api.Word]api.Word{}
	}
	f(&a)
	r.accounts[addr] = a
}

func (r *reference) setNonce(addr api.Addr, n int) {
	r.change(addr, func(a *refAccount) { a.nonce = max(0, n) })
}

func (r *reference) setBalance(addr api.Addr, w api.Word) {
	r.change(addr, func(a *refAccount) { a.balance = w })
}

func (r *reference) setCode(addr api.Addr, b []byte) {
	r.change(addr, func(a *refAccount) { a.code = string(b) })
}

func (r *reference) setSlot(addr api.Addr, key, value api.Word) {
	r.change(addr, func(a *refAccount) { a.slots[key] = value })
}

func (r *reference) kill(addr api.Addr) { delete(r.accounts, addr) }

func (r *reference) move(from, to api.Addr, w api.Word) bool {
	big := func(w api.Word) *big.Int { return new(big.Int).SetBytes(w[:]) }
	left := big(r.accounts[from].balance)
	left.Sub(left, big(w))
	sum := big(r.accounts[to].balance)
	sum.Add(sum, big(w))
	if left.Sign() < 0 || from != to && sum.BitLen() > 256 {
		return false
	}
	if from != to {
		r.setBalance(from, api.Word(left.FillBytes(make([]byte, 32))))
		r.setBalance(to, api.Word(sum.FillBytes(make([]byte, 32))))
	}
	return true
}

func (r *reference) mark(number int) {
	r.records = append(r.records, refRecord{number, refClone(r.accounts)})
}

func (r *reference) back(number int) bool {
	i := slices.IndexFunc(r.records, func(x refRecord) bool { return x.number == number })
	if i < 0 {
		return false
	}
	r.accounts = r.records[i].accounts
	r.records = r.records[:i]
	return true
}

func (r *reference) list() []api.Account {
	var l []api.Account
	for addr, a := range r.accounts {
		x := api.Account{Addr: addr, Nonce: a.nonce, Balance: a.balance, Code: []byte(a.code)}
		for key, value := range a.slots {
			if value != (api.Word{}) {
				x.Slots = append(x.Slots, api.Slot{Key: key, Value: value})
			}
		}
		slices.SortFunc(x.Slots, func(a, b api.Slot) int { return bytes.Compare(a.Key[:], b.Key[:]) })
		l = append(l, x)
	}
	slices.SortFunc(l, func(a, b api.Account) int { return bytes.Compare(a.Addr[:], b.Addr[:]) })
	return full(l...)
}

func isFull(a api.Account) bool {
	return a.Nonce != 0 || a.Balance != api.Word{} || len(a.Code) != 0 || len(a.Slots) != 0
}

// full is l without the empty accounts.
func full(l ...api.Account) []api.Account {
	return slices.DeleteFunc(l, func(a api.Account) bool { return !isFull(a) })
}

// sameAccount: a nil list is like an empty one.
func sameAccount(a, b api.Account) bool {
	return a.Addr == b.Addr && a.Nonce == b.Nonce && a.Balance == b.Balance && bytes.Equal(a.Code, b.Code) && slices.Equal(a.Slots, b.Slots)
}

func sameAccounts(a, b []api.Account) bool { return slices.EqualFunc(a, b, sameAccount) }

// has demands of s just the accounts l, which stand in the order of Accounts.
func has(t *testing.T, name string, s *state.State, l ...api.Account) {
	t.Helper()
	if got := s.Accounts(); !sameAccounts(got, l) {
		t.Fatalf("%s: Accounts %v, not %v", name, got, l)
	}
	for _, a := range l {
		holds(t, name, s, a)
	}
}

// holds demands of s this account, asked for one by one.
func holds(t *testing.T, name string, s *state.State, a api.Account) {
	t.Helper()
	if got := s.Exists(a.Addr); got != isFull(a) {
		t.Fatalf("%s: Exists of %x: %v", name, a.Addr, got)
	}
	if got := s.Nonce(a.Addr); got != a.Nonce {
		t.Fatalf("%s: Nonce of %x: %d, not %d", name, a.Addr, got, a.Nonce)
	}
	if got := s.Balance(a.Addr); got != a.Balance {
		t.Fatalf("%s: Balance of %x: %x, not %x", name, a.Addr, got, a.Balance)
	}
	if got := s.Code(a.Addr); !bytes.Equal(got, a.Code) {
		t.Fatalf("%s: Code of %x: %x, not %x", name, a.Addr, got, a.Code)
	}
	for _, x := range a.Slots {
		if got := s.Slot(a.Addr, x.Key); got != x.Value {
			t.Fatalf("%s: Slot of %x at %x: %x, not %x", name, a.Addr, x.Key, got, x.Value)
		}
	}
}

// equals demands of s what r has, also at the addresses and keys at which there is nothing.
func equals(t *testing.T, name string, s *state.State, r *reference, addrs []api.Addr, keys []api.Word) {
	t.Helper()
	l := r.list()
	has(t, name, s, l...)
	for _, addr := range addrs {
		if !slices.ContainsFunc(l, func(a api.Account) bool { return a.Addr == addr }) {
			holds(t, name, s, api.Account{Addr: addr})
		}
		for _, key := range keys {
			if got, want := s.Slot(addr, key), r.accounts[addr].slots[key]; got != want {
				t.Fatalf("%s: Slot of %x at %x: %x, not %x", name, addr, key, got, want)
			}
		}
	}
}

// noise makes numbers that look random and are always the same.
type noise uint32

func (n *noise) byte() byte {
	*n = *n*1664525 + 1013904223
	return byte(*n >> 24)
}

// below is a number from 0 to most - 1.
func (n *noise) below(most int) int {
	return (int(n.byte())<<16 | int(n.byte())<<8 | int(n.byte())) % most
}

func (n *noise) bytes(count int) []byte {
	b := make([]byte, count)
	for i := range b {
		b[i] = n.byte()
	}
	return b
}

// word is 0, the highest one, a small one or any, often the same as before.
func (n *noise) word() api.Word {
	switch n.below(6) {
	case 0:
		return api.Word{}
	case 1:
		return highest
	case 2:
		return api.Word(n.bytes(32))
	default:
		return low(byte(n.below(4)))
	}
}

// pick is an element of l.
func pick[E any](n *noise, l []E) E { return l[n.below(len(l))] }

// accounts has so many accounts, with addresses and keys that may occur several times.
func (n *noise) accounts(count int, addrs []api.Addr, keys []api.Word) []api.Account {
	var l []api.Account
	for range count {
		a := api.Account{Addr: pick(n, addrs)}
		if n.below(3) > 0 {
			a.Nonce = n.below(5) - 1
		}
		if n.below(3) > 0 {
			a.Balance = n.word()
		}
		if n.below(3) == 0 {
			a.Code = n.bytes(n.below(5))
		}
		if n.below(2) == 0 {
			for range n.below(6) {
				a.Slots = append(a.Slots, api.Slot{Key: pick(n, keys), Value: n.word()})
			}
		}
		l = append(l, a)
	}
	return l
}
