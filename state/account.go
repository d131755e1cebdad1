package state

import (
	"maps"
	"slices"

	"muniments/api"
	"muniments/word"
)

// account is what an address has. Its code is a string, so that it can be compared and shared: nothing changes it.
type account struct {
	nonce   int
	balance api.Word
	code    string
	slots   map[api.Word]api.Word // none of them has the value 0
}

// read returns what l has. The last slot of each key counts.
func read(l api.Account) *account {
	a := &account{nonce: max(l.Nonce, 0), balance: l.Balance, code: string(l.Code)}
	for _, s := range l.Slots {
		a.set(s.Key, s.Value)
	}
	return a
}

// show returns a as the account of addr.
func (a *account) show(addr api.Addr) api.Account {
	slots := make([]api.Slot, 0, len(a.slots))
	for key, value := range a.slots {
		slots = append(slots, api.Slot{Key: key, Value: value})
	}
	slices.SortFunc(slots, func(x, y api.Slot) int { return word.Cmp(x.Key, y.Key) })
	return api.Account{Addr: addr, Nonce: a.nonce, Balance: a.balance, Code: []byte(a.code), Slots: slots}
}

func (a *account) empty() bool {
	return a.nonce == 0 && a.balance == api.Word{} && a.code == "" && len(a.slots) == 0
}

// set sets the value for a key.
func (a *account) set(key, value api.Word) {
	if value == (api.Word{}) {
		delete(a.slots, key)
		return
	}
	if a.slots == nil {
		a.slots = map[api.Word]api.Word{}
	}
	a.slots[key] = value
}

func (a *account) copy() *account {
	c := *a
	c.slots = maps.Clone(a.slots)
	return &c
}
