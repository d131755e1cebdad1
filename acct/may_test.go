package acct_test

import (
	"math"
	"slices"
	"testing"

	"muniments/acct"
	"muniments/api"
)

// slot is a slot of small numbers.
func slot(key, value byte) api.Slot { return api.Slot{Key: low(key), Value: low(value)} }

// withSlots is an account that is not empty, with these slots.
func withSlots(l ...api.Slot) []api.Account {
	return []api.Account{{Addr: at(5), Nonce: 1, Slots: l}}
}

// having has an account for each address, each with a nonce.
func having(addrs ...api.Addr) []api.Account {
	var l []api.Account
	for _, a := range addrs {
		l = append(l, api.Account{Addr: a, Nonce: 1})
	}
	return l
}

func TestMay(t *testing.T) {
	for _, c := range []struct {
		name string
		l    []api.Account
	}{
		{"no accounts", nil},
		{"an empty list", []api.Account{}},
		{"an account with the nonce 1", []api.Account{{Nonce: 1}}},
		{"an account with the highest nonce", []api.Account{{Nonce: math.MaxInt}}},
		{"an account with a balance", []api.Account{{Balance: low(1)}}},
		{"an account with a high balance", []api.Account{{Balance: api.Word{1}}}},
		{"an account with a code", []api.Account{{Code: []byte{0}}}},
		{"an account with a slot", []api.Account{{Slots: []api.Slot{slot(0, 1)}}}},
		{"an account with the longest code", []api.Account{{Code: make([]byte, api.MaxCode)}}},
		{"two accounts", having(at(1), at(2))},
		{"addresses that differ at the first byte", having(api.Addr{1, 19: 9}, api.Addr{2, 19: 3})},
		{"addresses with high bytes", having(api.Addr{}, at(127), at(128), at(255), at(256), api.Addr{128}, api.Addr{255})},
		{"slots", withSlots(slot(1, 1), slot(2, 1), slot(3, 255))},
		{"keys with high bytes", withSlots(slot(0, 1), slot(127, 1), slot(128, 1), slot(255, 1), api.Slot{Key: api.Word{30: 1}, Value: low(1)}, api.Slot{Key: api.Word{128}, Value: highest}, api.Slot{Key: highest, Value: api.Word{1}})},
		{"the same keys in two accounts", []api.Account{{Addr: at(1), Slots: []api.Slot{slot(1, 1), slot(9, 1)}}, {Addr: at(2), Slots: []api.Slot{slot(1, 1)}}}},
		{"many accounts", plain(100_001)},
		{"many slots", withSlots(numbered(100_001)...)},
	} {
		if !acct.May(c.l) {
			t.Errorf("P903 May of %s: false", c.name)
		}
	}
}

// TestMayNot has lists with one fault, at the beginning, in the middle and at the end.
func TestMayNot(t *testing.T) {
	for _, c := range []struct {
		name string
		l    []api.Account
	}{
		{"an empty account", []api.Account{{}}},
		{"an account with only an address", []api.Account{{Addr: at(5)}}},
		{"an account with empty lists", []api.Account{{Addr: at(5), Code: []byte{}, Slots: []api.Slot{}}}},
		{"the nonce -1", []api.Account{{Addr: at(5), Nonce: -1}}},
		{"the lowest nonce", []api.Account{{Addr: at(5), Nonce: math.MinInt}}},
		{"a negative nonce beside all else", []api.Account{{Addr: at(5), Nonce: -1, Balance: low(1), Code: []byte{1}, Slots: []api.Slot{slot(1, 1)}}}},
		{"a code that is too long", []api.Account{{Addr: at(5), Nonce: 1, Code: make([]byte, api.MaxCode+1)}}},
		{"a slot with the value 0", withSlots(slot(1, 0))},
		{"only a slot with the value 0", []api.Account{{Addr: at(5), Slots: []api.Slot{{}}}}},
		{"a first slot with the value 0", withSlots(slot(1, 0), slot(2, 1), slot(3, 1))},
		{"a slot between with the value 0", withSlots(slot(1, 1), slot(2, 0), slot(3, 1))},
		{"a last slot with the value 0", withSlots(slot(1, 1), slot(2, 1), slot(3, 0))},
		{"a key twice", withSlots(slot(1, 1), slot(1, 1))},
		{"a key twice with two values", withSlots(slot(1, 1), slot(2, 1), slot(2, 2), slot(3, 1))},
		{"falling keys", withSlots(slot(2, 1), slot(1, 1))},
		{"falling keys at the end", withSlots(slot(1, 1), slot(3, 1), slot(2, 1))},
		{"falling keys at the beginning", withSlots(slot(2, 1), slot(1, 1), slot(3, 1))},
		{"falling keys with high bytes", withSlots(slot(128, 1), slot(127, 1))},
		{"keys that fall at the first byte", withSlots(api.Slot{Key: api.Word{2}, Value: low(1)}, api.Slot{Key: api.Word{1, 31: 9}, Value: low(1)})},
		{"an address twice", having(at(5), at(5))},
		{"falling addresses", having(at(6), at(5))},
		{"falling addresses at the end", having(at(4), at(6), at(5))},
		{"falling addresses with high bytes", having(at(128), at(127))},
		{"addresses that fall at the first byte", having(api.Addr{2}, api.Addr{1, 19: 9})},
	} {
		for _, l := range [][]api.Account{
			c.l,
			slices.Concat(having(at(1), at(2)), c.l),
			slices.Concat(c.l, having(api.Addr{9}, api.Addr{10})),
			slices.Concat(having(at(1), at(2)), c.l, having(api.Addr{9}, api.Addr{10})),
		} {
			if acct.May(l) {
				t.Errorf("P903 May of %s among %d accounts: true", c.name, len(l))
			}
		}
	}
}

// TestMayOfAnyOrder demands of all orders of some accounts, and of some slots, that just the ascending one is canonical.
func TestMayOfAnyOrder(t *testing.T) {
	addrs := []api.Addr{{}, at(1), at(256), {1}}
	keys := []api.Slot{slot(0, 1), slot(1, 1), {Key: api.Word{30: 1}, Value: low(1)}, {Key: api.Word{1}, Value: low(1)}}
	for n := range 256 {
		order := []int{n & 3, n >> 2 & 3, n >> 4 & 3, n >> 6 & 3}
		var l []api.Account
		var slots []api.Slot
		for _, i := range order {
			l = append(l, having(addrs[i])...)
			slots = append(slots, keys[i])
		}
		want := slices.Equal(order, []int{0, 1, 2, 3})
		if acct.May(l) != want {
			t.Errorf("P903 May of addresses in the order %v: %v", order, !want)
		}
		if acct.May(withSlots(slots...)) != want {
			t.Errorf("P903 May of keys in the order %v: %v", order, !want)
		}
	}
}
