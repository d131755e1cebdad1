package acct_test

import (
	"bytes"
	"fmt"
	"math"
	"slices"
	"strings"
	"sync"
	"testing"

	"muniments/acct"
	"muniments/api"
	"muniments/keccak"
)

// slotsHave demands this root of Slots.
func slotsHave(t *testing.T, name string, l []api.Slot, want api.Word) {
	t.Helper()
	if got, err := acct.Slots(l); err != api.OK || got != want {
		t.Errorf("P902 Slots of %s: %x, error %d, not %x", name, got, err, want)
	}
}

// rootIs demands this root of Root.
func rootIs(t *testing.T, name string, l []api.Account, want api.Word) {
	t.Helper()
	if got, err := acct.Root(l); err != api.OK || got != want {
		t.Errorf("P902 Root of %s: %x, error %d, not %x", name, got, err, want)
	}
}

// oneLeaf is the root of a trie with one pair, whose key is hashed: the hash of the list of its path and its value.
func oneLeaf(key, value []byte) api.Word {
	h := keccak.Sum(key)
	return keccak.Sum(refList(refText(append([]byte{0x20}, h[:]...)), refText(value)))
}

func TestNoSlots(t *testing.T) {
	for _, l := range [][]api.Slot{nil, {}, {{}}, {{Key: low(1)}}, {{Key: low(1)}, {Key: low(2)}, {Key: highest}}} {
		slotsHave(t, fmt.Sprint(l), l, wordOf(noPairs))
	}
}

// TestOneSlot has values with and without a head, whose bytes stand in the leaf as rlp.Pack of them.
func TestOneSlot(t *testing.T) {
	for _, c := range []struct {
		value api.Word
		text  string
	}{
		{low(1), "01"},
		{low(127), "7f"},
		{low(128), "8180"},
		{low(255), "81ff"},
		{wordOf("0100"), "820100"},
		{api.Word{1}, "a001" + strings.Repeat("00", 31)},
		{highest, "a0" + strings.Repeat("ff", 32)},
	} {
		for _, key := range []api.Word{{}, low(1), {1}, highest} {
			l := []api.Slot{{Key: key, Value: c.value}}
			slotsHave(t, c.text, l, oneLeaf(key[:], unhex(c.text)))
		}
	}
}

func TestManySlots(t *testing.T) {
	r := noise(5)
	for range 200 {
		l := r.slots(r.below(60))
		want := refSlots(t, l)
		slotsHave(t, fmt.Sprintf("%d slots", len(l)), l, want)
		shuffle(&r, l)
		slotsHave(t, fmt.Sprintf("%d slots in another order", len(l)), l, want)
		full := slices.DeleteFunc(slices.Clone(l), func(s api.Slot) bool { return s.Value == api.Word{} })
		slotsHave(t, fmt.Sprintf("%d slots, none of the value 0", len(full)), full, want)
	}
}

// numbered has so many slots with different keys and the value 1.
func numbered(count int) []api.Slot {
	l := make([]api.Slot, count)
	for i := range l {
		l[i] = api.Slot{Key: api.Word{29: byte(i >> 16), 30: byte(i >> 8), 31: byte(i)}, Value: low(1)}
	}
	return l
}

// slotsFail demands this error of Slots.
func slotsFail(t *testing.T, name string, l []api.Slot, want api.Errno) {
	t.Helper()
	if got, err := acct.Slots(l); err != want || got != (api.Word{}) {
		t.Errorf("P902 Slots of %s: %x, error %d, not %d", name, got, err, want)
	}
}

// twices has slots in which a key occurs twice.
func twices() map[string][]api.Slot {
	one, other, zero := api.Slot{Key: low(1), Value: low(5)}, api.Slot{Key: low(1), Value: low(6)}, api.Slot{Key: low(1)}
	between := api.Slot{Key: low(2), Value: low(5)}
	return map[string][]api.Slot{
		"a slot twice":                              {one, one},
		"a key with two values":                     {one, other},
		"a key with a value and 0":                  {one, zero},
		"a key with 0 and a value":                  {zero, one},
		"a key with 0 twice":                        {zero, zero},
		"a key twice, with another between":         {one, between, other},
		"a key twice with 0, with another between":  {zero, between, zero},
		"a key twice behind others":                 append(numbered(100), api.Slot{Key: low(77), Value: low(1)}),
		"the key 0 twice":                           {{}, {}},
		"a key three times":                         {one, one, one},
		"the highest key twice, with values beside": {{Key: highest, Value: low(1)}, one, {Key: highest}},
	}
}

func TestSlotsErrors(t *testing.T) {
	for name, l := range twices() {
		slotsFail(t, name, l, api.ErrArg)
		slices.Reverse(l)
		slotsFail(t, name+", in another order", l, api.ErrArg)
	}
	many := numbered(100_001)
	slotsFail(t, "100,001 slots", many, api.ErrLong)
	slotsFail(t, "100,001 slots, one of them twice", append(slices.Clone(many), many[7]), api.ErrArg)
	slotsFail(t, "100,001 slots and a key twice with 0", append(slices.Clone(many), api.Slot{Key: highest}, api.Slot{Key: highest}), api.ErrArg)

	most := slices.Clone(many)
	most[50_000].Value = api.Word{}
	slotsHave(t, "100,000 slots and one with the value 0", most, refSlots(t, most))
	for i := range many {
		many[i].Value = api.Word{}
	}
	slotsHave(t, "100,001 slots with the value 0", many, wordOf(noPairs))
}

// TestOneAccount has accounts whose bytes are written out.
func TestOneAccount(t *testing.T) {
	slot := []api.Slot{{Key: low(1), Value: low(128)}}
	slotRoot := oneLeaf(slot[0].Key[:], []byte{129, 128})
	code := []byte{0x60, 0, 0x35}
	abc := "4e03657aea45a94fc7d47ba826c8d667c0d1e6e33a64a036ec44f58fa12d6c45"
	for _, c := range []struct {
		name    string
		account api.Account
		text    string
	}{
		{"an empty account", api.Account{}, "f844 80 80 a0" + noPairs + "a0" + noBytes},
		{"an account with a nonce", api.Account{Nonce: 1}, "f844 01 80 a0" + noPairs + "a0" + noBytes},
		{"an account with a balance", api.Account{Balance: wordOf("05f446a7")}, "f848 80 8405f446a7 a0" + noPairs + "a0" + noBytes},
		{"an account with a code", api.Account{Code: []byte("abc")}, "f844 80 80 a0" + noPairs + "a0" + abc},
		{"an account with a slot", api.Account{Slots: slot}, fmt.Sprintf("f844 80 80 a0 %x a0", slotRoot) + noBytes},
		{"an account with a slot of the value 0", api.Account{Slots: []api.Slot{{Key: low(3)}}}, "f844 80 80 a0" + noPairs + "a0" + noBytes},
		{"an account with all", api.Account{Nonce: 256, Balance: low(200), Code: code, Slots: slot}, fmt.Sprintf("f847 820100 81c8 a0 %x a0 %x", slotRoot, keccak.Sum(code))},
		{"an account with the highest nonce", api.Account{Nonce: math.MaxInt}, "f84c 887fffffffffffffff 80 a0" + noPairs + "a0" + noBytes},
	} {
		for _, addr := range []api.Addr{{}, at(1), {1}, {19: 255}} {
			c.account.Addr = addr
			rootIs(t, c.name, []api.Account{c.account}, oneLeaf(addr[:], unhex(strings.ReplaceAll(c.text, " ", ""))))
		}
	}
}

// TestKnownRoots has accounts whose roots are known from elsewhere.
func TestKnownRoots(t *testing.T) {
	rootIs(t, "no accounts", nil, wordOf(noPairs))
	rootIs(t, "an empty list", []api.Account{}, wordOf(noPairs))
	rootIs(t, "an account with a slot",
		[]api.Account{{Addr: api.Addr{1}, Balance: low(1), Slots: []api.Slot{{Key: api.Word{1}, Value: api.Word{1}}}}},
		wordOf("8257aee1cdaa2c42ae5dfad636710ee73437466b7504770feb19d63e2be3c913"))
	var l []api.Account
	for i := range 256 {
		l = append(l, api.Account{Addr: at(i), Balance: low(1)})
	}
	rootIs(t, "257 accounts",
		append(slices.Clone(l), api.Account{Addr: addrOf("31b98d14007bdee637298086988a0bbd31184523"), Balance: wordOf("0200000000000000000000000000000000000000000000000000000000000000")}),
		wordOf("53580584816f617295ea26c0e17641e0120cab2f0a8ffb53a866fd53aa8e8c2d"))
	rootIs(t, "260 accounts",
		append(slices.Clone(l),
			api.Account{Addr: addrOf("4c2ae482593505f0163cdefc073e81c63cda4107"), Balance: wordOf("152d02c7e14af6800000")},
			api.Account{Addr: addrOf("a8e8f14732658e4b51e8711931053a8a69baf2b1"), Balance: wordOf("152d02c7e14af6800000")},
			api.Account{Addr: addrOf("d9a5179f091d85051d3c982785efd1455cec8699"), Balance: wordOf("84595161401484a000000")},
			api.Account{Addr: addrOf("e0a2bd4258d2768837baa26a28fe71dc079f84c7"), Balance: wordOf("4a47e3c12448f4ad000000")}),
		wordOf("5d6cded585e73c4e322c30c2f782a336316f17dd85a4863b9d838d2d4b8b3008"))
}

func TestManyAccounts(t *testing.T) {
	r := noise(6)
	for range 100 {
		l := r.accounts(r.below(40))
		want := refAccounts(t, l)
		rootIs(t, fmt.Sprintf("%d accounts", len(l)), l, want)
		shuffle(&r, l)
		for _, a := range l {
			shuffle(&r, a.Slots)
		}
		rootIs(t, fmt.Sprintf("%d accounts in another order", len(l)), l, want)
	}
}

// TestRootDiffers demands another root for each change of an account.
func TestRootDiffers(t *testing.T) {
	base := api.Account{Addr: at(1), Nonce: 1, Balance: low(1), Code: []byte{1}, Slots: []api.Slot{{Key: low(1), Value: low(1)}}}
	known := map[api.Word]int{}
	for i, change := range []func(a *api.Account){
		func(a *api.Account) {},
		func(a *api.Account) { a.Addr = at(2) },
		func(a *api.Account) { a.Nonce = 2 },
		func(a *api.Account) { a.Balance = low(2) },
		func(a *api.Account) { a.Code = []byte{2} },
		func(a *api.Account) { a.Code = []byte{1, 0} },
		func(a *api.Account) { a.Code = nil },
		func(a *api.Account) { a.Slots = []api.Slot{{Key: low(2), Value: low(1)}} },
		func(a *api.Account) { a.Slots = []api.Slot{{Key: low(1), Value: low(2)}} },
		func(a *api.Account) { a.Slots = nil },
	} {
		a := base
		change(&a)
		root, err := acct.Root([]api.Account{a})
		if other, there := known[root]; there || err != api.OK {
			t.Errorf("P902 Root after the change %d: that of %d, error %d", i, other, err)
		}
		known[root] = i
	}
}

// TestLongCode has a code that no account in canonical form has: Root does not mind.
func TestLongCode(t *testing.T) {
	l := []api.Account{{Addr: at(1), Code: make([]byte, api.MaxCode+1)}, {Addr: at(2), Code: make([]byte, 1<<21)}}
	rootIs(t, "accounts with long codes", l, refAccounts(t, l))
}

// rootFails demands this error of Root.
func rootFails(t *testing.T, name string, l []api.Account, want api.Errno) {
	t.Helper()
	if got, err := acct.Root(l); err != want || got != (api.Word{}) {
		t.Errorf("P902 Root of %s: %x, error %d, not %d", name, got, err, want)
	}
}

// plain has so many accounts with different addresses.
func plain(count int) []api.Account {
	l := make([]api.Account, count)
	for i := range l {
		l[i] = api.Account{Addr: api.Addr{17: byte(i >> 16), 18: byte(i >> 8), 19: byte(i)}, Nonce: 1}
	}
	return l
}

func TestRootErrors(t *testing.T) {
	one := api.Account{Addr: at(1), Nonce: 1}
	other := api.Account{Addr: at(1), Balance: low(3)}
	between := api.Account{Addr: at(2), Nonce: 1}
	for name, l := range map[string][]api.Account{
		"two equal accounts":                             {one, one},
		"two accounts of an address":                     {one, other},
		"two empty accounts of an address":               {{}, {}},
		"an address twice, one between":                  {one, between, other},
		"the nonce -1":                                   {{Nonce: -1}},
		"the lowest nonce":                               {{Nonce: math.MinInt}},
		"a negative nonce behind others":                 append(plain(50), api.Account{Addr: api.Addr{1}, Nonce: -1}),
		"a negative nonce ahead of others":               {{Addr: at(9), Nonce: -1, Balance: low(1)}, one, between},
		"too many slots":                                 {{Addr: at(9), Slots: numbered(100_001)}, one},
		"too many slots and 100,001 of them":             append(plain(100_001), api.Account{Addr: api.Addr{1}, Slots: numbered(100_001)}),
		"100,001 accounts, one of them twice":            append(plain(100_001), plain(1)...),
		"100,001 accounts and one with a negative nonce": append(plain(100_001), api.Account{Addr: api.Addr{1}, Nonce: -1}),
		"100,001 accounts and one with a key twice":      append(plain(100_001), api.Account{Addr: api.Addr{1}, Slots: []api.Slot{{}, {}}}),
	} {
		rootFails(t, name, l, api.ErrArg)
	}
	for name, l := range twices() {
		rootFails(t, "slots with "+name, []api.Account{{Addr: at(9), Nonce: 1, Slots: l}}, api.ErrArg)
		rootFails(t, "slots with "+name+", behind others", []api.Account{one, between, {Addr: at(9), Nonce: 1, Slots: l}}, api.ErrArg)
	}
	rootFails(t, "100,001 accounts", plain(100_001), api.ErrLong)
	rootIs(t, "100,000 accounts", plain(100_000), refAccounts(t, plain(100_000)))

	same := []api.Account{{Addr: at(1), Slots: numbered(3)}, {Addr: at(2), Slots: numbered(3)}}
	rootIs(t, "two accounts with the same keys", same, refAccounts(t, same))
}

// spacious is a copy of b with something in its spare capacity.
func spacious[E any](l []E, spare E) []E {
	room := append(slices.Clone(l), spare, spare)
	return room[:len(l)]
}

// spaciousAccounts is a copy of l with something in all spare capacities.
func spaciousAccounts(l []api.Account) []api.Account {
	var all []api.Account
	for _, a := range l {
		a.Code = spacious(a.Code, 77)
		a.Slots = spacious(a.Slots, api.Slot{Key: low(77), Value: low(77)})
		all = append(all, a)
	}
	return spacious(all, api.Account{Addr: at(77), Nonce: 77})
}

// whole is all that l holds, with the spare capacities.
func whole(l []api.Account) string {
	var text strings.Builder
	for _, a := range l[:cap(l)] {
		fmt.Fprintln(&text, a, a.Code[:cap(a.Code)], a.Slots[:cap(a.Slots)])
	}
	return text.String()
}

// TestArguments demands that what is given stays as it is, in its order, with the spare capacity, and that each call answers the same and memory of its own.
func TestArguments(t *testing.T) {
	r := noise(7)
	for round := range 40 {
		l := r.accounts(r.below(20))
		shuffle(&r, l)
		if round%4 == 3 && len(l) > 0 {
			l = append(l, l[0])
		}
		arg := spaciousAccounts(l)
		before := whole(arg)
		root, err := acct.Root(arg)
		may := acct.May(arg)
		if again, sameErr := acct.Root(arg); again != root || sameErr != err || acct.May(arg) != may {
			t.Fatalf("P904 another answer of a second call")
		}
		for _, a := range arg {
			slotsRoot, slotsErr := acct.Slots(a.Slots)
			if again, sameErr := acct.Slots(a.Slots); again != slotsRoot || sameErr != slotsErr {
				t.Fatalf("P904 another answer of a second call of Slots")
			}
		}
		if whole(arg) != before {
			t.Fatalf("P904 Root, May or Slots changes its arguments: %s, not %s", whole(arg), before)
		}
	}
}

func TestBodyArguments(t *testing.T) {
	r := noise(8)
	for range 100 {
		body := r.body()
		b, _ := acct.Pack(body)
		again, _ := acct.Pack(body)
		arg := spacious(b, 77)
		before := slices.Clone(arg[:cap(arg)])
		got, err := acct.Read(arg)
		if !bytes.Equal(arg[:cap(arg)], before) {
			t.Fatalf("P904 Read changes its argument: %x, not %x", arg[:cap(arg)], before)
		}
		clear(arg)
		clear(b[:cap(b)])
		if err != api.OK || got != body || !bytes.Equal(again, refPack(body)) {
			t.Fatalf("P904 results share memory")
		}
	}
}

// TestTogether calls everything from many goroutines at once, with the same arguments for all.
func TestTogether(t *testing.T) {
	r := noise(9)
	l, slots, body := r.accounts(30), r.slots(30), r.body()
	root, slotsRoot, packed := refAccounts(t, l), refSlots(t, slots), refPack(body)
	var all sync.WaitGroup
	for range 8 {
		all.Go(func() {
			for range 20 {
				gotRoot, _ := acct.Root(l)
				gotSlots, _ := acct.Slots(slots)
				gotPacked, _ := acct.Pack(body)
				gotBody, _ := acct.Read(packed)
				if gotRoot != root || gotSlots != slotsRoot || !bytes.Equal(gotPacked, packed) || gotBody != body {
					t.Error("P904 a call beside others")
				}
			}
		})
	}
	all.Wait()
}

func BenchmarkRoot(b *testing.B) {
	l := plain(10_000)
	for b.Loop() {
		acct.Root(l)
	}
}
