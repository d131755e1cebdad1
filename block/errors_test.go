package block_test

import (
	"math"
	"slices"
	"testing"

	"muniments/api"
)

// job is what Execute or Seal is given.
type job struct {
	l         []api.Account
	parent, b api.Block
}

// fault is a way to an error. Two faults that change the same thing can't be held against each other.
type fault struct {
	name, what string
	spoil      func(j *job)
}

// base is a job without a fault: two transactions of alice and one of bob.
func base(t *testing.T) job {
	t.Helper()
	j := job{l: rich(), parent: someParent(), b: next(send(4), send(5), api.Tx{Price: 1, Gas: 60_000, From: bob, Make: true, Data: prog(0, 0, "RETURN")})}
	j.b = sealed(t, "the base", j.l, j.parent, j.b)
	return j
}

// argFaults has the ways to ErrArg that Execute and Seal share.
func argFaults() []fault {
	return []fault{
		{"accounts in another order", "l", func(j *job) { slices.Reverse(j.l) }},
		{"an account twice", "l", func(j *job) { j.l = append(j.l, j.l[1]) }},
		{"an empty account", "l", func(j *job) { j.l = append(j.l, api.Account{Addr: code1}) }},
		{"a negative nonce", "l", func(j *job) { j.l = append(j.l, api.Account{Addr: code1, Nonce: -1}) }},
		{"a slot of the value 0", "l", func(j *job) { j.l = append(j.l, api.Account{Addr: code1, Nonce: 1, Slots: []api.Slot{{}}}) }},
		{"slots in another order", "l", func(j *job) {
			j.l = append(j.l, api.Account{Addr: code1, Slots: []api.Slot{{Key: of(2), Value: of(1)}, {Key: of(1), Value: of(1)}}})
		}},
		{"a code that is too long", "l", func(j *job) { j.l = append(j.l, api.Account{Addr: code1, Code: make([]byte, api.MaxCode+1)}) }},
		{"Time -1", "time", func(j *job) { j.b.Time = -1 }},
		{"GasLimit -1", "limit", func(j *job) { j.b.GasLimit = -1 }},
		{"a Nonce -1", "nonce", func(j *job) { j.b.Txs[2].Nonce = -1 }},
		{"a Price -1", "price", func(j *job) { j.b.Txs[0].Price = -1 }},
		{"a Gas -1", "gas", func(j *job) { j.b.Txs[1].Gas = -1 }},
		{"long data", "data", func(j *job) { j.b.Txs[2].Data = make([]byte, 1<<17) }},
		{"many transactions", "count", func(j *job) { j.b.Txs = append(j.b.Txs, make([]api.Tx, 3000)...) }},
	}
}

// txFaults has ways in which a transaction of each place can't be executed.
func txFaults(i int) []fault {
	place := string(rune('0' + i))
	return []fault{
		{"more Gas than the limit, of " + place, "gas", func(j *job) { j.b.Txs[i].Gas = 30_000_001 - 21_000*i }},
		{"a Price of 2^31, of " + place, "price", func(j *job) { j.b.Txs[i].Price = 1 << 31 }},
		{"another Nonce, of " + place, "nonce", func(j *job) { j.b.Txs[i].Nonce += 3 }},
		{"a Gas of 20999, of " + place, "gas", func(j *job) { j.b.Txs[i].Gas = 20_999 }},
		{"a Value that isn't there, of " + place, "value", func(j *job) { j.b.Txs[i].Value = highest }},
	}
}

// faults has, for each error in its order, ways to it. Each of those of a transaction has an error of its own.
func faults() ([][]fault, []api.Errno) {
	l := [][]fault{
		append(argFaults(), fault{"Number -1", "number", func(j *job) { j.b.Number = -1 }}, fault{"GasUsed -1", "used", func(j *job) { j.b.GasUsed = -1 }}),
		{
			{"a lower Number", "number", func(j *job) { j.b.Number-- }}, {"a higher Number", "number", func(j *job) { j.b.Number++ }}, {"another parent", "parent", func(j *job) { j.parent.Number = math.MaxInt }},
			{"the parent's Time", "time", func(j *job) { j.b.Time = j.parent.Time }}, {"an earlier Time", "time", func(j *job) { j.b.Time = 0 }},
		},
		{{"GasLimit 2^31", "limit", func(j *job) { j.b.GasLimit = 1 << 31 }}, {"the greatest GasLimit", "limit", func(j *job) { j.b.GasLimit = math.MaxInt }}},
	}
	errs := []api.Errno{api.ErrArg, api.ErrNumber, api.ErrLimit}
	for i := range 3 {
		for k, f := range txFaults(i) {
			l = append(l, []fault{f})
			errs = append(errs, []api.Errno{api.ErrLimit, api.ErrArg, api.ErrNonce, api.ErrGas, api.ErrFunds}[k])
		}
	}
	l = append(l,
		[]fault{{"another GasUsed", "used", func(j *job) { j.b.GasUsed++ }}, {"GasUsed 0", "used", func(j *job) { j.b.GasUsed = 0 }}},
		[]fault{{"another Root", "root", func(j *job) { j.b.Root[31]++ }}, {"Root 0", "root", func(j *job) { j.b.Root = api.Word{} }}},
	)
	return l, append(errs, api.ErrUsed, api.ErrRoot)
}

// TestErrors has each way to each error, and each pair of ways to two errors: the first one in the chapter's order is returned, by Execute and by Seal.
func TestErrors(t *testing.T) {
	l, errs := faults()
	for i, ways := range l {
		for _, first := range ways {
			j := base(t)
			first.spoil(&j)
			demand(t, first.name, j, errs[i], first.what)
			for _, later := range l[i+1:] {
				for _, second := range later {
					if first.what == second.what {
						continue
					}
					j := base(t)
					second.spoil(&j)
					first.spoil(&j)
					demand(t, first.name+" and "+second.name, j, errs[i], first.what)
				}
			}
		}
	}
}

// demand asks Execute for an error, and Seal too if it has a say in that.
func demand(t *testing.T, name string, j job, want api.Errno, what string) {
	t.Helper()
	refused(t, name, j.l, j.parent, j.b, want)
	if what != "number" && what != "parent" && what != "used" && what != "root" {
		unsealed(t, name, j.l, j.parent, j.b, want)
	}
}

// TestMay has accounts in canonical form that look as if they were not.
func TestMay(t *testing.T) {
	for _, l := range [][]api.Account{
		nil, {}, {{Nonce: 1}}, {{Nonce: math.MaxInt}}, {{Balance: of(1)}}, {{Code: []byte{0}}}, {{Slots: []api.Slot{{Value: of(1)}}}}, {{Slots: []api.Slot{{Key: of(0), Value: of(1)}, {Key: of(1), Value: highest}, {Key: highest, Value: of(1)}}}},
		{{Code: make([]byte, api.MaxCode)}}, {{Addr: api.Addr{0: 1}, Nonce: 1}, {Addr: api.Addr{0: 1, 19: 1}, Nonce: 1}, {Addr: api.Addr{0: 2}, Nonce: 1}},
	} {
		b := sealed(t, "accounts", l, someParent(), next())
		if after, _, err := execute(t, "accounts", l, someParent(), b); err != api.OK || !sameAccounts(after, l) {
			t.Errorf("P1702 Execute on %s: %s, error %d", show(l), show(after), err)
		}
	}
}
