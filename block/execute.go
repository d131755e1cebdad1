package block

import (
	"muniments/acct"
	"muniments/api"
	"muniments/state"
	"muniments/tx"
)

// mostGas is the greatest limit that a block may have.
const mostGas = 1<<31 - 1

// Execute executes b on the accounts l after its parent, and returns the accounts afterwards and the receipts.
func Execute(l []api.Account, parent, b api.Block) ([]api.Account, []api.Receipt, api.Errno) {
	if _, ok := ID(b); !ok || !acct.May(l) {
		return nil, nil, api.ErrArg
	}
	r, err := run(l, parent, b)
	switch {
	case err != api.OK:
		return nil, nil, err
	case b.GasUsed != r.used:
		return nil, nil, api.ErrUsed
	case b.Root != r.root:
		return nil, nil, api.ErrRoot
	}
	return r.accounts, r.receipts, api.OK
}

// Seal returns b as the block after parent that Execute accepts on the accounts l, and the accounts afterwards.
func Seal(l []api.Account, parent, b api.Block) (api.Block, []api.Account, api.Errno) {
	id, ok := ID(parent)
	b.Parent, b.GasUsed, b.Root = id, 0, api.Word{}
	b.Number = parent.Number + 1 // negative after the greatest one, so that b has no Pack
	raw, err := Pack(b)
	if !ok || err != api.OK || !acct.May(l) {
		return api.Block{}, nil, api.ErrArg
	}
	b, _ = Read(raw) // a copy, without To where an account is made
	r, err := run(l, parent, b)
	if err != api.OK {
		return api.Block{}, nil, err
	}
	b.GasUsed, b.Root = r.used, r.root
	return b, r.accounts, api.OK
}

// result is what the transactions of a block come to.
type result struct {
	accounts []api.Account
	receipts []api.Receipt
	used     int
	root     api.Word
}

// run executes b, which has an ID, on the accounts l. It does not ask what b says of the result.
func run(l []api.Account, parent, b api.Block) (result, api.Errno) {
	switch {
	case b.Number-1 != parent.Number || b.Time <= parent.Time:
		return result{}, api.ErrNumber
	case b.GasLimit > mostGas:
		return result{}, api.ErrLimit
	}
	var r result
	s := state.New(l)
	c := api.Context{Number: b.Number, Time: b.Time, GasLimit: b.GasLimit, Coinbase: b.Coinbase}
	for _, t := range b.Txs {
		if t.Gas > b.GasLimit-r.used {
			return result{}, api.ErrLimit
		}
		receipt, err := tx.Apply(s, t, c)
		if err != api.OK {
			return result{}, err
		}
		r.receipts = append(r.receipts, receipt)
		r.used += receipt.Used
	}
	r.accounts = s.Accounts()
	r.root, _ = acct.Root(r.accounts) // the word 0 where they are too many
	return r, api.OK
}
