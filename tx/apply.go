package tx

import (
	"muniments/api"
	"muniments/evm"
	"muniments/gas"
	"muniments/state"
	"muniments/word"
)

// Limits of what a transaction may have.
const (
	most      = 1<<31 - 1 // as Price, and as Gas: their product is an int
	mostNonce = 1 << 62   // is too much
)

// Apply executes t on s in the context c and returns its receipt.
func Apply(s *state.State, t api.Tx, c api.Context) (api.Receipt, api.Errno) {
	if s == nil {
		s = state.New(nil) // no state is like one without accounts
	}
	if err := refuse(s, t); err != api.OK {
		return api.Receipt{}, err
	}
	s.SetBalance(t.From, word.Sub(s.Balance(t.From), price(t)))
	if !t.Make {
		s.SetNonce(t.From, t.Nonce+1) // the message that makes an account does it itself
	}
	c.Origin = t.From
	o := evm.Run(s, message(t), c)
	used := t.Gas - o.Gas
	credit(s, t.From, o.Gas*t.Price)
	credit(s, c.Coinbase, used*t.Price)
	return api.Receipt{Err: o.Err, Used: used, Out: o.Out, Logs: o.Logs, Addr: o.Addr}, api.OK
}

// refuse returns the error for which t is not executed, or OK.
func refuse(s *state.State, t api.Tx) api.Errno {
	switch {
	case negative(t) || max(t.Price, t.Gas) > most:
		return api.ErrArg
	case t.Nonce != s.Nonce(t.From) || t.Nonce >= mostNonce:
		return api.ErrNonce
	case gas.Intrinsic(t) > t.Gas:
		return api.ErrGas
	case !affords(s.Balance(t.From), t):
		return api.ErrFunds
	}
	return api.OK
}

// price returns what all gas of t costs.
func price(t api.Tx) api.Word {
	return word.Of(t.Price * t.Gas)
}

// affords reports whether the balance is enough for all gas of t and for its value. It makes no sum of the two, which might be more than a word.
func affords(balance api.Word, t api.Tx) bool {
	return word.Cmp(balance, price(t)) >= 0 && word.Cmp(word.Sub(balance, price(t)), t.Value) >= 0
}

// message returns what t has the virtual machine execute.
func message(t api.Tx) api.Message {
	m := api.Message{Kind: api.KCall, From: t.From, To: t.To, Value: t.Value, Data: t.Data, Gas: t.Gas - gas.Intrinsic(t)}
	if t.Make {
		m.Kind = api.KCreate
	}
	return m
}

// credit adds n to a balance. What would be more than a word becomes the greatest one.
func credit(s *state.State, a api.Addr, n int) {
	more := word.Of(n)
	sum := word.Add(s.Balance(a), more)
	if word.Cmp(sum, more) < 0 {
		sum = word.Of(-1)
	}
	s.SetBalance(a, sum)
}
