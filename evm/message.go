package evm

import (
	"slices"

	"muniments/api"
	"muniments/state"
	"muniments/word"
)

// mostNonce is the nonce from which on an account makes no others.
const mostNonce = 1 << 62

// machine is what a message and all messages within it share.
type machine struct {
	state   *state.State
	context api.Context
	table   [256]instruction
	changes []func(*state.State) // what has changed the state since the start and was not undone, the first change first
}

// point is a moment to which a machine can go back.
type point struct{ mark, changes int }

func (v *machine) mark() point {
	return point{v.state.Mark(), len(v.changes)}
}

// change changes the state, until the machine goes back.
func (v *machine) change(f func(*state.State)) {
	f(v.state)
	v.changes = append(v.changes, f)
}

// back undoes all changes since p.
func (v *machine) back(p point) {
	v.state.Back(p.mark)
	v.changes = slices.Delete(v.changes, p.changes, len(v.changes))
}

// settle takes the records away that the machine has made since its start, but no change. A state gives up a record only together with what was changed since, so the changes are made once more.
func (v *machine) settle(start point) {
	v.state.Back(start.mark)
	for _, f := range v.changes {
		f(v.state)
	}
}

// move moves w of a balance, and reports whether it could.
func (v *machine) move(from, to api.Addr, w api.Word) bool {
	var moved bool
	v.change(func(s *state.State) { moved = s.Move(from, to, w) })
	return moved
}

// perform carries out m.
func (v *machine) perform(m api.Message) api.Outcome {
	m.Gas = max(m.Gas, 0)
	if err := v.refuse(m); err != api.OK {
		return api.Outcome{Gas: m.Gas, Err: err}
	}
	if creates(m.Kind) {
		return v.performCreate(m)
	}
	return v.performCall(m)
}

func creates(kind int) bool {
	return kind == api.KCreate || kind == api.KCreate2
}

// refuse returns the error with which m fails before anything is done, or OK.
func (v *machine) refuse(m api.Message) api.Errno {
	switch {
	case m.Kind < api.KCall || m.Kind > api.KCreate2:
		return api.ErrArg
	case m.Depth > api.MaxCalls:
		return api.ErrDepth
	case (m.Kind == api.KCall || creates(m.Kind)) && word.Cmp(v.state.Balance(m.From), m.Value) < 0:
		return api.ErrFunds
	case creates(m.Kind) && v.state.Nonce(m.From) >= mostNonce:
		return api.ErrNonce
	}
	return api.OK
}

// performCall carries out a message that executes the code of an account.
func (v *machine) performCall(m api.Message) api.Outcome {
	start := v.mark()
	f := v.begin(m)
	code := m.To
	switch m.Kind {
	case api.KCall:
		if !v.move(m.From, m.To, m.Value) {
			v.back(start)
			return api.Outcome{Gas: m.Gas, Err: api.ErrFunds}
		}
	case api.KStatic:
		f.static = true
		f.value = api.Word{}
	case api.KDelegate:
		code = m.Code
	}
	f.code = v.state.Code(code)
	return v.execute(f, start)
}

// performCreate carries out a message that makes an account.
func (v *machine) performCreate(m api.Message) api.Outcome {
	m.To = v.claim(m)
	if v.state.Nonce(m.To) != 0 || len(v.state.Code(m.To)) > 0 {
		return api.Outcome{Err: api.ErrClash}
	}
	start := v.mark()
	v.change(func(s *state.State) { s.SetNonce(m.To, 1) })
	if !v.move(m.From, m.To, m.Value) {
		v.back(start)
		return api.Outcome{Gas: m.Gas, Err: api.ErrFunds}
	}
	f := v.begin(m)
	f.code, f.data = m.Data, nil
	f.creates = true
	outcome := v.execute(f, start)
	if outcome.Err == api.OK {
		outcome.Addr = m.To
	}
	return outcome
}

// claim increments the nonce of the account that sends m, for good, and returns the address that m makes.
func (v *machine) claim(m api.Message) api.Addr {
	nonce := v.state.Nonce(m.From)
	v.change(func(s *state.State) { s.SetNonce(m.From, nonce+1) })
	if m.Kind == api.KCreate2 {
		return Address2(m.From, m.Salt, m.Data)
	}
	return Address(m.From, nonce)
}

// execute executes the code of f. If it ends with an error, the state is again as it was at start.
func (v *machine) execute(f *frame, start point) api.Outcome {
	switch err := f.run(); err {
	case api.OK:
		return api.Outcome{Gas: f.gas, Out: f.out, Logs: f.logs}
	case api.ErrRevert:
		v.back(start)
		return api.Outcome{Gas: f.gas, Err: err, Out: f.out}
	default:
		v.back(start)
		return api.Outcome{Err: err}
	}
}
