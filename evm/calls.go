package evm

import (
	"muniments/api"
	"muniments/gas"
	"muniments/word"
)

// stipend is the gas that a message with a value gets beside what is paid for it.
const stipend = 2300

// The instructions that execute messages, and so other codes.

func (f *frame) call(in []api.Word) {
	m := api.Message{Kind: api.KCall, From: f.self, To: account(in[1]), Value: in[2], Data: f.read(in[3], in[4]), Gas: f.allot(in[0])}
	if m.Value != (api.Word{}) {
		m.Gas += stipend
	}
	f.ask(m, in[5:])
}

func (f *frame) delegateCall(in []api.Word) {
	f.ask(api.Message{Kind: api.KDelegate, From: f.caller, To: f.self, Code: account(in[1]), Value: f.value, Data: f.read(in[2], in[3]), Gas: f.allot(in[0])}, in[4:])
}

func (f *frame) staticCall(in []api.Word) {
	f.ask(api.Message{Kind: api.KStatic, From: f.self, To: account(in[1]), Data: f.read(in[2], in[3]), Gas: f.allot(in[0])}, in[4:])
}

func (f *frame) priceCall(in []api.Word) int {
	value, there := in[2] != api.Word{}, f.state.Exists(account(in[1]))
	return f.priceOtherCall(in[1:]) + gas.Call(value, there)
}

// priceOtherCall is the price of a call without a value, whose areas are the operands from the third one on.
func (f *frame) priceOtherCall(in []api.Word) int {
	return f.grow(in[2], in[3]) + f.grow(in[4], in[5])
}

// allot pays the gas for a message that asks for so much, and returns it.
func (f *frame) allot(asked api.Word) int {
	given := gas.Share(f.gas)
	if n, ok := word.Int(asked); ok {
		given = min(given, n)
	}
	f.pay(given)
	return given
}

// ask sends m, writes what it returns into the area of memory out, and pushes whether it ended without an error.
func (f *frame) ask(m api.Message, out []api.Word) {
	outcome := f.send(m)
	n := min(len(f.returned), small(out[1]))
	f.write(out[0], f.returned[:n])
	f.pushIf(outcome.Err == api.OK)
}

// send executes m within this code.
func (f *frame) send(m api.Message) api.Outcome {
	m.Depth, m.Static = f.depth+1, f.static
	outcome := f.perform(m)
	f.gas += outcome.Gas
	f.logs = append(f.logs, outcome.Logs...)
	f.returned = outcome.Out
	return outcome
}

func (f *frame) create(in []api.Word) {
	f.makeAccount(api.Message{Kind: api.KCreate}, in)
}

func (f *frame) create2(in []api.Word) {
	f.makeAccount(api.Message{Kind: api.KCreate2, Salt: in[3]}, in)
}

// makeAccount sends m, which makes an account by the operands value, at and n, and pushes this account.
func (f *frame) makeAccount(m api.Message, in []api.Word) {
	m.From, m.Value, m.Data = f.self, in[0], f.read(in[1], in[2])
	m.Gas = gas.Share(f.gas)
	f.pay(m.Gas)
	f.push(wordOf(f.send(m).Addr)) // 0 after an error
}

func (f *frame) priceCreate(in []api.Word) int { return f.grow(in[1], in[2]) }

func (f *frame) priceCreate2(in []api.Word) int { return f.growWords(in[1], in[2], hashWordGas) }
