package evm

import (
	"slices"

	"muniments/api"
	"muniments/gas"
	"muniments/state"
	"muniments/word"
)

// The instructions that work on the stack, the memory and the storage, and those that tell something.

func (f *frame) pop(in []api.Word)   {}
func (f *frame) push0(in []api.Word) { f.push(api.Word{}) }

// pushBytes pushes the bytes that belong to a PUSH, and goes on behind them.
func (f *frame) pushBytes(in []api.Word) {
	n := int(f.op-push1) + 1
	b := cut(f.code, word.Of(f.next), n)
	f.next += n
	var w api.Word
	copy(w[len(w)-n:], b)
	f.push(w)
}

func (f *frame) dup(in []api.Word)  { f.stack.Dup(int(f.op-dup1) + 1) }
func (f *frame) swap(in []api.Word) { f.stack.Swap(int(f.op-swap1) + 1) }

func (f *frame) mload(in []api.Word)   { f.push(api.Word(f.memory.Get(small(in[0]), len(api.Word{})))) }
func (f *frame) mstore(in []api.Word)  { f.write(in[0], in[1][:]) }
func (f *frame) mstore8(in []api.Word) { f.write(in[0], in[1][len(in[1])-1:]) }
func (f *frame) msize(in []api.Word)   { f.push(word.Of(f.memory.Size())) }

func (f *frame) priceWord(in []api.Word) int { return f.grow(in[0], word.Of(len(api.Word{}))) }
func (f *frame) priceByte(in []api.Word) int { return f.grow(in[0], word.Of(1)) }
func (f *frame) priceArea(in []api.Word) int { return f.grow(in[0], in[1]) }

func (f *frame) sload(in []api.Word) { f.push(f.state.Slot(f.self, in[0])) }

func (f *frame) sstore(in []api.Word) {
	f.change(func(s *state.State) { s.SetSlot(f.self, in[0], in[1]) })
}

func (f *frame) priceStore(in []api.Word) int {
	return gas.Store(f.state.Slot(f.self, in[0]), in[1])
}

func (f *frame) log(in []api.Word) {
	f.logs = append(f.logs, api.Log{Addr: f.self, Topics: slices.Clone(in[2:]), Data: f.read(in[0], in[1])})
}

func (f *frame) priceLog(in []api.Word) int {
	return f.grow(in[0], in[1]) + gas.Log(len(in)-2, small(in[1]))
}
