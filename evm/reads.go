package evm

import (
	"muniments/api"
	"muniments/keccak"
	"muniments/word"
)

// Gas for each word of an area, beside that for the memory.
const (
	copyWordGas = 3
	hashWordGas = 6
)

// The instructions that ask for accounts, the context, the message and codes.

func (f *frame) address(in []api.Word)     { f.push(wordOf(f.self)) }
func (f *frame) balance(in []api.Word)     { f.push(f.state.Balance(account(in[0]))) }
func (f *frame) selfBalance(in []api.Word) { f.push(f.state.Balance(f.self)) }
func (f *frame) pushCaller(in []api.Word)  { f.push(wordOf(f.caller)) }
func (f *frame) callValue(in []api.Word)   { f.push(f.value) }

func (f *frame) origin(in []api.Word)    { f.push(wordOf(f.context.Origin)) }
func (f *frame) coinbase(in []api.Word)  { f.push(wordOf(f.context.Coinbase)) }
func (f *frame) timestamp(in []api.Word) { f.push(word.Of(f.context.Time)) }
func (f *frame) number(in []api.Word)    { f.push(word.Of(f.context.Number)) }
func (f *frame) gasLimit(in []api.Word)  { f.push(word.Of(f.context.GasLimit)) }
func (f *frame) chainID(in []api.Word)   { f.push(word.Of(api.Chain)) }

func (f *frame) callDataSize(in []api.Word)   { f.push(word.Of(len(f.data))) }
func (f *frame) codeSize(in []api.Word)       { f.push(word.Of(len(f.code))) }
func (f *frame) returnDataSize(in []api.Word) { f.push(word.Of(len(f.returned))) }
func (f *frame) extCodeSize(in []api.Word)    { f.push(word.Of(len(f.state.Code(account(in[0]))))) }

func (f *frame) extCodeHash(in []api.Word) {
	a := account(in[0])
	if !f.state.Exists(a) {
		f.push(api.Word{})
		return
	}
	f.push(keccak.Sum(f.state.Code(a)))
}

func (f *frame) keccak256(in []api.Word) { f.push(keccak.Sum(f.read(in[0], in[1]))) }

func (f *frame) priceKeccak256(in []api.Word) int { return f.growWords(in[0], in[1], hashWordGas) }

func (f *frame) callDataLoad(in []api.Word) { f.push(api.Word(cut(f.data, in[0], len(api.Word{})))) }

func (f *frame) callDataCopy(in []api.Word) { f.place(f.data, in) }
func (f *frame) codeCopy(in []api.Word)     { f.place(f.code, in) }

func (f *frame) extCodeCopy(in []api.Word) { f.place(f.state.Code(account(in[0])), in[1:]) }

func (f *frame) returnDataCopy(in []api.Word) {
	from, ok := word.Int(in[1])
	// The sum of both might be no int.
	if !ok || from > len(f.returned)-small(in[2]) {
		fail(api.ErrData)
	}
	f.place(f.returned, in)
}

// place copies a part of b into the memory. The operands are to, from and n.
func (f *frame) place(b []byte, in []api.Word) {
	f.write(in[0], cut(b, in[1], small(in[2])))
}

func (f *frame) priceCopy(in []api.Word) int { return f.growWords(in[0], in[2], copyWordGas) }

func (f *frame) priceExtCodeCopy(in []api.Word) int { return f.priceCopy(in[1:]) }

// cut returns a copy of n bytes of b from the index at on, which are 0 beyond the end of b.
func cut(b []byte, at api.Word, n int) []byte {
	part := make([]byte, n)
	if from, ok := word.Int(at); ok && from < len(b) {
		copy(part, b[from:])
	}
	return part
}
