package evm

import (
	"muniments/api"
	"muniments/gas"
	"muniments/word"
)

// The instructions that compute with words.

func (f *frame) add(in []api.Word)        { f.push(word.Add(in[0], in[1])) }
func (f *frame) mul(in []api.Word)        { f.push(word.Mul(in[0], in[1])) }
func (f *frame) sub(in []api.Word)        { f.push(word.Sub(in[0], in[1])) }
func (f *frame) div(in []api.Word)        { f.push(word.Div(in[0], in[1])) }
func (f *frame) sdiv(in []api.Word)       { f.push(word.SDiv(in[0], in[1])) }
func (f *frame) mod(in []api.Word)        { f.push(word.Mod(in[0], in[1])) }
func (f *frame) smod(in []api.Word)       { f.push(word.SMod(in[0], in[1])) }
func (f *frame) addMod(in []api.Word)     { f.push(word.AddMod(in[0], in[1], in[2])) }
func (f *frame) mulMod(in []api.Word)     { f.push(word.MulMod(in[0], in[1], in[2])) }
func (f *frame) exp(in []api.Word)        { f.push(word.Exp(in[0], in[1])) }
func (f *frame) signExtend(in []api.Word) { f.push(word.Extend(in[0], in[1])) }

func (f *frame) lt(in []api.Word)     { f.pushIf(word.Cmp(in[0], in[1]) < 0) }
func (f *frame) gt(in []api.Word)     { f.pushIf(word.Cmp(in[0], in[1]) > 0) }
func (f *frame) slt(in []api.Word)    { f.pushIf(word.SCmp(in[0], in[1]) < 0) }
func (f *frame) sgt(in []api.Word)    { f.pushIf(word.SCmp(in[0], in[1]) > 0) }
func (f *frame) eq(in []api.Word)     { f.pushIf(in[0] == in[1]) }
func (f *frame) isZero(in []api.Word) { f.pushIf(in[0] == api.Word{}) }

func (f *frame) and(in []api.Word)    { f.push(word.And(in[0], in[1])) }
func (f *frame) or(in []api.Word)     { f.push(word.Or(in[0], in[1])) }
func (f *frame) xor(in []api.Word)    { f.push(word.Xor(in[0], in[1])) }
func (f *frame) not(in []api.Word)    { f.push(word.Not(in[0])) }
func (f *frame) byteOf(in []api.Word) { f.push(word.Byte(in[0], in[1])) }
func (f *frame) shl(in []api.Word)    { f.push(word.Shl(in[0], in[1])) }
func (f *frame) shr(in []api.Word)    { f.push(word.Shr(in[0], in[1])) }
func (f *frame) sar(in []api.Word)    { f.push(word.Sar(in[0], in[1])) }

func (f *frame) priceExp(in []api.Word) int { return gas.Exp(in[1]) }
