package evm

import (
	"slices"

	"muniments/api"
	"muniments/ops"
	"muniments/state"
	"muniments/word"
)

// The instructions that ask how far a code is, and those that say how it goes on.

func (f *frame) pc(in []api.Word)       { f.push(word.Of(f.at)) }
func (f *frame) pushGas(in []api.Word)  { f.push(word.Of(f.gas)) }
func (f *frame) jumpDest(in []api.Word) {}

func (f *frame) jump(in []api.Word) {
	if f.jumps == nil {
		f.jumps = ops.Jumps(f.code)
	}
	to, ok := word.Int(in[0])
	if _, found := slices.BinarySearch(f.jumps, to); !ok || !found {
		fail(api.ErrJump)
	}
	f.next = to
}

func (f *frame) jumpIf(in []api.Word) {
	if in[1] != (api.Word{}) {
		f.jump(in)
	}
}

func (f *frame) stop(in []api.Word) { f.ended = true }

func (f *frame) ret(in []api.Word) {
	f.out = f.read(in[0], in[1])
	f.ended = true
}

func (f *frame) revert(in []api.Word) {
	f.out = f.read(in[0], in[1])
	fail(api.ErrRevert)
}

func (f *frame) selfDestruct(in []api.Word) {
	to := account(in[0])
	f.change(func(s *state.State) {
		if to != f.self {
			s.Move(f.self, to, s.Balance(f.self))
		}
		s.Kill(f.self)
	})
	f.ended = true
}
