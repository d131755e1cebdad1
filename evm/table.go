package evm

import "muniments/api"

// The instructions of which something beside the table speaks.
const (
	stop         = 0x00
	sstore       = 0x55
	push1        = 0x60
	push32       = 0x7f
	dup1         = 0x80
	dup16        = 0x8f
	swap1        = 0x90
	swap16       = 0x9f
	log0         = 0xa0
	log1         = 0xa1
	log2         = 0xa2
	log3         = 0xa3
	log4         = 0xa4
	create       = 0xf0
	call         = 0xf1
	create2      = 0xf5
	selfdestruct = 0xff
)

// instruction is how an instruction is done, with its operands. A byte that is no instruction has no do.
type instruction struct {
	do    func(f *frame, in []api.Word)
	price func(f *frame, in []api.Word) int // what it costs beside ops.Gas, if anything; the memory grows with it
}

// instructions returns the table of all instructions.
func instructions() [256]instruction {
	t := [256]instruction{
		stop: {do: (*frame).stop},
		0x01: {do: (*frame).add}, 0x02: {do: (*frame).mul}, 0x03: {do: (*frame).sub}, 0x04: {do: (*frame).div},
		0x05: {do: (*frame).sdiv}, 0x06: {do: (*frame).mod}, 0x07: {do: (*frame).smod},
		0x08: {do: (*frame).addMod}, 0x09: {do: (*frame).mulMod},
		0x0a: {(*frame).exp, (*frame).priceExp}, 0x0b: {do: (*frame).signExtend},

		0x10: {do: (*frame).lt}, 0x11: {do: (*frame).gt}, 0x12: {do: (*frame).slt}, 0x13: {do: (*frame).sgt},
		0x14: {do: (*frame).eq}, 0x15: {do: (*frame).isZero},
		0x16: {do: (*frame).and}, 0x17: {do: (*frame).or}, 0x18: {do: (*frame).xor}, 0x19: {do: (*frame).not},
		0x1a: {do: (*frame).byteOf}, 0x1b: {do: (*frame).shl}, 0x1c: {do: (*frame).shr}, 0x1d: {do: (*frame).sar},

		0x20: {(*frame).keccak256, (*frame).priceKeccak256},

		0x30: {do: (*frame).address}, 0x31: {do: (*frame).balance}, 0x32: {do: (*frame).origin},
		0x33: {do: (*frame).pushCaller}, 0x34: {do: (*frame).callValue}, 0x35: {do: (*frame).callDataLoad},
		0x36: {do: (*frame).callDataSize}, 0x37: {(*frame).callDataCopy, (*frame).priceCopy},
		0x38: {do: (*frame).codeSize}, 0x39: {(*frame).codeCopy, (*frame).priceCopy},
		0x3b: {do: (*frame).extCodeSize}, 0x3c: {(*frame).extCodeCopy, (*frame).priceExtCodeCopy},
		0x3d: {do: (*frame).returnDataSize}, 0x3e: {(*frame).returnDataCopy, (*frame).priceCopy},
		0x3f: {do: (*frame).extCodeHash},

		0x41: {do: (*frame).coinbase}, 0x42: {do: (*frame).timestamp}, 0x43: {do: (*frame).number},
		0x45: {do: (*frame).gasLimit}, 0x46: {do: (*frame).chainID}, 0x47: {do: (*frame).selfBalance},

		0x50: {do: (*frame).pop}, 0x51: {(*frame).mload, (*frame).priceWord},
		0x52: {(*frame).mstore, (*frame).priceWord}, 0x53: {(*frame).mstore8, (*frame).priceByte},
		0x54: {do: (*frame).sload}, sstore: {(*frame).sstore, (*frame).priceStore},
		0x56: {do: (*frame).jump}, 0x57: {do: (*frame).jumpIf}, 0x58: {do: (*frame).pc},
		0x59: {do: (*frame).msize}, 0x5a: {do: (*frame).pushGas}, 0x5b: {do: (*frame).jumpDest}, 0x5f: {do: (*frame).push0},

		create: {(*frame).create, (*frame).priceCreate}, create2: {(*frame).create2, (*frame).priceCreate2},
		call: {(*frame).call, (*frame).priceCall}, 0xf4: {(*frame).delegateCall, (*frame).priceOtherCall},
		0xfa: {(*frame).staticCall, (*frame).priceOtherCall},
		0xf3: {(*frame).ret, (*frame).priceArea}, 0xfd: {(*frame).revert, (*frame).priceArea},
		selfdestruct: {do: (*frame).selfDestruct},
	}
	fill(t[push1:push32+1], instruction{do: (*frame).pushBytes})
	fill(t[dup1:dup16+1], instruction{do: (*frame).dup})
	fill(t[swap1:swap16+1], instruction{do: (*frame).swap})
	fill(t[log0:log4+1], instruction{(*frame).log, (*frame).priceLog})
	return t
}

// fill makes each element of l the same.
func fill(l []instruction, i instruction) {
	for k := range l {
		l[k] = i
	}
}
