package ops

const (
	jumpdest = 0x5b
	push1    = 0x60
	push32   = 0x7f
	dup1     = 0x80
	dup16    = 0x8f
	swap1    = 0x90
	swap16   = 0x9f
	log0     = 0xa0
	log4     = 0xa4
)

// none is the number of a row without numbers: the 0 of PUSH0 and the 2 of CREATE2 belong to their names.
const none = -1

// instruction is a row of the table. It has no name where there is no instruction.
type instruction struct {
	name              string
	pops, pushes, gas int
}

// find returns the row of op, and the number that comes behind its name.
func find(op byte) (instruction, int) {
	n := int(op)
	switch {
	case push1 <= op && op <= push32:
		n -= push1 - 1
		return instruction{"PUSH", 0, 1, 3}, n
	case dup1 <= op && op <= dup16:
		n -= dup1 - 1
		return instruction{"DUP", n, n + 1, 3}, n
	case swap1 <= op && op <= swap16:
		n -= swap1 - 1
		return instruction{"SWAP", n + 1, n + 1, 3}, n
	case log0 <= op && op <= log4:
		n -= log0
		return instruction{"LOG", n + 2, 0, 375 * (n + 1)}, n
	}
	return single(op), none
}

// digits returns the text of n, which is less than 100.
func digits(n int) string {
	switch {
	case n == none:
		return ""
	case n < 10:
		return string('0' + rune(n))
	}
	return string([]rune{'0' + rune(n/10), '0' + rune(n%10)})
}

// single returns the row of an instruction that has a row alone. The table is asked on the spot, so that it is not copied.
func single(op byte) instruction {
	return [256]instruction{
		0x00: {"STOP", 0, 0, 0},
		0x01: {"ADD", 2, 1, 3}, 0x02: {"MUL", 2, 1, 5}, 0x03: {"SUB", 2, 1, 3}, 0x04: {"DIV", 2, 1, 5},
		0x05: {"SDIV", 2, 1, 5}, 0x06: {"MOD", 2, 1, 5}, 0x07: {"SMOD", 2, 1, 5},
		0x08: {"ADDMOD", 3, 1, 8}, 0x09: {"MULMOD", 3, 1, 8},
		0x0a: {"EXP", 2, 1, 10}, 0x0b: {"SIGNEXTEND", 2, 1, 5},

		0x10: {"LT", 2, 1, 3}, 0x11: {"GT", 2, 1, 3}, 0x12: {"SLT", 2, 1, 3}, 0x13: {"SGT", 2, 1, 3},
		0x14: {"EQ", 2, 1, 3}, 0x15: {"ISZERO", 1, 1, 3},
		0x16: {"AND", 2, 1, 3}, 0x17: {"OR", 2, 1, 3}, 0x18: {"XOR", 2, 1, 3}, 0x19: {"NOT", 1, 1, 3},
		0x1a: {"BYTE", 2, 1, 3}, 0x1b: {"SHL", 2, 1, 3}, 0x1c: {"SHR", 2, 1, 3}, 0x1d: {"SAR", 2, 1, 3},

		0x20: {"KECCAK256", 2, 1, 30},

		0x30: {"ADDRESS", 0, 1, 2}, 0x31: {"BALANCE", 1, 1, 700}, 0x32: {"ORIGIN", 0, 1, 2},
		0x33: {"CALLER", 0, 1, 2}, 0x34: {"CALLVALUE", 0, 1, 2},
		0x35: {"CALLDATALOAD", 1, 1, 3}, 0x36: {"CALLDATASIZE", 0, 1, 2}, 0x37: {"CALLDATACOPY", 3, 0, 3},
		0x38: {"CODESIZE", 0, 1, 2}, 0x39: {"CODECOPY", 3, 0, 3},
		0x3b: {"EXTCODESIZE", 1, 1, 700}, 0x3c: {"EXTCODECOPY", 4, 0, 700},
		0x3d: {"RETURNDATASIZE", 0, 1, 2}, 0x3e: {"RETURNDATACOPY", 3, 0, 3}, 0x3f: {"EXTCODEHASH", 1, 1, 700},

		0x41: {"COINBASE", 0, 1, 2}, 0x42: {"TIMESTAMP", 0, 1, 2}, 0x43: {"NUMBER", 0, 1, 2},
		0x45: {"GASLIMIT", 0, 1, 2}, 0x46: {"CHAINID", 0, 1, 2}, 0x47: {"SELFBALANCE", 0, 1, 5},

		0x50: {"POP", 1, 0, 2}, 0x51: {"MLOAD", 1, 1, 3}, 0x52: {"MSTORE", 2, 0, 3}, 0x53: {"MSTORE8", 2, 0, 3},
		0x54: {"SLOAD", 1, 1, 800}, 0x55: {"SSTORE", 2, 0, 0},
		0x56: {"JUMP", 1, 0, 8}, 0x57: {"JUMPI", 2, 0, 10},
		0x58: {"PC", 0, 1, 2}, 0x59: {"MSIZE", 0, 1, 2}, 0x5a: {"GAS", 0, 1, 2},
		jumpdest: {"JUMPDEST", 0, 0, 1}, 0x5f: {"PUSH0", 0, 1, 2},

		0xf0: {"CREATE", 3, 1, 32000}, 0xf1: {"CALL", 7, 1, 700}, 0xf3: {"RETURN", 2, 0, 0},
		0xf4: {"DELEGATECALL", 6, 1, 700}, 0xf5: {"CREATE2", 4, 1, 32000}, 0xfa: {"STATICCALL", 6, 1, 700},
		0xfd: {"REVERT", 2, 0, 0}, 0xff: {"SELFDESTRUCT", 1, 0, 5000},
	}[op]
}
