package ops_test

import (
	"strconv"
	"strings"
	"testing"
)

// rows is the chapter's table: the instructions of a row, how many values they remove and add, and their gas. A row whose numbers hang on n has n itself.
const rows = `
00 STOP | 0 | 0 | 0
01 ADD, 03 SUB | 2 | 1 | 3
02 MUL, 04 DIV, 05 SDIV, 06 MOD, 07 SMOD | 2 | 1 | 5
08 ADDMOD, 09 MULMOD | 3 | 1 | 8
0a EXP | 2 | 1 | 10
0b SIGNEXTEND | 2 | 1 | 5
10 LT, 11 GT, 12 SLT, 13 SGT, 14 EQ, 16 AND, 17 OR, 18 XOR, 1a BYTE, 1b SHL, 1c SHR, 1d SAR | 2 | 1 | 3
15 ISZERO, 19 NOT | 1 | 1 | 3
20 KECCAK256 | 2 | 1 | 30
30 ADDRESS, 32 ORIGIN, 33 CALLER, 34 CALLVALUE, 36 CALLDATASIZE, 38 CODESIZE, 3d RETURNDATASIZE, 41 COINBASE, 42 TIMESTAMP, 43 NUMBER, 45 GASLIMIT, 46 CHAINID, 58 PC, 59 MSIZE, 5a GAS, 5f PUSH0 | 0 | 1 | 2
31 BALANCE, 3b EXTCODESIZE, 3f EXTCODEHASH | 1 | 1 | 700
35 CALLDATALOAD | 1 | 1 | 3
37 CALLDATACOPY, 39 CODECOPY, 3e RETURNDATACOPY | 3 | 0 | 3
3c EXTCODECOPY | 4 | 0 | 700
47 SELFBALANCE | 0 | 1 | 5
50 POP | 1 | 0 | 2
51 MLOAD | 1 | 1 | 3
52 MSTORE, 53 MSTORE8 | 2 | 0 | 3
54 SLOAD | 1 | 1 | 800
55 SSTORE | 2 | 0 | 0
56 JUMP | 1 | 0 | 8
57 JUMPI | 2 | 0 | 10
5b JUMPDEST | 0 | 0 | 1
60 to 7f PUSH1 to PUSH32 | 0 | 1 | 3
80 to 8f DUP1 to DUP16 | n | n + 1 | 3
90 to 9f SWAP1 to SWAP16 | n + 1 | n + 1 | 3
a0 to a4 LOG0 to LOG4 | n + 2 | 0 | 375 * (n + 1)
f0 CREATE | 3 | 1 | 32000
f1 CALL | 7 | 1 | 700
f3 RETURN, fd REVERT | 2 | 0 | 0
f4 DELEGATECALL, fa STATICCALL | 6 | 1 | 700
f5 CREATE2 | 4 | 1 | 32000
ff SELFDESTRUCT | 1 | 0 | 5000
`

// refOp is what the table has for a byte.
type refOp struct {
	name              string
	pops, pushes, gas int
}

// formula is the value of a cell for the number n.
func formula(t *testing.T, cell string, n int) int {
	t.Helper()
	switch cell {
	case "n":
		return n
	case "n + 1":
		return n + 1
	case "n + 2":
		return n + 2
	case "375 * (n + 1)":
		return 375*n + 375
	}
	v, err := strconv.Atoi(cell)
	if err != nil {
		t.Fatalf("a cell of the reference: %v", err)
	}
	return v
}

// hexByte reads two hexadecimal digits.
func hexByte(t *testing.T, s string) int {
	t.Helper()
	v, err := strconv.ParseUint(s, 16, 8)
	if err != nil || len(s) != 2 {
		t.Fatalf("a byte of the reference: %s", s)
	}
	return int(v)
}

// cutNumber parts a name of a run from its number.
func cutNumber(t *testing.T, name string) (string, int) {
	t.Helper()
	stem := strings.TrimRight(name, "0123456789")
	return stem, formula(t, name[len(stem):], 0)
}

// reference reads the rows; a byte that is not an instruction is not in the map.
func reference(t *testing.T) map[byte]refOp {
	t.Helper()
	all := map[byte]refOp{}
	add := func(at int, name string, cells []string, n int) {
		if _, twice := all[byte(at)]; twice {
			t.Fatalf("the reference has the byte %02x twice", at)
		}
		all[byte(at)] = refOp{name, formula(t, cells[1], n), formula(t, cells[2], n), formula(t, cells[3], n)}
	}
	for row := range strings.Lines(strings.TrimPrefix(rows, "\n")) {
		cells := strings.Split(strings.TrimSuffix(row, "\n"), " | ")
		if words := strings.Split(cells[0], " "); len(words) == 6 && words[1] == "to" { // a run of instructions
			first, last := hexByte(t, words[0]), hexByte(t, words[2])
			stem, least := cutNumber(t, words[3])
			if _, most := cutNumber(t, words[5]); most-least != last-first {
				t.Fatalf("a row of the reference: %s", row)
			}
			for at := first; at <= last; at++ {
				n := least + at - first
				add(at, stem+strconv.Itoa(n), cells, n)
			}
			continue
		}
		for one := range strings.SplitSeq(cells[0], ", ") {
			digits, name, _ := strings.Cut(one, " ")
			add(hexByte(t, digits), name, cells, -1)
		}
	}
	return all
}

// names is the instructions by name.
func names(t *testing.T) map[string]byte {
	t.Helper()
	all := reference(t)
	back := map[string]byte{}
	for op, r := range all {
		back[r.name] = op
	}
	if len(back) != len(all) || len(all) != 138 {
		t.Fatalf("the reference has %d instructions with %d names", len(all), len(back))
	}
	return back
}

// refJumps marks the bytes that belong to a PUSH, and takes the bytes 5b that have no mark.
func refJumps(code []byte) []int {
	marked := make([]bool, len(code))
	for i, v := range code {
		if marked[i] || v < 0x60 || v > 0x7f {
			continue
		}
		for k := i + 1; k <= i+int(v)-0x5f && k < len(code); k++ {
			marked[k] = true
		}
	}
	var l []int
	for i, v := range code {
		if v == 0x5b && !marked[i] {
			l = append(l, i)
		}
	}
	return l
}

// noise makes bytes that look random and are always the same.
type noise uint32

func (n *noise) byte() byte {
	*n = *n*1664525 + 1013904223
	return byte(*n >> 24)
}

// bytes is count of the bytes that are listed, or of all bytes if none is.
func (n *noise) bytes(count int, of ...byte) []byte {
	b := make([]byte, count)
	for i := range b {
		b[i] = n.byte()
		if len(of) > 0 {
			b[i] = of[int(b[i])%len(of)]
		}
	}
	return b
}
