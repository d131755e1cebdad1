package asm_test

import (
	"bytes"
	stdhex "encoding/hex"
	"regexp"
	"strconv"
	"strings"
	"testing"

	"muniments/api"
	"muniments/asm"
)

// singles is the names of chapter 11 but for those of PUSH1 on, DUP, SWAP and LOG: each line is a first byte and the names from there on, where - is no instruction.
const singles = `
00 STOP ADD MUL SUB DIV SDIV MOD SMOD ADDMOD MULMOD EXP SIGNEXTEND
10 LT GT SLT SGT EQ ISZERO AND OR XOR NOT BYTE SHL SHR SAR
20 KECCAK256
30 ADDRESS BALANCE ORIGIN CALLER CALLVALUE CALLDATALOAD CALLDATASIZE CALLDATACOPY CODESIZE CODECOPY - EXTCODESIZE EXTCODECOPY RETURNDATASIZE RETURNDATACOPY EXTCODEHASH
41 COINBASE TIMESTAMP NUMBER - GASLIMIT CHAINID SELFBALANCE
50 POP MLOAD MSTORE MSTORE8 SLOAD SSTORE JUMP JUMPI PC MSIZE GAS JUMPDEST - - - PUSH0
f0 CREATE CALL - RETURN DELEGATECALL CREATE2 - - - - STATICCALL - - REVERT - SELFDESTRUCT
`

// refNames is the instructions by their bytes; what is none has no name.
func refNames() [256]string {
	var all [256]string
	for row := range strings.Lines(strings.TrimPrefix(singles, "\n")) {
		words := strings.Fields(row)
		at, _ := strconv.ParseUint(words[0], 16, 8)
		for i, name := range words[1:] {
			if name != "-" {
				all[int(at)+i] = name
			}
		}
	}
	run := func(stem string, first, least, most int) {
		for n := least; n <= most; n++ {
			all[first+n-least] = stem + strconv.Itoa(n)
		}
	}
	run("PUSH", 0x60, 1, 32)
	run("DUP", 0x80, 1, 16)
	run("SWAP", 0x90, 1, 16)
	run("LOG", 0xa0, 0, 4)
	return all
}

// reference prints and reads in another way: it marks the bytes that belong to a PUSH, and holds lines against patterns.
type reference struct {
	names         [256]string
	bytes         map[string]byte // of the names that are lines by themselves
	push, oneByte *regexp.Regexp
}

func newReference(t *testing.T) reference {
	t.Helper()
	r := reference{
		names:   refNames(),
		bytes:   map[string]byte{},
		push:    regexp.MustCompile(`^PUSH([1-9]|[12][0-9]|3[012]) 0x((?:[0-9a-f]{2})+)$`),
		oneByte: regexp.MustCompile(`^BYTE 0x([0-9a-f]{2})$`),
	}
	count := 0
	for op, name := range r.names {
		if name != "" {
			count++
		}
		if name != "" && (op < 0x60 || op > 0x7f) {
			r.bytes[name] = byte(op)
		}
	}
	if count != 138 || len(r.bytes) != 138-32 {
		t.Fatalf("the reference has %d instructions, %d of them without a tail", count, len(r.bytes))
	}
	return r
}

func (r reference) print(code []byte) string {
	mark := make([]int, len(code)) // 0: an instruction; 1: it belongs to one; 2: BYTE
	for i, v := range code {
		if mark[i] != 0 {
			continue
		}
		belong := max(0, min(32, int(v)-0x5f))
		switch {
		case r.names[v] == "":
			mark[i] = 2
		case v > 0x7f: // what comes above PUSH32 has nothing behind it
		case i+belong >= len(code):
			mark[i] = 2
		default:
			for k := range belong {
				mark[i+1+k] = 1
			}
		}
	}
	var text []byte
	for i, v := range code {
		digits := stdhex.EncodeToString([]byte{v})
		switch {
		case mark[i] == 2:
			text = append(text, "\nBYTE 0x"+digits...)
		case mark[i] == 1:
			text = append(text, digits...)
		case v >= 0x60 && v <= 0x7f:
			text = append(text, "\n"+r.names[v]+" 0x"...)
		default:
			text = append(text, "\n"+r.names[v]...)
		}
	}
	if len(text) == 0 {
		return ""
	}
	return string(text[1:]) + "\n"
}

func (r reference) line(line string) ([]byte, bool) {
	if op, ok := r.bytes[line]; ok {
		return []byte{op}, true
	}
	if m := r.oneByte.FindStringSubmatch(line); m != nil {
		b, err := stdhex.DecodeString(m[1])
		return b, err == nil
	}
	m := r.push.FindStringSubmatch(line)
	if m == nil {
		return nil, false
	}
	n, _ := strconv.Atoi(m[1])
	b, err := stdhex.DecodeString(m[2])
	return append([]byte{byte(0x5f + n)}, b...), err == nil && len(b) == n
}

func (r reference) read(s string) ([]byte, int, api.Errno) {
	if len(s) > 1<<18 {
		return nil, 0, api.ErrLong
	}
	lines := strings.Split(s, "\n")
	last := len(lines) - 1
	var code []byte
	for i, line := range lines[:last] {
		b, ok := r.line(line)
		if !ok {
			return nil, i + 1, api.ErrSyntax
		}
		code = append(code, b...)
	}
	if lines[last] != "" {
		return nil, last + 1, api.ErrSyntax
	}
	return code, 0, api.OK
}

// agree demands that s is read as the reference reads it.
func (r reference) agree(t *testing.T, s string) {
	t.Helper()
	want, wantLine, wantErr := r.read(s)
	got, line, err := asm.Read(s)
	if !bytes.Equal(got, want) || line != wantLine || err != wantErr {
		t.Fatalf("P1201 Read of %q: %x, %d, %d, not %x, %d, %d", s[:min(len(s), 200)], got, line, err, want, wantLine, wantErr)
	}
}

// both demands that code is printed as the reference prints it, and comes back from the text unless that is too long.
func (r reference) both(t *testing.T, code []byte) {
	t.Helper()
	text := asm.Print(code)
	if want := r.print(code); text != want {
		t.Fatalf("P1201 Print of %x: %q, not %q", code[:min(len(code), 100)], text[:min(len(text), 200)], want[:min(len(want), 200)])
	}
	got, line, err := asm.Read(text)
	if len(text) > api.MaxText {
		if len(got) != 0 || line != 0 || err != api.ErrLong {
			t.Fatalf("P1201 Read of %d bytes: %d bytes, %d, %d", len(text), len(got), line, err)
		}
		return
	}
	if !bytes.Equal(got, code) || line != 0 || err != api.OK {
		t.Fatalf("P1202 Read of the Print of %x: %x, %d, %d", code[:min(len(code), 100)], got[:min(len(got), 100)], line, err)
	}
}

// noise makes bytes that look random and are always the same.
type noise uint32

func (n *noise) byte() byte {
	*n = *n*1664525 + 1013904223
	return byte(*n >> 24)
}

// bytes is count of the bytes that are listed, or of all bytes if none is.
func (n *noise) bytes(count int, of ...byte) []byte {
	b := make([]byte, count)
	for i := range b {
		b[i] = n.byte()
		if len(of) > 0 {
			b[i] = of[int(b[i])%len(of)]
		}
	}
	return b
}
