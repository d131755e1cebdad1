package asm_test

import (
	"bytes"
	"slices"
	"strings"
	"testing"

	"muniments/asm"
)

// lines joins lines to a text.
func lines(l ...string) string {
	var text strings.Builder
	for _, line := range l {
		text.WriteString(line + "\n")
	}
	return text.String()
}

func TestPrint(t *testing.T) {
	for _, c := range []struct {
		code []byte
		want string
	}{
		{nil, ""},
		{[]byte{}, ""},
		{[]byte{0x60, 0x05, 0x00}, lines("PUSH1 0x05", "STOP")},
		{[]byte{0x00}, lines("STOP")},
		{[]byte{0x1a}, lines("BYTE")},
		{[]byte{0x0c}, lines("BYTE 0x0c")},
		{[]byte{0xfe, 0xff}, lines("BYTE 0xfe", "SELFDESTRUCT")},
		{[]byte{0x5f, 0x60, 0x00}, lines("PUSH0", "PUSH1 0x00")},
		{[]byte{0x60}, lines("BYTE 0x60")},
		{[]byte{0x61, 0x01}, lines("BYTE 0x61", "ADD")},
		{[]byte{0x61, 0x61}, lines("BYTE 0x61", "BYTE 0x61")},
		{[]byte{0x62, 0x60, 0x05}, lines("BYTE 0x62", "PUSH1 0x05")}, // what is behind a PUSH that is cut stands for itself again
		{[]byte{0x62, 0x61, 0x05}, lines("BYTE 0x62", "BYTE 0x61", "SDIV")},
		{[]byte{0x61, 0xab, 0xcd, 0x5b}, lines("PUSH2 0xabcd", "JUMPDEST")},
		{[]byte{0x60, 0x60, 0x60}, lines("PUSH1 0x60", "BYTE 0x60")},
		{[]byte{0x80, 0x8f, 0x90, 0x9f, 0xa0, 0xa4}, lines("DUP1", "DUP16", "SWAP1", "SWAP16", "LOG0", "LOG4")},
		{append([]byte{0x7f}, bytes.Repeat([]byte{0x7f}, 32)...), lines("PUSH32 0x" + strings.Repeat("7f", 32))},
		{append([]byte{0x7f}, bytes.Repeat([]byte{0x5b}, 31)...), "BYTE 0x7f\n" + strings.Repeat("JUMPDEST\n", 31)},
	} {
		if got := asm.Print(c.code); got != c.want {
			t.Errorf("P1201 Print of %x: %q, not %q", c.code, got, c.want)
		}
	}
}

// TestEachByte has each byte, alone and ahead of up to 40 others.
func TestEachByte(t *testing.T) {
	r := newReference(t)
	n := noise(1)
	for op := range 256 {
		for count := range 41 {
			r.both(t, append([]byte{byte(op)}, n.bytes(count)...))
			r.both(t, append([]byte{byte(op)}, bytes.Repeat([]byte{0x60}, count)...))
		}
	}
}

// TestShortCodes has all codes of up to 5 of the bytes that matter.
func TestShortCodes(t *testing.T) {
	r := newReference(t)
	level := [][]byte{nil}
	for range 6 {
		var longer [][]byte
		for _, code := range level {
			r.both(t, code)
			for _, v := range []byte{0x00, 0x1a, 0x5f, 0x60, 0x61, 0x62, 0x7f, 0xfe} {
				longer = append(longer, append(slices.Clone(code), v))
			}
		}
		level = longer
	}
}

func TestLongCodes(t *testing.T) {
	r := newReference(t)
	n := noise(2)
	for count := range 500 {
		r.both(t, n.bytes(count))
		r.both(t, n.bytes(count, 0x5b, 0x60, 0x65, 0x6f, 0x7e, 0x7f, 0x00, 0x0c, 0x1a))
	}
	for _, count := range []int{24576, 24577, 1 << 17, 1<<18 + 1} {
		r.both(t, n.bytes(count))
		r.both(t, n.bytes(count, 0x7f))
		r.both(t, n.bytes(count, 0xfe))
	}
}

// TestPrintMemory demands that the code stays as it is, with its spare capacity, which is not read.
func TestPrintMemory(t *testing.T) {
	room := []byte{0x01, 0x60, 0x05, 0x61, 0x07, 0x00, 0x00}
	before := slices.Clone(room)
	code := room[:5]
	want := lines("ADD", "PUSH1 0x05", "BYTE 0x61", "SMOD")
	text := asm.Print(code)
	if text != want {
		t.Errorf("P1202 Print reads what is behind its argument: %q", text)
	}
	if !bytes.Equal(room, before) {
		t.Errorf("P1202 Print changes its argument: %x", room)
	}
	clear(room)
	if text != want {
		t.Errorf("P1202 a text changes with the code: %q", text)
	}
	if asm.Print(before[:5]) != want {
		t.Errorf("P1202 Print is another the second time")
	}
}

func BenchmarkPrint(b *testing.B) {
	r := noise(3)
	code := r.bytes(24576)
	b.SetBytes(int64(len(code)))
	for b.Loop() {
		asm.Print(code)
	}
}
