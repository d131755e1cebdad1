package asm_test

import (
	"bytes"
	"strconv"
	"strings"
	"sync"
	"testing"

	"muniments/api"
	"muniments/asm"
)

// accept demands this code of s.
func accept(t *testing.T, s string, want ...byte) {
	t.Helper()
	if got, line, err := asm.Read(s); !bytes.Equal(got, want) || line != 0 || err != api.OK {
		t.Fatalf("P1201 Read of %q: %x, %d, %d, not %x", s[:min(len(s), 200)], got, line, err, want)
	}
}

// refuse demands this number of a line, this error, and no bytes.
func refuse(t *testing.T, s string, wantLine int, wantErr api.Errno) {
	t.Helper()
	if got, line, err := asm.Read(s); len(got) != 0 || line != wantLine || err != wantErr {
		t.Fatalf("P1201 Read of %q: %x, %d, %d, not %d, %d", s[:min(len(s), 200)], got, line, err, wantLine, wantErr)
	}
}

func TestRead(t *testing.T) {
	accept(t, "")
	accept(t, lines("PUSH1 0x05", "STOP"), 0x60, 0x05, 0x00)
	accept(t, lines("PUSH0"), 0x5f)
	accept(t, lines("PUSH2 0x00ff", "ADD", "LOG0"), 0x61, 0x00, 0xff, 0x01, 0xa0)
	accept(t, lines("PUSH32 0x"+strings.Repeat("5b", 32)), append([]byte{0x7f}, bytes.Repeat([]byte{0x5b}, 32)...)...)
	accept(t, lines("BYTE"), 0x1a)
	accept(t, lines("BYTE", "BYTE 0x1a", "BYTE 0x0c", "BYTE"), 0x1a, 0x1a, 0x0c, 0x1a)
	accept(t, lines("BYTE 0x60", "BYTE 0x05"), 0x60, 0x05) // two lines that make one instruction
	accept(t, lines("BYTE 0x61", "PUSH1 0x05"), 0x61, 0x60, 0x05)
	accept(t, lines("SELFDESTRUCT", "JUMPDEST", "MSTORE8", "KECCAK256", "CREATE2"), 0xff, 0x5b, 0x53, 0x20, 0xf5)
	refuse(t, "STOP", 1, api.ErrSyntax)
}

// TestEachLine has the line of each instruction, with all numbers of bytes behind it, and BYTE for each byte.
func TestEachLine(t *testing.T) {
	r := newReference(t)
	for op, name := range r.names {
		accept(t, lines("BYTE 0x"+strconv.FormatUint(uint64(op)+256, 16)[1:]), byte(op))
		if name == "" {
			continue
		}
		if op < 0x60 || op > 0x7f {
			accept(t, lines(name), byte(op))
		} else {
			refuse(t, lines(name), 1, api.ErrSyntax)
		}
		refuse(t, lines(name+" "), 1, api.ErrSyntax)
		refuse(t, lines(strings.ToLower(name)), 1, api.ErrSyntax)
		for n := range 100 {
			tail := strings.Repeat("a", n)
			s := lines(name + " 0x" + tail)
			switch {
			case name == "BYTE" && n == 2:
				accept(t, s, 0xaa)
			case op >= 0x60 && op <= 0x7f && n == 2*(op-0x5f):
				accept(t, s, append([]byte{byte(op)}, bytes.Repeat([]byte{0xaa}, n/2)...)...)
			default:
				refuse(t, s, 1, api.ErrSyntax)
			}
		}
	}
}

// noLines is lines that are none.
func noLines() []string {
	return []string{
		"", " ", "  ", "\t", "\r", "\x00", "0x", "0x00", "00", "#", "# STOP", "//", ";", "|STOP", "|",
		"stop", "Stop", "STOP ", " STOP", "STOP\t", "\tSTOP", "STOP\r", "STOP\x00", "STOP 0x", "STOP 0x00", "STOP STOP", "STOP,ADD", "STOP;", "STOP # end", "STOP0", "STO", "TOP",
		"PUSH", "PUSH 0x05", "PUSH0 0x", "PUSH0 0x00", "PUSH0 ", "PUSH1", "PUSH1 ", "PUSH1 0x", "PUSH1 0x5", "PUSH1 5", "PUSH1 05", "PUSH1 0x0005", "PUSH1 0x050", "PUSH1  0x05", " PUSH1 0x05", "PUSH1 0x05 ", "PUSH1 0x05 0x05", "PUSH1 0x05 STOP",
		"PUSH1\t0x05", "PUSH1\u00a00x05", "PUSH10x05", "PUSH1,0x05", "PUSH1 0X05", "PUSH1 0xAB", "PUSH1 0xaB", "PUSH1 0xg0", "PUSH1 x05", "PUSH1 0x 5", "PUSH1 0x5 ", "PUSH1 -0x05", "PUSH1 $05", "PUSH1 0x05h", "PUSH1 0x05\r", "PUSH1 0x05\x00", "PUSH1 0x\u0660\u0665", "PUSH1 0x\u0130\u0135", "PUSH1 0x\xff\xff",
		"push1 0x05", "Push1 0x05", "PUSH01 0x05", "PUSH1_ 0x05", "PUSH2 0x05", "PUSH2 0x000005", "PUSH\u0661 0x05",
		"PUSH33 0x" + strings.Repeat("00", 33), "PUSH32 0x" + strings.Repeat("00", 31), "PUSH32 0x" + strings.Repeat("00", 33), "PUSH256 0x", "PUSH1 0x" + strings.Repeat("05", 257), "PUSH1 0x05" + strings.Repeat("0", 1<<16),
		"BYTE ", "BYTE 0x", "BYTE 0", "BYTE 00", "BYTE 0x0", "BYTE 0x000", "BYTE 0x0000", "BYTE 0xFF", "BYTE  0x00", " BYTE 0x00", "BYTE 0x00 ", "BYTE 0x00 0x00", "BYTE\t0x00", "BYTE0x00", "BYTE 0x00\r", "BYTE STOP", "BYTE BYTE", "byte 0x00", "Byte", "BYTE1", "BYTES 0x00",
		"DUP1 0x00", "DUP0", "DUP17", "SWAP17", "LOG5", "LOG0 0x", "JUMPDEST 0x", "ADD 0x00", "SAR 0x00",
		"INVALID", "SHA3", "DATA 0x00", "-", "0c", "STOP\v", "STOP\f", "STOP\u0085", "STOP\u2028", "\ufeffSTOP", "\uff33TOP", "\u017fTOP",
		// Runes whose lowest byte is 10 end no line; bytes that are no rune swallow no byte 10 behind them.
		"STOP\u010aADD", "STOP\u010a", "\u010a", "STOP\u0a0aADD", "\xc4", "STOP\xc4", "STOP\xe2\x80", "STOP\xf0\x90\x8a", "STOP\x8a", "STOP\xc0\x8a", "\xff\xfe",
	}
}

// TestNoLine has each of them alone, ahead of valid lines, behind them and between.
func TestNoLine(t *testing.T) {
	valid := lines("PUSH1 0x05", "BYTE", "BYTE 0x60")
	for _, s := range noLines() {
		refuse(t, s+"\n", 1, api.ErrSyntax)
		refuse(t, s+"\n"+valid, 1, api.ErrSyntax)
		refuse(t, valid+s+"\n", 4, api.ErrSyntax)
		refuse(t, valid+s+"\n"+valid, 4, api.ErrSyntax)
		refuse(t, s+"\n"+s+"\n", 1, api.ErrSyntax)
		refuse(t, valid+s+"\n"+valid+s+"\n"+s, 4, api.ErrSyntax)
		if s != "" {
			refuse(t, s, 1, api.ErrSyntax)
			refuse(t, valid+s, 4, api.ErrSyntax)
		}
	}
}

// TestNoEnd has lines without a byte 10 at the end.
func TestNoEnd(t *testing.T) {
	for _, s := range []string{"STOP", "PUSH1 0x05", "BYTE", "BYTE 0x00", " ", "x", "\r", "\x00", "\xff"} {
		refuse(t, s, 1, api.ErrSyntax)
		refuse(t, "STOP\n"+s, 2, api.ErrSyntax)
		refuse(t, "STOP\nADD\n"+s, 3, api.ErrSyntax)
		refuse(t, "STOP\n\nADD\n"+s, 2, api.ErrSyntax) // the first invalid line is another one
	}
	refuse(t, "\n", 1, api.ErrSyntax)
	refuse(t, "\n\n", 1, api.ErrSyntax)
	refuse(t, "STOP\n\n", 2, api.ErrSyntax)
	refuse(t, "STOP\r\nADD\r\n", 1, api.ErrSyntax)
	refuse(t, "STOP\rADD\r", 1, api.ErrSyntax)
}

// TestChanged changes lines at each place.
func TestChanged(t *testing.T) {
	r := newReference(t)
	for _, line := range []string{
		"STOP", "PC", "OR", "BYTE", "MSTORE8", "CREATE2", "PUSH0", "DUP16", "LOG4", "JUMPI",
		"BYTE 0x1a", "BYTE 0x60", "PUSH1 0x05", "PUSH2 0xabcd", "PUSH10 0x00112233445566778899", "PUSH20 0x" + strings.Repeat("9f", 20),
	} {
		s := lines("ADD", line, "PUSH1 0x5b", "BYTE")
		r.agree(t, s)
		for i := 4; i < 4+len(line)+1; i++ {
			for v := range 256 {
				c := string([]byte{byte(v)})
				r.agree(t, s[:i]+c+s[i:])
				r.agree(t, s[:i]+c+s[i+1:])
			}
			r.agree(t, s[:i]+s[i+1:])
			r.agree(t, s[:i])
			r.agree(t, s[i:])
		}
	}
}

// TestMixed puts lines together, most of them valid, with a few bytes changed.
func TestMixed(t *testing.T) {
	r := newReference(t)
	bad := noLines()
	n := noise(4)
	pick := func(count int) int { return (int(n.byte())<<8 | int(n.byte())) % count }
	for range 3000 {
		s := asm.Print(n.bytes(pick(30)))
		if pick(3) == 0 {
			s += bad[pick(len(bad))] + "\n" + asm.Print(n.bytes(pick(30)))
		}
		if s != "" && pick(3) == 0 {
			i := pick(len(s))
			s = s[:i] + string(n.bytes(pick(3))) + s[i+pick(2):]
		}
		r.agree(t, s)
	}
}

// TestLong has texts of just MaxText bytes, and of more.
func TestLong(t *testing.T) {
	if api.MaxText != 1<<18 {
		t.Fatalf("P1201 MaxText is %d", api.MaxText)
	}
	full := "MUL\n" + strings.Repeat("PC\n", (1<<18-4)/3) // 2^18 - 4 is a multiple of 3
	if len(full) != 1<<18 {
		t.Fatalf("a text of %d bytes", len(full))
	}
	accept(t, full, append([]byte{0x02}, bytes.Repeat([]byte{0x58}, (1<<18-4)/3)...)...)
	refuse(t, full[:1<<18-1], (1<<18-4)/3+1, api.ErrSyntax)
	refuse(t, full[:1<<18-1]+"\x00", (1<<18-4)/3+1, api.ErrSyntax)
	refuse(t, full[:1<<18-3]+"P\n\n", (1<<18-4)/3+1, api.ErrSyntax)
	refuse(t, "mul"+full[3:], 1, api.ErrSyntax)
	refuse(t, strings.Repeat("\n", 1<<18), 1, api.ErrSyntax)
	refuse(t, strings.Repeat("\xff", 1<<18), 1, api.ErrSyntax)
	refuse(t, "PUSH1 0x"+strings.Repeat("0", 1<<18-9)+"\n", 1, api.ErrSyntax)

	refuse(t, "ADD\nMUL\n"+strings.Repeat("PC\n", (1<<18-7)/3), 0, api.ErrLong) // valid lines, one byte more
	refuse(t, full+"PC\n", 0, api.ErrLong)
	refuse(t, full+"\n", 0, api.ErrLong)
	refuse(t, full+"P", 0, api.ErrLong)
	refuse(t, "x"+full, 0, api.ErrLong) // an invalid line comes behind
	refuse(t, strings.Repeat("PC\n", 1<<18/3+1), 0, api.ErrLong)
	refuse(t, strings.Repeat("\n", 1<<18+1), 0, api.ErrLong)
	refuse(t, strings.Repeat("\u00e9", 1<<17)+"\n", 0, api.ErrLong) // fewer runes than MaxText, but more bytes
	refuse(t, strings.Repeat("STOP\n", 1<<20), 0, api.ErrLong)
}

// TestLineNumbers has one invalid line at each place of a text.
func TestLineNumbers(t *testing.T) {
	for count := 1; count < 300; count += 7 {
		for at := range count {
			l := make([]string, count)
			for i := range l {
				l[i] = "PUSH2 0x0a0a"
			}
			l[at] += "0"
			refuse(t, lines(l...), at+1, api.ErrSyntax)
		}
	}
}

// TestReadMemory demands that each answer has memory of its own.
func TestReadMemory(t *testing.T) {
	s := lines("PUSH3 0x010203", "BYTE 0x60", "STOP")
	want := []byte{0x62, 1, 2, 3, 0x60, 0}
	one, _, _ := asm.Read(s)
	other, _, _ := asm.Read(s)
	clear(one[:cap(one)])
	if !bytes.Equal(other, want) {
		t.Errorf("P1202 two answers share memory: %x", other)
	}
	asm.Read("x\n")
	asm.Read(lines("ADD"))
	if !bytes.Equal(other, want) {
		t.Errorf("P1202 an answer changes with another call: %x", other)
	}
	accept(t, s, want...)
}

// TestTogether calls in several goroutines at once: calls share nothing.
func TestTogether(t *testing.T) {
	n := noise(5)
	code := n.bytes(2000)
	text := asm.Print(code)
	var wait sync.WaitGroup
	for range 8 {
		wait.Go(func() {
			for range 20 {
				if asm.Print(code) != text {
					t.Errorf("P1202 Print beside other calls")
				}
				if got, line, err := asm.Read(text); !bytes.Equal(got, code) || line != 0 || err != api.OK {
					t.Errorf("P1202 Read beside other calls: %d bytes, %d, %d", len(got), line, err)
				}
				if got, line, err := asm.Read(text + "x"); len(got) != 0 || line != 1+strings.Count(text, "\n") || err != api.ErrSyntax {
					t.Errorf("P1202 Read of no text beside other calls: %d bytes, %d, %d", len(got), line, err)
				}
			}
		})
	}
	wait.Wait()
}

func BenchmarkRead(b *testing.B) {
	r := noise(6)
	text := asm.Print(r.bytes(24576))
	b.SetBytes(int64(len(text)))
	for b.Loop() {
		asm.Read(text)
	}
}

// BenchmarkReadShortest reads as many lines as a text may have.
func BenchmarkReadShortest(b *testing.B) {
	text := strings.Repeat("OR\n", api.MaxText/3)
	b.SetBytes(int64(len(text)))
	for b.Loop() {
		asm.Read(text)
	}
}
