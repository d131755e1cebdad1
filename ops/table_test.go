package ops_test

import (
	"strings"
	"sync"
	"testing"

	"muniments/ops"
)

// check demands of all calls what the table has for op.
func check(t *testing.T, op byte, want refOp) {
	t.Helper()
	if got := (refOp{ops.Name(op), ops.Pops(op), ops.Pushes(op), ops.Gas(op)}); got != want {
		t.Errorf("P1101 the byte %02x: %v, not %v", op, got, want)
	}
}

// TestTable asks for each byte, also for those that are not instructions.
func TestTable(t *testing.T) {
	all := reference(t)
	for op := range 256 {
		check(t, byte(op), all[byte(op)])
	}
}

// TestExamples has the examples of the chapter, and what stands at the edges of its rows.
func TestExamples(t *testing.T) {
	for op, want := range map[byte]refOp{
		0x00: {"STOP", 0, 0, 0},
		0x0b: {"SIGNEXTEND", 2, 1, 5},
		0x0c: {},
		0x0f: {},
		0x1d: {"SAR", 2, 1, 3},
		0x1e: {},
		0x21: {},
		0x3a: {},
		0x40: {},
		0x44: {},
		0x48: {},
		0x4f: {},
		0x5b: {"JUMPDEST", 0, 0, 1},
		0x5c: {},
		0x5e: {},
		0x5f: {"PUSH0", 0, 1, 2},
		0x60: {"PUSH1", 0, 1, 3},
		0x68: {"PUSH9", 0, 1, 3},
		0x69: {"PUSH10", 0, 1, 3},
		0x7f: {"PUSH32", 0, 1, 3},
		0x80: {"DUP1", 1, 2, 3},
		0x8f: {"DUP16", 16, 17, 3},
		0x90: {"SWAP1", 2, 2, 3},
		0x9f: {"SWAP16", 17, 17, 3},
		0xa0: {"LOG0", 2, 0, 375},
		0xa4: {"LOG4", 6, 0, 1875},
		0xa5: {},
		0xef: {},
		0xf2: {},
		0xfe: {},
		0xff: {"SELFDESTRUCT", 1, 0, 5000},
	} {
		check(t, op, want)
	}
	if op, ok := ops.Op("PUSH33"); op != 0 || ok {
		t.Errorf("P1101 Op of PUSH33: %d, %v", op, ok)
	}
}

// TestOp reads each name back, and demands that no name stands for two bytes.
func TestOp(t *testing.T) {
	all := names(t)
	for name, want := range all {
		if op, ok := ops.Op(name); op != want || !ok {
			t.Errorf("P1101 Op of %s: %02x, %v, not %02x", name, op, ok, want)
		}
	}
	found := map[string]byte{}
	for op := range 256 {
		name := ops.Name(byte(op))
		if back, ok := ops.Op(name); ok != (name != "") || ok && back != byte(op) {
			t.Errorf("P1101 Op of the Name of %02x: %02x, %v", op, back, ok)
		}
		if name != "" {
			found[name] = byte(op)
		}
	}
	if len(found) != len(all) {
		t.Errorf("P1101 %d names, not %d", len(found), len(all))
	}
}

// noName demands that there is no instruction s, and zero values.
func noName(t *testing.T, s string) {
	t.Helper()
	if op, ok := ops.Op(s); op != 0 || ok {
		t.Fatalf("P1101 Op of %q: %02x, %v", s, op, ok)
	}
}

// TestNoName has texts that look like names.
func TestNoName(t *testing.T) {
	for _, s := range []string{
		"", " ", "\n", "\x00", "0", "00", "0x00", "1", "-1",
		"PUSH", "DUP", "SWAP", "LOG", "MSTORE16", "KECCAK", "CREATE1", "CREATE3", "STOP0",
		"PUSH00", "PUSH01", "PUSH001", "PUSH010", "PUSH33", "PUSH40", "PUSH100", "PUSH256", "PUSH257", "PUSH4294967297",
		"PUSH-1", "PUSH+1", "PUSH 1", "PUSH1 ", " PUSH1", "PUSH1\n", "PUSH1 0x00", "PUSH0x1", "PUSH1.0", "PUSH1_0", "PUSHa",
		"PUSH\u0661", "PUSH\uff11", "PUSH1\u0660", "PUSH\x01", "PUSH:", "PUSH/", "PUSH1:", "PUSH3\x00",
		"DUP0", "DUP00", "DUP01", "DUP17", "DUP20", "DUP32", "DUP-1",
		"SWAP0", "SWAP01", "SWAP17", "SWAP32", "SWAP-1",
		"LOG00", "LOG01", "LOG5", "LOG10", "LOG-1", "LOG04",
		"SHA3", "GASPRICE", "BLOCKHASH", "DIFFICULTY", "PREVRANDAO", "BASEFEE", "BLOBHASH", "TLOAD", "TSTORE", "MCOPY", "CALLCODE", "INVALID", "CLZ", "SUICIDE",
		"stop", "Stop", "push1", "Push1", "PUSHO", "\u017fTOP", "STO\uff30", "STOPSTOP", "STOP,ADD", "STOP ADD", "BYTE 0x00",
		"\xff", "\xffSTOP", "STOP\xff", "AD", "DD", strings.Repeat("PUSH1", 1<<17), "PUSH" + strings.Repeat("0", 1<<20),
	} {
		noName(t, s)
	}
	for op := range 256 {
		noName(t, string([]byte{byte(op)}))
	}
}

// TestChangedNames changes each name at each place.
func TestChangedNames(t *testing.T) {
	all := names(t)
	try := func(s string) {
		t.Helper()
		want, known := all[s]
		if op, ok := ops.Op(s); ok != known || op != want {
			t.Fatalf("P1101 Op of %q: %02x, %v, not %02x, %v", s, op, ok, want, known)
		}
	}
	for name := range all {
		try(strings.ToLower(name))
		for i := range len(name) + 1 {
			try(name[:i])
			try(name[i:])
			for v := range 256 {
				try(name[:i] + string([]byte{byte(v)}) + name[i:])
				if i < len(name) {
					try(name[:i] + string([]byte{byte(v)}) + name[i+1:])
				}
			}
			if i < len(name) {
				try(name[:i] + name[i+1:])
			}
		}
		for other := range all {
			try(name + other)
		}
	}
}

// TestTogether asks from many goroutines at once: each answer hangs on the question alone.
func TestTogether(t *testing.T) {
	all := reference(t)
	r := noise(3)
	code := r.bytes(3000, 0x5b, 0x60, 0x63, 0x00, 0x5b)
	want := refJumps(code)
	var wait sync.WaitGroup
	for range 8 {
		wait.Go(func() {
			for range 20 {
				for op := range 256 {
					r := all[byte(op)]
					if got := (refOp{ops.Name(byte(op)), ops.Pops(byte(op)), ops.Pushes(byte(op)), ops.Gas(byte(op))}); got != r {
						t.Errorf("P1103 the byte %02x beside other calls: %v", op, got)
					}
					if back, ok := ops.Op(r.name); r.name != "" && (!ok || back != byte(op)) {
						t.Errorf("P1103 Op of %s beside other calls: %02x, %v", r.name, back, ok)
					}
				}
				if !same(ops.Jumps(code), want) {
					t.Errorf("P1103 Jumps beside other calls")
				}
			}
		})
	}
	wait.Wait()
}

func BenchmarkPops(b *testing.B) {
	for b.Loop() {
		for op := range 256 {
			ops.Pops(byte(op))
		}
	}
}

func BenchmarkName(b *testing.B) {
	for b.Loop() {
		for op := range 256 {
			ops.Name(byte(op))
		}
	}
}

func BenchmarkOpLast(b *testing.B) {
	for b.Loop() {
		ops.Op("SELFDESTRUCT")
	}
}

func BenchmarkOpPush(b *testing.B) {
	for b.Loop() {
		ops.Op("PUSH32")
	}
}

func BenchmarkOpNone(b *testing.B) {
	for b.Loop() {
		ops.Op("PUSH33")
	}
}
