package ops_test

import (
	"bytes"
	"slices"
	"testing"

	"muniments/ops"
)

func same(a, b []int) bool { return slices.Equal(a, b) }

// jumps demands just these indexes.
func jumps(t *testing.T, code []byte, want ...int) {
	t.Helper()
	if got := ops.Jumps(code); !same(got, want) {
		t.Fatalf("P1102 Jumps of %x: %v, not %v", code[:min(len(code), 100)], got, want)
	}
}

func TestJumps(t *testing.T) {
	jumps(t, []byte{0x60, 0x5b, 0x5b}, 2)
	jumps(t, nil)
	jumps(t, []byte{})
	jumps(t, []byte{0x00})
	jumps(t, []byte{0x5b}, 0)
	jumps(t, []byte{0x5b, 0x5b, 0x5b}, 0, 1, 2)
	jumps(t, []byte{0x5a, 0x5c, 0x5b}, 2)
	jumps(t, []byte{0x5f, 0x5b}, 1)                // PUSH0 has no bytes
	jumps(t, []byte{0x60})                         // nothing is there of what belongs to it
	jumps(t, []byte{0x60, 0x5b})                   // all of it
	jumps(t, []byte{0x61, 0x5b})                   // a part
	jumps(t, []byte{0x7f, 0x5b, 0x5b})             // a part
	jumps(t, []byte{0x60, 0x60, 0x5b, 0x5b}, 2, 3) // a PUSH that belongs to another one is none
	jumps(t, []byte{0x60, 0x7f, 0x5b, 0x5b}, 2, 3)
	jumps(t, []byte{0x61, 0x00, 0x60, 0x5b, 0x5b}, 3, 4)
	jumps(t, []byte{0x5b, 0x61, 0x5b, 0x5b, 0x5b, 0x60, 0x5b, 0x5b}, 0, 4, 7)
	jumps(t, []byte{0x00, 0xfe, 0x5b, 0xf3, 0x5b}, 2, 4) // what can't be reached, or is no instruction, ends nothing
}

// TestJumpsBehindEach has each byte, with many bytes 5b behind it.
func TestJumpsBehindEach(t *testing.T) {
	for op := range 256 {
		belong := 0
		if op >= 0x60 && op <= 0x7f {
			belong = op - 0x5f
		}
		for n := range 40 {
			code := append([]byte{byte(op)}, bytes.Repeat([]byte{0x5b}, n)...)
			var want []int
			if op == 0x5b {
				want = append(want, 0)
			}
			for i := 1 + belong; i <= n; i++ {
				want = append(want, i)
			}
			jumps(t, code, want...)
		}
	}
}

// TestShortCodes has all codes of up to 6 of the bytes that matter.
func TestShortCodes(t *testing.T) {
	elements := []byte{0x5b, 0x5f, 0x60, 0x61, 0x62, 0x7f, 0x80}
	all := [][]byte{nil}
	for from, n := 0, 0; n < 6; n++ {
		to := len(all)
		for _, code := range all[from:to] {
			for _, v := range elements {
				all = append(all, append(slices.Clone(code), v))
			}
		}
		from = to
	}
	for _, code := range all {
		jumps(t, code, refJumps(code)...)
	}
}

func TestLongCodes(t *testing.T) {
	r := noise(1)
	for n := range 500 {
		code := r.bytes(n)
		jumps(t, code, refJumps(code)...)
		code = r.bytes(n, 0x5b, 0x5b, 0x5b, 0x60, 0x65, 0x6f, 0x7e, 0x7f, 0x00)
		jumps(t, code, refJumps(code)...)
	}
	for _, n := range []int{24575, 24576, 24577, 1<<20 + 1} {
		code := r.bytes(n, 0x5b, 0x5b, 0x5b, 0x60, 0x65, 0x6f, 0x7e, 0x7f, 0x00)
		jumps(t, code, refJumps(code)...)
		code = bytes.Repeat([]byte{0x5b}, n)
		jumps(t, code, refJumps(code)...)
	}
}

// TestJumpsMemory demands that the code stays as it is, with its spare capacity, which is not read, and that each answer has memory of its own.
func TestJumpsMemory(t *testing.T) {
	room := []byte{0x5b, 0x60, 0x5b, 0x5b, 0x61, 0x5b, 0x5b, 0x5b, 0x5b}
	before := slices.Clone(room)
	code := room[:5]
	jumps(t, code, 0, 3)
	if !bytes.Equal(room, before) {
		t.Errorf("P1103 Jumps changes its argument: %x", room)
	}
	one, other := ops.Jumps(code), ops.Jumps(code)
	clear(one[:cap(one)])
	if !same(other, []int{0, 3}) {
		t.Errorf("P1103 two answers share memory")
	}
	clear(room)
	if !same(other, []int{0, 3}) {
		t.Errorf("P1103 an answer changes with its argument: %v", other)
	}
	jumps(t, before, 0, 3, 7, 8)
}

func BenchmarkJumps(b *testing.B) {
	r := noise(2)
	code := r.bytes(24576)
	for b.Loop() {
		ops.Jumps(code)
	}
}
