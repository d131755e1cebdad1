package keccak_test

import (
	"bytes"
	"crypto/sha3"
	"encoding/hex"
	"math/bits"
	"strings"
	"sync"
	"testing"

	"muniments/api"
	"muniments/keccak"
)

// rate is the chapter's.
const rate = 136

// message is n bytes that look random and are always the same.
func message(n int) []byte {
	b := make([]byte, n)
	state := uint32(n) + 1
	for i := range b {
		state = state*1664525 + 1013904223
		b[i] = byte(state >> 24)
	}
	return b
}

// planes is the state of FIPS 202, by x and y.
type planes [5][5]uint64

// stir is the permutation as FIPS 202 tells it, step by step, by its rules instead of numbers.
func stir(a planes) planes {
	state := byte(1)
	for range 24 {
		a = chi(turn(theta(a)))
		for j := range 7 {
			if state&1 == 1 {
				a[0][0] ^= 1 << (1<<j - 1)
			}
			state = state<<1 ^ state>>7*0x71
		}
	}
	return a
}

func theta(a planes) planes {
	var parity [5]uint64
	for x := range 5 {
		for y := range 5 {
			parity[x] ^= a[x][y]
		}
	}
	for x := range 5 {
		for y := range 5 {
			a[x][y] ^= parity[(x+4)%5] ^ bits.RotateLeft64(parity[(x+1)%5], 1)
		}
	}
	return a
}

// turn is rho and pi.
func turn(a planes) planes {
	b := planes{}
	b[0][0] = a[0][0]
	x, y := 1, 0
	for t := range 24 {
		b[y][(2*x+3*y)%5] = bits.RotateLeft64(a[x][y], (t+1)*(t+2)/2)
		x, y = y, (2*x+3*y)%5
	}
	return b
}

func chi(a planes) planes {
	var b planes
	for x := range 5 {
		for y := range 5 {
			b[x][y] = a[x][y] ^ ^a[(x+1)%5][y]&a[(x+2)%5][y]
		}
	}
	return b
}

// reference is the sponge on m, padded from the byte first on.
func reference(first byte, m []byte) [32]byte {
	padded := append(bytes.Clone(m), first)
	padded = append(padded, make([]byte, (rate-len(padded)%rate)%rate)...)
	padded[len(padded)-1] |= 0x80
	var a planes
	for i, b := range padded {
		lane := i % rate / 8
		a[lane%5][lane/5] ^= uint64(b) << (8 * (i % 8))
		if i%rate == rate-1 {
			a = stir(a)
		}
	}
	var out [32]byte
	for i := range out {
		out[i] = byte(a[i/8][0] >> (8 * (i % 8)))
	}
	return out
}

// lengths has every length up to three blocks, and some greater ones.
func lengths() []int {
	var l []int
	for n := range 3*rate + 2 {
		l = append(l, n)
	}
	return append(l, 10*rate-1, 10*rate, 10*rate+1, 24576, 1<<16+5)
}

// TestSum holds Sum against the reference, which with SHA-3's byte 6 must be SHA-3.
func TestSum(t *testing.T) {
	for _, n := range lengths() {
		m := message(n)
		if reference(6, m) != sha3.Sum256(m) {
			t.Fatalf("the reference is wrong at %d bytes", n)
		}
		if got, want := keccak.Sum(m), api.Word(reference(1, m)); got != want {
			t.Errorf("P201 %d bytes: %x, not %x", n, got, want)
		}
	}
}

// TestKnown has the chapter's examples, and hashes that are widely known.
func TestKnown(t *testing.T) {
	for _, c := range []struct {
		name, want string
		parts      [][]byte
	}{
		{"nothing", "c5d2460186f7233c927e7db2dcc703c0e500b653ca82273b7bfad8045d85a470", nil},
		{"a nil slice", "c5d2460186f7233c927e7db2dcc703c0e500b653ca82273b7bfad8045d85a470", [][]byte{nil}},
		{"empty slices", "c5d2460186f7233c927e7db2dcc703c0e500b653ca82273b7bfad8045d85a470", [][]byte{{}, nil, {}}},
		{"abc", "4e03657aea45a94fc7d47ba826c8d667c0d1e6e33a64a036ec44f58fa12d6c45", [][]byte{[]byte("abc")}},
		{"the byte 128", "56e81f171bcc55a6ff8345e692c0f86e5b48e01b996cadc001622fb5e363b421", [][]byte{{128}}},
		{"an empty list", "1dcc4de8dec75d7aab85b567b6ccd41ad312451b948a7413f0a142fd40d49347", [][]byte{{192}}},
		{"a sentence", "4d741b6f1eb29cb2a9b9911c82f56fa8d73b04959d3d9d222895df6c0b28aa15", [][]byte{[]byte("The quick brown fox jumps over the lazy dog")}},
	} {
		got := keccak.Sum(c.parts...)
		if hex.EncodeToString(got[:]) != c.want {
			t.Errorf("P201 %s: %x, not %s", c.name, got, c.want)
		}
	}
}

// TestParts cuts a message in two and in three: where it is cut makes no difference.
func TestParts(t *testing.T) {
	m := message(2*rate + 9)
	want := keccak.Sum(m)
	for i := range len(m) + 1 {
		if got := keccak.Sum(m[:i], m[i:]); got != want {
			t.Fatalf("P201 cut at %d: %x, not %x", i, got, want)
		}
		for _, width := range []int{0, 1, 3, 7, 8, 9, 64, rate} {
			j := min(i+width, len(m))
			if got := keccak.Sum(m[:i], nil, m[i:j], m[j:]); got != want {
				t.Fatalf("P201 cut at %d and %d: %x, not %x", i, j, got, want)
			}
		}
	}
	var single [][]byte
	for i := range m {
		single = append(single, m[i:i+1])
	}
	if got := keccak.Sum(single...); got != want {
		t.Errorf("P201 byte by byte: %x, not %x", got, want)
	}
	if keccak.Sum(m, m) != keccak.Sum(append(bytes.Clone(m), m...)) {
		t.Error("P201 the same part twice")
	}
}

// TestAlike hashes messages that a wrong padding would take for the same.
func TestAlike(t *testing.T) {
	seen := map[api.Word]int{}
	for i, m := range []string{"", "\x00", "\x01", "\x80", "\x01\x00", "\x00\x01", "\x81", strings.Repeat("\x00", rate-1), strings.Repeat("\x00", rate), "\x01" + strings.Repeat("\x00", rate-2) + "\x80"} {
		got := keccak.Sum([]byte(m))
		if j, ok := seen[got]; ok {
			t.Errorf("P201 messages %d and %d have the same hash", j, i)
		}
		seen[got] = i
	}
}

// TestArguments calls Sum on parts with spare capacity: parts and spare bytes stand, later changes of a part do not reach the result, and a call between changes nothing.
func TestArguments(t *testing.T) {
	whole := message(4 * rate)
	kept := bytes.Clone(whole)
	parts := [][]byte{whole[:5], whole[5 : rate+1], whole[rate+1 : 3*rate]}
	first := keccak.Sum(parts...)
	want := first
	if !bytes.Equal(whole, kept) || len(parts) != 3 || len(parts[0]) != 5 || len(parts[1]) != rate-4 || len(parts[2]) != 2*rate-1 {
		t.Fatal("P202 an argument was modified")
	}
	whole[0]++
	other := keccak.Sum(parts...)
	if first != want || other == want {
		t.Error("P202 a result hangs on what became of an argument")
	}
	whole[0]--
	if keccak.Sum(parts...) != want || keccak.Sum(kept[:3*rate]) != want {
		t.Error("P202 the same bytes have another hash the second time")
	}
}

// TestTogether hashes in several goroutines at once: calls share nothing.
func TestTogether(t *testing.T) {
	var group sync.WaitGroup
	for k := range 8 {
		group.Go(func() {
			for n := range 100 {
				m := message(n*8 + k)
				if keccak.Sum(m) != api.Word(reference(1, m)) {
					t.Errorf("P202 %d bytes, beside other calls", len(m))
				}
			}
		})
	}
	group.Wait()
}

var sink api.Word

func BenchmarkSumWord(b *testing.B) {
	m := message(32)
	for range b.N {
		sink = keccak.Sum(m)
	}
}

func BenchmarkSumLong(b *testing.B) {
	m := message(1 << 20)
	b.SetBytes(int64(len(m)))
	for range b.N {
		sink = keccak.Sum(m)
	}
}
