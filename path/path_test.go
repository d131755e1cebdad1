package path_test

import (
	"bytes"
	"encoding/hex"
	"slices"
	"strings"
	"sync"
	"testing"

	"muniments/path"
)

// noise makes bytes that look random and are always the same.
type noise uint32

func (n *noise) byte() byte {
	*n = *n*1664525 + 1013904223
	return byte(*n >> 24)
}

func (n *noise) bytes(count int) []byte {
	b := make([]byte, count)
	for i := range b {
		b[i] = n.byte()
	}
	return b
}

func (n *noise) path(count int) []byte {
	p := n.bytes(count)
	for i := range p {
		p[i] %= 16
	}
	return p
}

// The reference: a path is what the digits of a hexadecimal text are, so encoding/hex tells what its bytes are.

const digits = "0123456789abcdef"

// nibbles is the path that the digits of text spell.
func nibbles(text string) []byte {
	p := []byte{}
	for _, d := range []byte(text) {
		p = append(p, byte(strings.IndexByte(digits, d)))
	}
	return p
}

// spell is the digits of p, or false if an element has none.
func spell(p []byte) (string, bool) {
	var text strings.Builder
	for _, v := range p {
		if int(v) >= len(digits) {
			return "", false
		}
		text.WriteByte(digits[v])
	}
	return text.String(), true
}

// decode is the bytes that the digits of text spell, or false if a byte lacks a digit.
func decode(text string) ([]byte, bool) {
	b, err := hex.DecodeString(text)
	if err != nil {
		return nil, false
	}
	return b, true
}

// refJoin is the bytes of p, or false if there are none.
func refJoin(p []byte) ([]byte, bool) {
	text, ok := spell(p)
	if !ok {
		return nil, false
	}
	return decode(text)
}

// refPack is the hex prefix encoding of p, or false if p is no path.
func refPack(p []byte, leaf bool) ([]byte, bool) {
	text, ok := spell(p)
	if !ok {
		return nil, false
	}
	fronts := [2]string{"00", "1"}
	if leaf {
		fronts = [2]string{"20", "3"}
	}
	return decode(fronts[len(p)%2] + text)
}

// kind is a path, by its digits, and whether it is a leaf's.
type kind struct {
	digits string
	leaf   bool
}

// packed has every path of at most 3 nibbles, of both kinds, by its encoding.
func packed() map[string]kind {
	all := map[string]kind{}
	for _, p := range slicesOf([]byte(digits), 3) {
		for _, leaf := range []bool{false, true} {
			b, _ := refPack(nibbles(string(p)), leaf)
			all[string(b)] = kind{string(p), leaf}
		}
	}
	return all
}

// slicesOf has every slice of at most so many of the elements.
func slicesOf(elements []byte, most int) [][]byte {
	all := [][]byte{{}}
	for from := 0; most > 0; most-- {
		to := len(all)
		for _, s := range all[from:to] {
			for _, v := range elements {
				all = append(all, append(slices.Clone(s), v))
			}
		}
		from = to
	}
	return all
}

// everyByte is the bytes from 0 to 255.
func everyByte() []byte {
	var b []byte
	for v := range 256 {
		b = append(b, byte(v))
	}
	return b
}

// checkJoin holds Join against the reference.
func checkJoin(t *testing.T, p []byte) {
	t.Helper()
	want, wantOK := refJoin(p)
	if b, ok := path.Join(p); ok != wantOK || !bytes.Equal(b, want) {
		t.Fatalf("P501 Join of %v: %x, %v, not %x, %v", p, b, ok, want, wantOK)
	}
}

// checkPack holds Pack against the reference, and Read against Pack.
func checkPack(t *testing.T, p []byte, leaf bool) {
	t.Helper()
	want, wantOK := refPack(p, leaf)
	b, ok := path.Pack(p, leaf)
	if ok != wantOK || !bytes.Equal(b, want) {
		t.Fatalf("P501 Pack of %v, %v: %x, %v, not %x, %v", p, leaf, b, ok, want, wantOK)
	}
	if !ok {
		return
	}
	if got, gotLeaf, ok := path.Read(b); !ok || gotLeaf != leaf || !bytes.Equal(got, p) {
		t.Fatalf("P501 Read of %x: %v, %v, %v, not %v, %v", b, got, gotLeaf, ok, p, leaf)
	}
}

// refuse demands that Read returns false, and zero values beside it.
func refuse(t *testing.T, b []byte) {
	t.Helper()
	if p, leaf, ok := path.Read(b); ok || leaf || len(p) != 0 {
		t.Fatalf("P501 Read of %x: %v, %v, %v, although Pack never returns it", b, p, leaf, ok)
	}
}

func TestExamples(t *testing.T) {
	if p := path.Split([]byte{0x12, 0xf0}); !bytes.Equal(p, []byte{1, 2, 15, 0}) {
		t.Errorf("P501 Split: %v", p)
	}
	if b, ok := path.Join([]byte{1, 2, 15, 0}); !ok || !bytes.Equal(b, []byte{0x12, 0xf0}) {
		t.Errorf("P501 Join: %x, %v", b, ok)
	}
	if b, ok := path.Pack([]byte{1, 2, 3}, true); !ok || !bytes.Equal(b, []byte{49, 35}) {
		t.Errorf("P501 Pack: %v, %v", b, ok)
	}
	if p, leaf, ok := path.Read([]byte{0x20}); !ok || !leaf || len(p) != 0 {
		t.Errorf("P501 Read: %v, %v, %v", p, leaf, ok)
	}
	if n := path.Common([]byte("abc"), []byte("abd")); n != 2 {
		t.Errorf("P501 Common: %d", n)
	}
}

// TestFirst has what Pack writes first for each kind and parity, with the elements 0, 15 and none.
func TestFirst(t *testing.T) {
	for _, c := range []struct {
		p    []byte
		leaf bool
		want []byte
	}{
		{nil, false, []byte{0x00}},
		{[]byte{}, false, []byte{0x00}},
		{nil, true, []byte{0x20}},
		{[]byte{}, true, []byte{0x20}},
		{[]byte{0}, false, []byte{0x10}},
		{[]byte{0}, true, []byte{0x30}},
		{[]byte{15}, false, []byte{0x1f}},
		{[]byte{15}, true, []byte{0x3f}},
		{[]byte{0, 0}, false, []byte{0x00, 0x00}},
		{[]byte{0, 15}, true, []byte{0x20, 0x0f}},
		{[]byte{15, 15}, false, []byte{0x00, 0xff}},
		{[]byte{15, 1, 12, 11, 8}, false, []byte{0x1f, 0x1c, 0xb8}},
		{[]byte{15, 1, 12, 11, 8, 0}, true, []byte{0x20, 0xf1, 0xcb, 0x80}},
	} {
		if b, ok := path.Pack(c.p, c.leaf); !ok || !bytes.Equal(b, c.want) {
			t.Errorf("P501 Pack of %v, %v: %x, %v, not %x", c.p, c.leaf, b, ok, c.want)
		}
		if p, leaf, ok := path.Read(c.want); !ok || leaf != c.leaf || !bytes.Equal(p, c.p) {
			t.Errorf("P501 Read of %x: %v, %v, %v, not %v, %v", c.want, p, leaf, ok, c.p, c.leaf)
		}
	}
}

// TestSplit has every byte beside every other, and many lengths; Join must lead back.
func TestSplit(t *testing.T) {
	list := slicesOf(everyByte(), 2)
	r := noise(1)
	for n := range 300 {
		list = append(list, r.bytes(n))
	}
	for _, b := range append(list, nil, r.bytes(1<<20+1)) {
		p := path.Split(b)
		if !bytes.Equal(p, nibbles(hex.EncodeToString(b))) {
			t.Fatalf("P501 Split of %d bytes %x..", len(b), b[:min(len(b), 20)])
		}
		if back, ok := path.Join(p); !ok || !bytes.Equal(back, b) {
			t.Fatalf("P501 Join of the Split of %d bytes %x..", len(b), b[:min(len(b), 20)])
		}
	}
}

// TestJoin has every element beside every other, both parities, and a wrong element at each place.
func TestJoin(t *testing.T) {
	checkJoin(t, nil)
	for _, p := range slicesOf(everyByte(), 2) {
		checkJoin(t, p)
	}
	r := noise(2)
	for n := range 100 {
		p := r.path(n)
		checkJoin(t, p)
		for place := range p {
			for _, v := range []byte{15, 16, 17, 32, 127, 128, 240, 255} {
				turned := slices.Clone(p)
				turned[place] = v
				checkJoin(t, turned)
			}
		}
	}
}

// TestPack has every path of at most 4 nibbles, many lengths, and a wrong element at each place.
func TestPack(t *testing.T) {
	for _, leaf := range []bool{false, true} {
		checkPack(t, nil, leaf)
		for _, p := range slicesOf(everyByte()[:16], 4) {
			checkPack(t, p, leaf)
		}
		for _, p := range slicesOf(everyByte(), 2) {
			checkPack(t, p, leaf)
		}
		r := noise(3)
		for n := range 131 {
			p := r.path(n)
			checkPack(t, p, leaf)
			for place := range p {
				for _, v := range []byte{15, 16, 17, 32, 127, 128, 240, 255} {
					turned := slices.Clone(p)
					turned[place] = v
					checkPack(t, turned, leaf)
				}
			}
		}
		checkPack(t, slices.Repeat(r.path(64), 1<<10), leaf)
	}
}

// TestRead has every byte string of at most 2 bytes: it is the encoding of a path of at most 3 nibbles, or of none.
func TestRead(t *testing.T) {
	refuse(t, nil)
	all := packed()
	found := 0
	for _, b := range slicesOf(everyByte(), 2) {
		want, known := all[string(b)]
		if !known {
			refuse(t, b)
			continue
		}
		found++
		if p, leaf, ok := path.Read(b); !ok || leaf != want.leaf || !bytes.Equal(p, nibbles(want.digits)) {
			t.Fatalf("P501 Read of %x: %v, %v, %v, not %s, %v", b, p, leaf, ok, want.digits, want.leaf)
		}
	}
	if found != 2*(1+16+256+4096) {
		t.Fatalf("the reference has %d encodings", found)
	}
}

// TestReadWrong has longer byte strings with each first byte: 34 of these may begin an encoding.
func TestReadWrong(t *testing.T) {
	r := noise(4)
	for _, n := range []int{2, 3, 31, 32, 33, 1000} {
		tail := r.bytes(n)
		for first := range 256 {
			b := append([]byte{byte(first)}, tail...)
			high, low := first/16, first%16
			if high > 3 || high%2 == 0 && low != 0 {
				refuse(t, b)
				continue
			}
			want := nibbles(hex.EncodeToString(b))[2-high%2:]
			if p, leaf, ok := path.Read(b); !ok || leaf != (high >= 2) || !bytes.Equal(p, want) {
				t.Fatalf("P501 Read of %x: %v, %v, %v", b, p, leaf, ok)
			}
		}
	}
}

// TestCommon holds Common against prefixes that are compared whole; the elements need not be nibbles.
func TestCommon(t *testing.T) {
	all := append(slicesOf([]byte{0, 15, 255}, 5), nil)
	for _, a := range all {
		for _, b := range all {
			want := 0
			for n := range min(len(a), len(b)) + 1 {
				if bytes.Equal(a[:n], b[:n]) {
					want = n
				}
			}
			if n := path.Common(a, b); n != want {
				t.Fatalf("P501 Common of %v and %v: %d, not %d", a, b, n, want)
			}
		}
	}
}

// TestCommonLong has slices that differ at one place, or of which one is the beginning of the other.
func TestCommonLong(t *testing.T) {
	r := noise(5)
	a := r.bytes(200)
	for n := range len(a) {
		b := slices.Clone(a)
		b[n] ^= 1 << (n % 8)
		if path.Common(a, b) != n || path.Common(b, a) != n {
			t.Errorf("P501 Common of two slices that differ at %d: %d, %d", n, path.Common(a, b), path.Common(b, a))
		}
		if path.Common(a, a[:n]) != n || path.Common(a[:n], a) != n || path.Common(a[:n:n], slices.Clone(a)) != n {
			t.Errorf("P501 Common of a slice and its first %d elements", n)
		}
	}
	if path.Common(a, a) != len(a) || path.Common(a, slices.Clone(a)) != len(a) {
		t.Error("P501 Common of a slice and itself")
	}
}

// spacious is a copy of b with something in its spare capacity.
func spacious(b []byte) []byte {
	room := append(slices.Clone(b), "spare"...)
	return room[:len(b)]
}

// TestArguments demands that what is given stays as it is, with the spare capacity, and that the results share nothing with it.
func TestArguments(t *testing.T) {
	r := noise(6)
	calls := map[string]func(b []byte) []byte{
		"Split": func(b []byte) []byte { return path.Split(b) },
		"Join":  func(b []byte) []byte { got, _ := path.Join(b); return got },
		"Pack":  func(b []byte) []byte { got, _ := path.Pack(b, true); return got },
		"Read":  func(b []byte) []byte { got, _, _ := path.Read(b); return got },
		"Common": func(b []byte) []byte {
			return []byte{byte(path.Common(b, spacious(b)))}
		},
	}
	for n := range 70 {
		leaf, _ := refPack(r.path(n), true)
		for _, given := range [][]byte{r.bytes(n), r.path(n), append(r.path(n), 16), leaf} {
			for name, call := range calls {
				arg := spacious(given)
				first, second := call(arg), call(arg)
				if !bytes.Equal(arg, given) || string(arg[len(arg):len(arg)+5]) != "spare" {
					t.Fatalf("P502 %s changes its argument %x", name, given)
				}
				want := slices.Clone(first)
				if !bytes.Equal(second, want) {
					t.Fatalf("P502 %s of %x: %x, and then %x", name, given, first, second)
				}
				clear(arg[:cap(arg)])
				if !bytes.Equal(first, want) {
					t.Fatalf("P502 %s: its result shares memory with its argument", name)
				}
				clear(first[:cap(first)])
				if !bytes.Equal(second, want) || !bytes.Equal(call(spacious(given)), want) {
					t.Fatalf("P502 %s: two results share memory", name)
				}
			}
		}
	}
}

// TestTogether calls everything from many goroutines at once, with one argument for all.
func TestTogether(t *testing.T) {
	r := noise(7)
	p := r.path(101)
	b, _ := refPack(p, true)
	even, _ := refJoin(p[1:])
	var all sync.WaitGroup
	for range 8 {
		all.Go(func() {
			for range 200 {
				split := path.Split(even)
				joined, _ := path.Join(p[1:])
				packed, _ := path.Pack(p, true)
				read, leaf, ok := path.Read(b)
				if !bytes.Equal(split, p[1:]) || !bytes.Equal(joined, even) || !bytes.Equal(packed, b) || !bytes.Equal(read, p) || !leaf || !ok || path.Common(p, read) != len(p) {
					t.Error("P502 a call beside others")
				}
			}
		})
	}
	all.Wait()
}
