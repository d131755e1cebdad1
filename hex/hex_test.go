package hex_test

import (
	"bytes"
	stdhex "encoding/hex"
	"math/big"
	"strings"
	"sync"
	"testing"

	"muniments/api"
	"muniments/hex"
	"muniments/word"
)

// message is n bytes that look random and are always the same.
func message(n int) []byte {
	b := make([]byte, n)
	state := uint32(n) + 1
	for i := range b {
		state = state*1664525 + 1013904223
		b[i] = byte(state >> 24)
	}
	return b
}

// readers are the functions that read a text, each with what writes it; what they return beside an error is told as text too.
func readers() map[string]func(s string) (text string, zero bool, err api.Errno) {
	return map[string]func(s string) (string, bool, api.Errno){
		"Read": func(s string) (string, bool, api.Errno) {
			b, err := hex.Read(s)
			return hex.Text(b), len(b) == 0, err
		},
		"Word": func(s string) (string, bool, api.Errno) {
			w, err := hex.Word(s)
			return hex.Short(w), w == api.Word{}, err
		},
		"Addr": func(s string) (string, bool, api.Errno) {
			a, err := hex.Addr(s)
			return hex.Text(a[:]), a == api.Addr{}, err
		},
	}
}

// accept demands that s is read by the named function, and that it is the text of what was read.
func accept(t *testing.T, name, s string) {
	t.Helper()
	if text, _, err := readers()[name](s); err != api.OK || text != s {
		t.Fatalf("P301 %s of %q: %d, the text being %q", name, s, err, text)
	}
}

// refuse demands ErrSyntax, and zero values beside it.
func refuse(t *testing.T, name, s string) {
	t.Helper()
	if text, zero, err := readers()[name](s); err != api.ErrSyntax || !zero {
		t.Fatalf("P301 %s of %q: %d beside %s", name, s, err, text)
	}
}

func TestText(t *testing.T) {
	for _, c := range []struct {
		b    []byte
		want string
	}{
		{nil, "0x"},
		{[]byte{}, "0x"},
		{[]byte{0}, "0x00"},
		{[]byte{10, 255}, "0x0aff"},
		{[]byte{0x01, 0x23, 0x45, 0x67, 0x89, 0xab, 0xcd, 0xef}, "0x0123456789abcdef"},
	} {
		if got := hex.Text(c.b); got != c.want {
			t.Errorf("P301 Text of %v: %q, not %q", c.b, got, c.want)
		}
	}
	for v := range 256 {
		if got, want := hex.Text([]byte{byte(v)}), "0x"+stdhex.EncodeToString([]byte{byte(v)}); got != want {
			t.Errorf("P301 Text of the byte %d: %q, not %q", v, got, want)
		}
	}
	for _, n := range []int{2, 3, 19, 20, 21, 31, 32, 33, 1000, 1<<17 + 1} {
		if hex.Text(message(n)) != "0x"+stdhex.EncodeToString(message(n)) {
			t.Errorf("P301 Text of %d bytes", n)
		}
	}
}

// TestReadBack reads the texts of byte strings of many lengths.
func TestReadBack(t *testing.T) {
	for n := range 300 {
		b := message(n)
		got, err := hex.Read(hex.Text(b))
		if err != api.OK || !bytes.Equal(got, b) {
			t.Fatalf("P301 Read of the Text of %x: %x, %d", b, got, err)
		}
	}
	long := message(1<<17 + 1)
	if got, err := hex.Read(hex.Text(long)); err != api.OK || !bytes.Equal(got, long) {
		t.Errorf("P301 Read of the Text of %d bytes: %d bytes, %d", len(long), len(got), err)
	}
}

// TestNoText has texts that none of the functions accepts.
func TestNoText(t *testing.T) {
	forty, other := strings.Repeat("0", 40), strings.Repeat("7", 39)
	for _, s := range []string{
		"", "0", "x", "00", "ab", "0X", "0X07", "x0", "x07", "00x07", "0x0x", "0x0x07", "1x07", "0y07",
		"0xAB", "0xaB", "0xAb", "0xfF", "0xg0", "0x0g", "0x/0", "0x:0", "0x`0", "0x@0", "0xG0",
		" 0x07", "0x07 ", "0x 7", "0x7 ", "0x07\n", "\n0x07", "0x07\x00", "0x\x00\x07", "\x000x07",
		"-0x07", "+0x07", "0x-7", "0x+7", "0x0_7", "0x_7", "0x07,08", "0x7.", "0x.7",
		forty, "0X" + forty, "0x" + other + "A", "0x" + other + " ", "0x" + other + "\n", "0xA" + other, "0x " + other, "0x" + other + "g",
		// Runes that a cut to a byte would make digits, others that are digits elsewhere, and bytes that are no rune.
		"0x\u0130\u0130", "0x\u0161", "0x7\u0130", "0x\uff10", "0x\uff10\uff10", "0x\u0660\u0660", "0x\u00e9", "0x\U00010030", "0x\ufffd\ufffd",
		"0x\xff\xff", "0x\xb0\xb0", "0x\x80", "0x7\xff", "0x\xc4", "0x\xf0\x90", "0x0" + "\xc4\xb0" + "0",
		"0x" + strings.Repeat("\u0130", 20), "0x" + strings.Repeat("\xff", 40), "0x" + strings.Repeat("\uff10", 40),
		"\ufeff0x07", "\uff10x07", "0\u00d707",
	} {
		for name := range readers() {
			refuse(t, name, s)
		}
	}
}

// TestTwoBytes reads 0x before any two bytes, and before any one: just the texts are accepted that Text writes.
func TestTwoBytes(t *testing.T) {
	texts := map[string]bool{}
	for v := range 256 {
		texts[hex.Text([]byte{byte(v)})] = true
	}
	for first := range 256 {
		refuse(t, "Read", "0x"+string([]byte{byte(first)}))
		for second := range 256 {
			s := "0x" + string([]byte{byte(first), byte(second)})
			if texts[s] {
				accept(t, "Read", s)
			} else {
				refuse(t, "Read", s)
			}
		}
	}
}

// TestPlaces puts every byte at every place of a text that is accepted otherwise.
func TestPlaces(t *testing.T) {
	for name, s := range map[string]string{
		"Read": "0x" + strings.Repeat("1f", 17),
		"Addr": "0x" + strings.Repeat("a9", 20),
		"Word": "0x" + strings.Repeat("5c", 32),
	} {
		accept(t, name, s)
		for i := range s {
			for v := range 256 {
				turned := s[:i] + string([]byte{byte(v)}) + s[i+1:]
				digit := i > 1 && strings.IndexByte("0123456789abcdef", byte(v)) >= 0
				if name == "Word" && i == 2 && v == '0' {
					digit = false
				}
				if digit || turned == s {
					accept(t, name, turned)
				} else {
					refuse(t, name, turned)
				}
			}
		}
	}
}

// TestRunes puts every rune where a digit belongs.
func TestRunes(t *testing.T) {
	for r := rune(0); r <= 0x10ffff; r++ {
		if strings.ContainsRune("0123456789abcdef", r) {
			continue
		}
		c := string(r)
		for _, s := range []string{"0x" + c, "0x" + c + c, "0x7" + c} {
			if _, err := hex.Read(s); err != api.ErrSyntax {
				t.Fatalf("P301 Read of %q: %d", s, err)
			}
			if _, err := hex.Word(s); err != api.ErrSyntax {
				t.Fatalf("P301 Word of %q: %d", s, err)
			}
		}
		if s := "0x" + strings.Repeat("7", 40-len(c)) + c; len(s) == 42 {
			if _, err := hex.Addr(s); err != api.ErrSyntax {
				t.Fatalf("P301 Addr of %q: %d", s, err)
			}
		}
	}
}

// words has every word of one digit that is not 0, at every place, before other digits and before zeros.
func words() []api.Word {
	list := []api.Word{{}}
	for n := range uint(64) {
		for v := int64(1); v < 16; v++ {
			high := new(big.Int).Lsh(big.NewInt(v), 4*n)
			full := new(big.Int).Sub(new(big.Int).Lsh(big.NewInt(v+1), 4*n), big.NewInt(1))
			list = append(list, api.Word(high.FillBytes(make([]byte, 32))), api.Word(full.FillBytes(make([]byte, 32))))
		}
	}
	for n := range 33 {
		var w api.Word
		copy(w[32-n:], message(n))
		list = append(list, w)
	}
	return list
}

// TestShort holds Short against math/big, and reads its texts back.
func TestShort(t *testing.T) {
	for _, w := range words() {
		s := "0x" + new(big.Int).SetBytes(w[:]).Text(16)
		if got := hex.Short(w); got != s {
			t.Fatalf("P301 Short of %x: %q, not %q", w, got, s)
		}
		if got, err := hex.Word(s); err != api.OK || got != w {
			t.Fatalf("P301 Word of %q: %x, %d", s, got, err)
		}
		refuse(t, "Word", "0x0"+s[2:])
	}
	for n, want := range map[int]string{0: "0x0", 1: "0x1", 10: "0xa", 15: "0xf", 16: "0x10", 255: "0xff", 256: "0x100", -1: "0x" + strings.Repeat("f", 64)} {
		if got := hex.Short(word.Of(n)); got != want {
			t.Errorf("P301 Short of %d: %q, not %q", n, got, want)
		}
	}
}

// TestWordLengths reads words of all lengths: from 1 digit to 64, and 0 ahead of no other digit.
func TestWordLengths(t *testing.T) {
	refuse(t, "Word", "0x")
	accept(t, "Word", "0x0")
	for n := 1; n <= 130; n++ {
		s := "0x" + strings.Repeat("e", n)
		if n <= 64 {
			accept(t, "Word", s)
		} else {
			refuse(t, "Word", s)
		}
		refuse(t, "Word", "0x0"+s[2:])
		refuse(t, "Word", "0x0"+strings.Repeat("0", n))
		refuse(t, "Word", "0x1"+strings.Repeat("0", n+63))
	}
}

// TestAddr reads addresses of all lengths: just that of 40 digits is one.
func TestAddr(t *testing.T) {
	for n := range 130 {
		for _, s := range []string{"0x" + strings.Repeat("7", n), "0x" + strings.Repeat("0", n)} {
			if n == 40 {
				accept(t, "Addr", s)
			} else {
				refuse(t, "Addr", s)
			}
		}
	}
	refuse(t, "Addr", "0x07")
	for n := range 100 {
		want := api.Addr(message(20 + n)[n:])
		if got, err := hex.Addr(hex.Text(want[:])); err != api.OK || got != want {
			t.Fatalf("P301 Addr of the Text of %x: %x, %d", want, got, err)
		}
	}
}

// TestArguments: arguments and their spare bytes stand, results are new, and a call between changes nothing.
func TestArguments(t *testing.T) {
	whole := message(64)
	kept := bytes.Clone(whole)
	text := hex.Text(whole[:32])
	if !bytes.Equal(whole, kept) {
		t.Fatal("P302 Text modified its argument, or what lies behind it")
	}
	whole[0]++
	if text != "0x"+stdhex.EncodeToString(kept[:32]) || hex.Text(whole[:32]) == text {
		t.Error("P302 a text hangs on what became of the bytes")
	}
	first, _ := hex.Read(text)
	second, _ := hex.Read(text)
	for i := range first {
		first[i] = 0
	}
	first = append(first, 1, 2, 3)
	third, err := hex.Read(text)
	if !bytes.Equal(second, kept[:32]) || !bytes.Equal(third, kept[:32]) || err != api.OK {
		t.Error("P302 results of Read share their bytes")
	}
	w := api.Word(kept[:32])
	short := hex.Short(w)
	hex.Short(word.Of(0))
	hex.Read("0x7")
	if w != api.Word(kept[:32]) || hex.Short(w) != short {
		t.Error("P302 Short is another the second time")
	}
	if again, err := hex.Word(short); again != w || err != api.OK {
		t.Error("P302 Word is another after a call that failed")
	}
}

// TestTogether calls in several goroutines at once: calls share nothing.
func TestTogether(t *testing.T) {
	var group sync.WaitGroup
	for k := range 8 {
		group.Go(func() {
			for n := range 100 {
				b := message(n*8 + k)
				got, err := hex.Read(hex.Text(b))
				if err != api.OK || !bytes.Equal(got, b) {
					t.Errorf("P302 %d bytes, beside other calls", len(b))
				}
				w := word.Of(n*8 + k)
				if again, err := hex.Word(hex.Short(w)); again != w || err != api.OK {
					t.Errorf("P302 the word %d, beside other calls", n*8+k)
				}
			}
		})
	}
	group.Wait()
}

var sink string

func BenchmarkText(b *testing.B) {
	m := message(1 << 16)
	b.SetBytes(int64(len(m)))
	for range b.N {
		sink = hex.Text(m)
	}
}

func BenchmarkRead(b *testing.B) {
	s := hex.Text(message(1 << 16))
	b.SetBytes(int64(len(s)))
	for range b.N {
		hex.Read(s)
	}
}

func BenchmarkShort(b *testing.B) {
	w := word.Of(123456789)
	for range b.N {
		sink = hex.Short(w)
	}
}
