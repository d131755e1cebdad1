package acct_test

import (
	"bytes"
	"math"
	"slices"
	"strings"
	"testing"

	"muniments/acct"
	"muniments/api"
)

// packs demands these bytes of Pack, and the body of Read.
func packs(t *testing.T, b api.Body, want []byte) {
	t.Helper()
	got, err := acct.Pack(b)
	if err != api.OK || !bytes.Equal(got, want) {
		t.Errorf("P901 Pack of %v: %x, error %d, not %x", b, got, err, want)
	}
	if body, err := acct.Read(want); err != api.OK || body != b {
		t.Errorf("P901 Read of %x: %v, error %d, not %v", want, body, err, b)
	}
}

// TestPack has bodies whose bytes are written out.
func TestPack(t *testing.T) {
	root, code := wordOf(noPairs), wordOf(noBytes)
	zeros, ones := strings.Repeat("00", 32), strings.Repeat("ff", 32)
	for _, c := range []struct {
		body api.Body
		text string
	}{
		{api.Body{}, "f844 80 80 a0" + zeros + "a0" + zeros},
		{api.Body{Root: root, CodeHash: code}, "f844 80 80 a0" + noPairs + "a0" + noBytes},
		{api.Body{Nonce: 1, Root: root, CodeHash: code}, "f844 01 80 a0" + noPairs + "a0" + noBytes},
		{api.Body{Balance: low(1), Root: root, CodeHash: code}, "f844 80 01 a0" + noPairs + "a0" + noBytes},
		{api.Body{Nonce: 127, Balance: low(127)}, "f844 7f 7f a0" + zeros + "a0" + zeros},
		{api.Body{Nonce: 128, Balance: low(128)}, "f846 8180 8180 a0" + zeros + "a0" + zeros},
		{api.Body{Nonce: 255, Balance: low(255)}, "f846 81ff 81ff a0" + zeros + "a0" + zeros},
		{api.Body{Nonce: 256, Balance: wordOf("100")}, "f848 820100 820100 a0" + zeros + "a0" + zeros},
		{api.Body{Nonce: 1, Balance: wordOf("05f446a7"), Root: root, CodeHash: code}, "f848 01 8405f446a7 a0" + noPairs + "a0" + noBytes},
		{api.Body{Balance: wordOf("019a59"), Root: root, CodeHash: code}, "f847 80 83019a59 a0" + noPairs + "a0" + noBytes},
		{api.Body{Root: low(1), CodeHash: api.Word{1}}, "f844 80 80 a0" + zeros[:62] + "01 a0 01" + zeros[:62]},
		{api.Body{Nonce: math.MaxInt, Balance: highest, Root: highest, CodeHash: highest}, "f86c 887fffffffffffffff a0" + ones + "a0" + ones + "a0" + ones},
	} {
		packs(t, c.body, unhex(strings.ReplaceAll(c.text, " ", "")))
	}
}

// TestNumbers has nonces and balances with each number of bits.
func TestNumbers(t *testing.T) {
	for k := range 63 {
		for _, n := range []int{1<<k - 1, 1 << k, 1<<k + 1} {
			b := api.Body{Nonce: n, Balance: low(3), Root: low(4), CodeHash: low(5)}
			packs(t, b, refPack(b))
		}
	}
	for k := range 256 {
		for _, first := range []byte{1 << (k % 8), 255 >> (k % 8)} {
			var w api.Word
			w[k/8] = first
			b := api.Body{Nonce: 7, Balance: w, Root: w, CodeHash: w}
			packs(t, b, refPack(b))
		}
	}
}

func TestBodyNoise(t *testing.T) {
	r := noise(1)
	for range 3000 {
		b := r.body()
		packs(t, b, refPack(b))
	}
}

func TestNegativeNonce(t *testing.T) {
	for _, n := range []int{-1, -2, -256, math.MinInt + 1, math.MinInt} {
		b := api.Body{Nonce: n, Balance: low(1), Root: low(2), CodeHash: low(3)}
		if got, err := acct.Pack(b); err != api.ErrArg || len(got) != 0 {
			t.Errorf("P901 Pack with the nonce %d: %x, error %d, not ErrArg", n, got, err)
		}
	}
}

// readsNothing demands ErrByte of Read.
func readsNothing(t *testing.T, name string, b []byte) {
	t.Helper()
	if got, err := acct.Read(b); err != api.ErrByte || got != (api.Body{}) {
		t.Errorf("P901 Read of %s: %v, error %d, not ErrByte", name, got, err)
	}
}

// nest is the encoding of the item b within so many lists.
func nest(b []byte, depth int) []byte {
	for range depth {
		b = refList(b)
	}
	return b
}

// TestNoBody has lists that look like that of a body, each with one fault.
func TestNoBody(t *testing.T) {
	hash := "a0" + strings.Repeat("ab", 32)
	body := func(items ...string) []byte { return refList(unhex(strings.Join(items, ""))) }
	ab := wordOf(hash[2:])
	packs(t, api.Body{Nonce: 1, Balance: low(2), Root: ab, CodeHash: ab}, body("01", "02", hash, hash))
	for _, c := range []struct {
		name string
		b    []byte
	}{
		{"nothing", nil},
		{"no bytes", []byte{}},
		{"a byte", []byte{1}},
		{"an empty byte string", []byte{128}},
		{"an empty list", []byte{192}},
		{"a list of three items", body("01", "02", hash)},
		{"a list of five items", body("01", "02", hash, hash, "80")},
		{"a list of five hashes", body("01", "02", hash, hash, hash)},
		{"four empty items", body("80", "80", "80", "80")},
		{"the items in another order", body(hash, hash, "01", "02")},
		{"a body in a list", nest(body("01", "02", hash, hash), 1)},
		{"the items of a body as a byte string", slices.Concat([]byte{184, 68}, unhex("0102"+hash+hash))},
		{"the items of a body without a head", unhex("0102" + hash + hash)},

		{"a list as nonce", body("c0", "02", hash, hash)},
		{"a list of the nonce", body("c101", "02", hash, hash)},
		{"the nonce 0 as a byte", body("00", "02", hash, hash)},
		{"a nonce with a leading zero", body("820001", "02", hash, hash)},
		{"a nonce that encodes itself, with a head", body("8101", "02", hash, hash)},
		{"the nonce 2^63", body("888000000000000000", "02", hash, hash)},
		{"the nonce 2^64 - 1", body("88ffffffffffffffff", "02", hash, hash)},
		{"the nonce 2^64", body("89010000000000000000", "02", hash, hash)},
		{"a nonce with 32 bytes", body(hash, "02", hash, hash)},

		{"a list as balance", body("01", "c0", hash, hash)},
		{"a list of the balance", body("01", "c102", hash, hash)},
		{"the balance 0 as a byte", body("01", "00", hash, hash)},
		{"a balance with a leading zero", body("01", "820002", hash, hash)},
		{"a balance with 32 bytes and a leading zero", body("01", "a000"+strings.Repeat("ab", 31), hash, hash)},
		{"a balance that encodes itself, with a head", body("01", "8102", hash, hash)},
		{"a balance with 33 bytes", body("01", "a1"+strings.Repeat("ab", 33), hash, hash)},
		{"the balance 2^256", body("01", "a101"+strings.Repeat("00", 32), hash, hash)},

		{"an empty root", body("01", "02", "80", hash)},
		{"a root of one byte", body("01", "02", "05", hash)},
		{"a root with 31 bytes", body("01", "02", "9f"+strings.Repeat("ab", 31), hash)},
		{"a root with 33 bytes", body("01", "02", "a1"+strings.Repeat("ab", 33), hash)},
		{"an empty list as root", body("01", "02", "c0", hash)},
		{"a list of 32 items as root", body("01", "02", "e0"+strings.Repeat("05", 32), hash)},
		{"a list of the root", body("01", "02", "e1"+hash, hash)},

		{"an empty hash", body("01", "02", hash, "80")},
		{"a hash of one byte", body("01", "02", hash, "05")},
		{"a hash with 31 bytes", body("01", "02", hash, "9f"+strings.Repeat("ab", 31))},
		{"a hash with 33 bytes", body("01", "02", hash, "a1"+strings.Repeat("ab", 33))},
		{"an empty list as hash", body("01", "02", hash, "c0")},
		{"a list of 32 items as hash", body("01", "02", hash, "e0"+strings.Repeat("05", 32))},
		{"a list of the hash", body("01", "02", hash, "e1"+hash)},

		{"a head with a leading zero", slices.Concat([]byte{249, 0, 68}, unhex("0102"+hash+hash))},
		{"a head of a hash with a length of its own", body("01", "02", "b820"+hash[2:], hash)},
		{"a byte too much", append(body("01", "02", hash, hash), 128)},
		{"a body twice", slices.Concat(body("01", "02", hash, hash), body("01", "02", hash, hash))},
	} {
		readsNothing(t, c.name, c.b)
	}
}

// TestLongBytes has bytes that are too long or too deep for any item: they are no body, like others.
func TestLongBytes(t *testing.T) {
	r := noise(2)
	b := refPack(r.body())
	for _, depth := range []int{1, 31, 32, 33, 40} {
		readsNothing(t, "a deep list", nest([]byte{192}, depth))
		readsNothing(t, "a deep body", nest(b, depth))
	}
	readsNothing(t, "2^24 bytes", make([]byte, 1<<24))
	readsNothing(t, "2^24 + 1 bytes", make([]byte, 1<<24+1))
	readsNothing(t, "a body with 2^24 bytes behind it", append(slices.Clone(b), make([]byte, 1<<24)...))
	nonce := append([]byte{0xba, 0xff, 0xff, 0xf0}, bytes.Repeat([]byte{1}, 0xfffff0)...)
	readsNothing(t, "a nonce with nearly 2^24 bytes", append([]byte{0xfa, 0xff, 0xff, 0xf4}, nonce...))
}

// holds demands of Read, whatever b is, a body that has these bytes, or none.
func holds(t *testing.T, b []byte) {
	t.Helper()
	body, err := acct.Read(b)
	switch {
	case err == api.OK && (body.Nonce < 0 || !bytes.Equal(refPack(body), b)):
		t.Fatalf("P901 Read of %x: %v, which has other bytes", b, body)
	case err != api.OK && (err != api.ErrByte || body != api.Body{}):
		t.Fatalf("P901 Read of %x: %v, error %d, not ErrByte", b, body, err)
	}
}

// TestChangedBytes has bodies with one byte more, less or changed, and bytes of all kinds.
func TestChangedBytes(t *testing.T) {
	r := noise(3)
	for range 8 {
		b := refPack(r.body())
		for i := range b {
			readsNothing(t, "the first bytes of a body", b[:i])
			readsNothing(t, "a body without a byte", slices.Delete(slices.Clone(b), i, i+1))
			for v := range 256 {
				other := slices.Clone(b)
				other[i] = byte(v)
				holds(t, other)
				holds(t, slices.Insert(slices.Clone(b), i, byte(v)))
			}
		}
	}
	for range 20_000 {
		holds(t, r.bytes(r.below(80)))
	}
}

func FuzzRead(f *testing.F) {
	r := noise(4)
	f.Add(refPack(r.body()))
	f.Add(refPack(api.Body{}))
	f.Fuzz(func(t *testing.T, b []byte) {
		holds(t, b)
	})
}
