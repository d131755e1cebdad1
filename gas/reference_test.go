package gas_test

import (
	"math"
	"math/big"
	"slices"

	"muniments/api"
)

// The reference: what the chapter says, with numbers that have no limits.

func refWords(n int) int {
	if n < 0 {
		return 0
	}
	quotient, rest := new(big.Int).QuoRem(big.NewInt(int64(n)), big.NewInt(32), new(big.Int))
	if rest.Sign() > 0 {
		quotient.Add(quotient, big.NewInt(1))
	}
	return int(quotient.Int64())
}

func refIntrinsic(t api.Tx) int {
	gas := 21000
	for _, b := range t.Data {
		switch b {
		case 0:
			gas += 4
		default:
			gas += 16
		}
	}
	if t.Make {
		gas += 32000
	}
	return gas
}

func refStore(was, is api.Word) int {
	if number(was).Sign() == 0 && number(is).Sign() != 0 {
		return 20000
	}
	return 5000
}

// refExp takes the bytes of e as math/big writes them, without leading zero bytes.
func refExp(e api.Word) int { return 50 * len(number(e).Bytes()) }

func refShare(left int) int {
	if left < 0 {
		return 0
	}
	n := big.NewInt(int64(left))
	return int(n.Sub(n, new(big.Int).Quo(n, big.NewInt(64))).Int64())
}

func number(w api.Word) *big.Int { return new(big.Int).SetBytes(w[:]) }

// low is the word of n, which is not negative.
func low(n int) api.Word { return api.Word(big.NewInt(int64(n)).FillBytes(make([]byte, 32))) }

// ints are the ints from -300 to 9000, all around the powers of two and their negatives, and the extreme ones.
func ints() []int {
	var l []int
	for n := -300; n <= 9000; n++ {
		l = append(l, n)
	}
	for shift := range 63 {
		for d := -66; d <= 66; d++ {
			l = append(l, 1<<shift+d, -1<<shift+d)
		}
	}
	for d := range 200 {
		l = append(l, math.MaxInt-d, math.MinInt+d)
	}
	slices.Sort(l)
	return slices.Compact(l)
}

// wordsAt are the word 0, each word with one byte that isn't 0, some of these with all bytes below filled, and the word of which all bits are 1.
func wordsAt() []api.Word {
	l := []api.Word{{}}
	for i := range 32 {
		for v := 1; v < 256; v++ {
			var w api.Word
			w[i] = byte(v)
			l = append(l, w)
			for _, fill := range []byte{1, 0x80, 0xff} {
				for j := i + 1; j < 32; j++ {
					w[j] = fill
				}
				l = append(l, w)
			}
		}
	}
	return l
}
