// Package word is layer 1: integers of 256 bits, the most significant byte first.
package word

import (
	"bytes"
	"math/bits"

	"muniments/api"
)

// Of returns the word with the value n, or with the signed value n if n is negative.
func Of(n int) api.Word {
	sign := uint64(int64(n) >> 63)
	return limbs{uint64(n), sign, sign, sign}.word()
}

// Int returns the number of w and true, or 0 and false if an int can't hold it.
func Int(w api.Word) (int, bool) {
	if Bits(w) > 63 {
		return 0, false
	}
	return int(load(w)[0]), true
}

// Bits returns how many bits w has without leading zero bits.
func Bits(w api.Word) int {
	for i, b := range w {
		if b != 0 {
			return 8*(len(w)-1-i) + bits.Len8(b)
		}
	}
	return 0
}

// Cmp returns -1, 0 or 1 if a is less than, equal to, or greater than b.
func Cmp(a, b api.Word) int {
	return bytes.Compare(a[:], b[:])
}

// SCmp is Cmp of the signed values.
func SCmp(a, b api.Word) int {
	return Cmp(flipSign(a), flipSign(b))
}

// flipSign turns the sign bit: the order of the signed values becomes the order of the numbers.
func flipSign(a api.Word) api.Word {
	a[0] ^= 0x80
	return a
}

// Add returns a + b.
func Add(a, b api.Word) api.Word {
	sum, _ := load(a).plus(load(b))
	return sum.word()
}

// Sub returns a - b.
func Sub(a, b api.Word) api.Word {
	return load(a).minus(load(b)).word()
}

// Mul returns a * b.
func Mul(a, b api.Word) api.Word {
	return load(a).times(load(b)).low().word()
}

// Div returns a / b, rounded down, or 0 if b is 0.
func Div(a, b api.Word) api.Word {
	quotient, _ := divide(load(a).wide(0), load(b))
	return quotient.low().word()
}

// Mod returns the remainder of a / b, or 0 if b is 0.
func Mod(a, b api.Word) api.Word {
	_, rest := divide(load(a).wide(0), load(b))
	return rest.word()
}

// SDiv divides the signed values, truncated towards 0; it returns 0 if b is 0.
func SDiv(a, b api.Word) api.Word {
	quotient := Div(magnitude(a), magnitude(b))
	if negative(a) != negative(b) {
		return negate(quotient)
	}
	return quotient
}

// SMod returns the remainder of SDiv, with the sign of a, or 0 if b is 0.
func SMod(a, b api.Word) api.Word {
	rest := Mod(magnitude(a), magnitude(b))
	if negative(a) {
		return negate(rest)
	}
	return rest
}

// AddMod returns the remainder of the whole sum of a and b by n, or 0 if n is 0.
func AddMod(a, b, n api.Word) api.Word {
	sum, carry := load(a).plus(load(b))
	_, rest := divide(sum.wide(carry), load(n))
	return rest.word()
}

// MulMod returns the remainder of the whole product of a and b by n, or 0 if n is 0.
func MulMod(a, b, n api.Word) api.Word {
	_, rest := divide(load(a).times(load(b)), load(n))
	return rest.word()
}

// Exp returns a to the power of b; the power 0 of every word is 1.
func Exp(a, b api.Word) api.Word {
	base, exponent := load(a), load(b)
	power := limbs{1}
	for i := Bits(b) - 1; i >= 0; i-- {
		power = power.times(power).low()
		if exponent.bit(uint(i)) {
			power = power.times(base).low()
		}
	}
	return power.word()
}

// Extend takes the k + 1 least significant bytes of a as a signed number.
func Extend(k, a api.Word) api.Word {
	last, ok := below(k, 31)
	if !ok {
		return a
	}
	n := 8 * (31 - last)
	return sar(n, shl(n, a))
}

// And returns the bits that a and b have both.
func And(a, b api.Word) api.Word {
	for i := range a {
		a[i] &= b[i]
	}
	return a
}

// Or returns the bits that a or b has.
func Or(a, b api.Word) api.Word {
	for i := range a {
		a[i] |= b[i]
	}
	return a
}

// Xor returns the bits that just one of a and b has.
func Xor(a, b api.Word) api.Word {
	for i := range a {
		a[i] ^= b[i]
	}
	return a
}

// Not returns the bits that a does not have.
func Not(a api.Word) api.Word {
	for i := range a {
		a[i] = ^a[i]
	}
	return a
}

// Byte returns the byte of a with the number k, the most significant one being 0, or 0 if there is none.
func Byte(k, a api.Word) api.Word {
	n, ok := below(k, uint(len(a)))
	if !ok {
		return api.Word{}
	}
	return Of(int(a[n]))
}

// Shl returns a shifted left by k bits.
func Shl(k, a api.Word) api.Word {
	n, ok := below(k, 256)
	if !ok {
		return api.Word{}
	}
	return shl(n, a)
}

// Shr returns a shifted right by k bits.
func Shr(k, a api.Word) api.Word {
	n, ok := below(k, 256)
	if !ok {
		return api.Word{}
	}
	return shr(n, a)
}

// Sar returns a shifted right by k bits, copies of its sign bit shifted in.
func Sar(k, a api.Word) api.Word {
	n, ok := below(k, 256)
	if !ok {
		// One bit less leaves nothing but the sign bit and its copies.
		n = 255
	}
	return sar(n, a)
}

// below returns the number of k and true if it is less than limit.
func below(k api.Word, limit uint) (uint, bool) {
	n, ok := Int(k)
	if !ok || uint(n) >= limit {
		return 0, false
	}
	return uint(n), true
}

func shl(n uint, a api.Word) api.Word {
	return load(a).left(n).word()
}

func shr(n uint, a api.Word) api.Word {
	return load(a).right(n).word()
}

// sar shifts the complement of a negative a, whose sign bit is 0, so that plain shifting does.
func sar(n uint, a api.Word) api.Word {
	if negative(a) {
		return Not(shr(n, Not(a)))
	}
	return shr(n, a)
}

func negative(a api.Word) bool {
	return a[0]&0x80 != 0
}

func negate(a api.Word) api.Word {
	return Sub(api.Word{}, a)
}

// magnitude returns the signed value of a without its sign; that of the least signed value is 2^255.
func magnitude(a api.Word) api.Word {
	if negative(a) {
		return negate(a)
	}
	return a
}
