package word

import (
	"math"
	"math/bits"

	"muniments/api"
)

// limbs is a number of 256 bits in pieces of 64 bits, the lowest one first.
type limbs [4]uint64

// wide is a number of 512 bits: a sum or a product before it is reduced.
type wide [8]uint64

func load(w api.Word) limbs {
	var x limbs
	for i := range x {
		x[i] = joinBytes(w[24-8*i:])
	}
	return x
}

func (x limbs) word() api.Word {
	var w api.Word
	for i := range x {
		splitBytes(w[24-8*i:], x[i])
	}
	return w
}

// joinBytes is written in one piece because the compiler makes a single load of that.
func joinBytes(b []byte) uint64 {
	_ = b[7]
	return uint64(b[0])<<56 | uint64(b[1])<<48 | uint64(b[2])<<40 | uint64(b[3])<<32 |
		uint64(b[4])<<24 | uint64(b[5])<<16 | uint64(b[6])<<8 | uint64(b[7])
}

// splitBytes undoes joinBytes.
func splitBytes(b []byte, n uint64) {
	_ = b[7]
	b[0], b[1], b[2], b[3] = byte(n>>56), byte(n>>48), byte(n>>40), byte(n>>32)
	b[4], b[5], b[6], b[7] = byte(n>>24), byte(n>>16), byte(n>>8), byte(n)
}

// wide returns x with a limb above it.
func (x limbs) wide(above uint64) wide {
	return wide{x[0], x[1], x[2], x[3], above}
}

// low returns p modulo 2^256.
func (p wide) low() limbs {
	return limbs{p[0], p[1], p[2], p[3]}
}

// count returns how many limbs x has without leading zero limbs.
func (x limbs) count() int {
	n := len(x)
	for n > 0 && x[n-1] == 0 {
		n--
	}
	return n
}

func (x limbs) bit(i uint) bool {
	return x[i/64]>>(i%64)&1 == 1
}

// plus returns the sum and its carry.
func (x limbs) plus(y limbs) (limbs, uint64) {
	var sum limbs
	var carry uint64
	for i := range x {
		sum[i], carry = bits.Add64(x[i], y[i], carry)
	}
	return sum, carry
}

func (x limbs) minus(y limbs) limbs {
	var difference limbs
	var borrow uint64
	for i := range x {
		difference[i], borrow = bits.Sub64(x[i], y[i], borrow)
	}
	return difference
}

func (x limbs) times(y limbs) wide {
	var p wide
	for i := range x {
		var carry uint64
		for j := range y {
			p[i+j], carry = mulAdd(x[i], y[j], p[i+j], carry)
		}
		p[i+len(y)] = carry
	}
	return p
}

// mulAdd returns the low and the high limb of a*b + c + d, which always fits into two.
func mulAdd(a, b, c, d uint64) (uint64, uint64) {
	high, low := bits.Mul64(a, b)
	low, carry := bits.Add64(low, c, 0)
	high += carry
	low, carry = bits.Add64(low, d, 0)
	return low, high + carry
}

// left shifts by n < 256. (A shift of a limb by 64 makes 0, as is wanted where n is a multiple of 64.)
func (x limbs) left(n uint) limbs {
	var y limbs
	skip, part := int(n/64), n%64
	for i := skip; i < len(x); i++ {
		y[i] = x[i-skip] << part
		if i > skip {
			y[i] |= x[i-skip-1] >> (64 - part)
		}
	}
	return y
}

// right shifts by n < 256.
func (x limbs) right(n uint) limbs {
	var y limbs
	skip, part := int(n/64), n%64
	for i := skip; i < len(x); i++ {
		y[i-skip] = x[i] >> part
		if i+1 < len(x) {
			y[i-skip] |= x[i+1] << (64 - part)
		}
	}
	return y
}

// divide returns the quotient and the remainder of u by v, and 0 for both if v is 0. It is long division (Knuth, 4.3.1, D), a limb at a time.
func divide(u wide, v limbs) (wide, limbs) {
	var quotient wide
	n := v.count()
	if n == 0 {
		return quotient, limbs{}
	}
	// With its highest bit set, the divisor's highest limb alone tells a digit up to 2.
	shift := uint(bits.LeadingZeros64(v[n-1]))
	divisor := v.left(shift)
	rest := u.leftInto(shift)
	for j := len(u) - n; j >= 0; j-- {
		quotient[j] = takeDigit(rest[j:j+n+1], divisor[:n])
	}
	return quotient, limbs{rest[0], rest[1], rest[2], rest[3]}.right(shift)
}

// leftInto shifts by n < 64 and keeps what is shifted out in a limb more.
func (p wide) leftInto(n uint) [9]uint64 {
	var q [9]uint64
	for i, limb := range p {
		q[i] |= limb << n
		q[i+1] = limb >> (64 - n)
	}
	return q
}

// takeDigit leaves in rest its remainder by divisor, and returns the quotient. rest has one limb more than divisor and is less than it shifted up by one limb, so the quotient is one limb.
func takeDigit(rest, divisor []uint64) uint64 {
	n := len(divisor)
	digit := guessDigit(rest[n], rest[n-1], divisor[n-1])
	below := takeOff(rest, divisor, digit)
	for below {
		digit--
		below = !giveBack(rest, divisor)
	}
	return digit
}

// guessDigit returns the quotient's digit, or one that is greater by 1 or 2.
func guessDigit(high, low, top uint64) uint64 {
	if high >= top {
		return math.MaxUint64
	}
	digit, _ := bits.Div64(high, low, top)
	return digit
}

// takeOff subtracts digit * divisor from rest, and reports whether that fell below 0.
func takeOff(rest, divisor []uint64, digit uint64) bool {
	var carry, borrow uint64
	for i, limb := range divisor {
		var low uint64
		low, carry = mulAdd(limb, digit, carry, 0)
		rest[i], borrow = bits.Sub64(rest[i], low, borrow)
	}
	n := len(divisor)
	rest[n], borrow = bits.Sub64(rest[n], carry, borrow)
	return borrow == 1
}

// giveBack adds divisor to rest, and reports whether that came back to 0 or above.
func giveBack(rest, divisor []uint64) bool {
	var carry uint64
	for i, limb := range divisor {
		rest[i], carry = bits.Add64(rest[i], limb, carry)
	}
	n := len(divisor)
	rest[n], carry = bits.Add64(rest[n], 0, carry)
	return carry == 1
}
