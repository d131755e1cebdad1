package keccak

import (
	"math/bits"
)

// lanes is the state of Keccak-f[1600]: the lane at column x and row y of FIPS 202 has the index x + 5y.
type lanes [25]uint64

// permute is Keccak-f[1600].
func (a *lanes) permute() {
	var b lanes
	numbers := roundNumbers()
	// Two rounds at a time, so that no round has to copy its result back.
	for i := 0; i < len(numbers); i += 2 {
		b.round(a, numbers[i])
		a.round(&b, numbers[i+1])
	}
}

// round makes b what one round makes of a. Each lane is turned (theta, rho) on its way to its new place (pi); so a new row can be mixed (chi) at once.
func (b *lanes) round(a *lanes, number uint64) {
	p0 := a[0] ^ a[5] ^ a[10] ^ a[15] ^ a[20]
	p1 := a[1] ^ a[6] ^ a[11] ^ a[16] ^ a[21]
	p2 := a[2] ^ a[7] ^ a[12] ^ a[17] ^ a[22]
	p3 := a[3] ^ a[8] ^ a[13] ^ a[18] ^ a[23]
	p4 := a[4] ^ a[9] ^ a[14] ^ a[19] ^ a[24]
	d0 := p4 ^ bits.RotateLeft64(p1, 1)
	d1 := p0 ^ bits.RotateLeft64(p2, 1)
	d2 := p1 ^ bits.RotateLeft64(p3, 1)
	d3 := p2 ^ bits.RotateLeft64(p4, 1)
	d4 := p3 ^ bits.RotateLeft64(p0, 1)
	b[0], b[1], b[2], b[3], b[4] = mixRow(
		a[0]^d0,
		bits.RotateLeft64(a[6]^d1, 44),
		bits.RotateLeft64(a[12]^d2, 43),
		bits.RotateLeft64(a[18]^d3, 21),
		bits.RotateLeft64(a[24]^d4, 14))
	b[0] ^= number
	b[5], b[6], b[7], b[8], b[9] = mixRow(
		bits.RotateLeft64(a[3]^d3, 28),
		bits.RotateLeft64(a[9]^d4, 20),
		bits.RotateLeft64(a[10]^d0, 3),
		bits.RotateLeft64(a[16]^d1, 45),
		bits.RotateLeft64(a[22]^d2, 61))
	b[10], b[11], b[12], b[13], b[14] = mixRow(
		bits.RotateLeft64(a[1]^d1, 1),
		bits.RotateLeft64(a[7]^d2, 6),
		bits.RotateLeft64(a[13]^d3, 25),
		bits.RotateLeft64(a[19]^d4, 8),
		bits.RotateLeft64(a[20]^d0, 18))
	b[15], b[16], b[17], b[18], b[19] = mixRow(
		bits.RotateLeft64(a[4]^d4, 27),
		bits.RotateLeft64(a[5]^d0, 36),
		bits.RotateLeft64(a[11]^d1, 10),
		bits.RotateLeft64(a[17]^d2, 15),
		bits.RotateLeft64(a[23]^d3, 56))
	b[20], b[21], b[22], b[23], b[24] = mixRow(
		bits.RotateLeft64(a[2]^d2, 62),
		bits.RotateLeft64(a[8]^d3, 55),
		bits.RotateLeft64(a[14]^d4, 39),
		bits.RotateLeft64(a[15]^d0, 41),
		bits.RotateLeft64(a[21]^d1, 2))
}

// mixRow is chi on one row.
func mixRow(r0, r1, r2, r3, r4 uint64) (uint64, uint64, uint64, uint64, uint64) {
	return r0 ^ (r2 &^ r1), r1 ^ (r3 &^ r2), r2 ^ (r4 &^ r3), r3 ^ (r0 &^ r4), r4 ^ (r1 &^ r0)
}

// roundNumbers returns what iota adds in each round.
func roundNumbers() [24]uint64 {
	return [24]uint64{
		0x0000000000000001, 0x0000000000008082, 0x800000000000808A, 0x8000000080008000,
		0x000000000000808B, 0x0000000080000001, 0x8000000080008081, 0x8000000000008009,
		0x000000000000008A, 0x0000000000000088, 0x0000000080008009, 0x000000008000000A,
		0x000000008000808B, 0x800000000000008B, 0x8000000000008089, 0x8000000000008003,
		0x8000000000008002, 0x8000000000000080, 0x000000000000800A, 0x800000008000000A,
		0x8000000080008081, 0x8000000000008080, 0x0000000080000001, 0x8000000080008008,
	}
}
