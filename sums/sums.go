// Package sums is layer 1: sums. See shared/doc/01-sums.md.
package sums

import "caisson/api"

// polynomial is that of CRC-32C without its highest power, turned round: the highest bit belongs to the power 0.
const polynomial uint32 = 0x82f63b78

// Sum is the CRC-32C of b.
func Sum(b []byte) uint32 { return More(0, b) }

// More is the sum of bytes whose sum is sum, and b behind them.
func More(sum uint32, b []byte) uint32 {
	register := ^sum
	for _, c := range b {
		register ^= uint32(c)
		for range 8 {
			register = shift(register)
		}
	}
	return ^register
}

// Digest is the sum of b as four bytes, the lowest first, as iSCSI sends it.
func Digest(b []byte) []byte {
	d := digest(b)
	return d[:]
}

// Right tells whether d is just the digest of b.
func Right(b, d []byte) bool {
	return len(d) == 4 && [4]byte(d) == digest(b)
}

// Pad is how many bytes are missing from n to a multiple of four.
func Pad(n int) int {
	if n < 0 {
		return 0
	}
	return -n & 3
}

// Join is the sum of bytes with the sum a, and n bytes with the sum b behind them.
func Join(a, b uint32, n int) (uint32, api.Errno) {
	if n < 0 || n > api.MaxBytes {
		return 0, api.ErrArg
	}
	// What a register begins with goes through n bytes apart from what these bytes add, so a is carried past n bytes 0 and b is added.
	return times(a, pastBytes(n)) ^ b, api.OK
}

func digest(b []byte) [4]byte {
	var d [4]byte
	sum := Sum(b)
	for i := range 4 {
		d[i] = byte(sum >> (8 * i))
	}
	return d
}

// shift takes a register past one bit 0: as a polynomial, it is multiplied by x. It adds by a mask of no or all bits, as a branch on bits that nobody can guess is slow.
func shift(register uint32) uint32 {
	return register>>1 ^ polynomial&-(register&1)
}

// times is the product of two polynomials, modulo that of the sum.
func times(a, b uint32) uint32 {
	var product uint32
	for i := range 32 {
		if b>>(31-i)&1 == 1 {
			product ^= a
		}
		a = shift(a)
	}
	return product
}

// pastBytes is the power of x that takes a register past n bytes 0. It is squared up, so that Join costs as good as nothing whatever n is.
func pastBytes(n int) uint32 {
	power, square := uint32(1)<<31, uint32(1)<<23 // x to the 0, x to the 8
	for ; n > 0; n >>= 1 {
		if n&1 == 1 {
			power = times(power, square)
		}
		square = times(square, square)
	}
	return power
}
