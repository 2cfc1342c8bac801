// Package word reckons with words of 64 bits, and of fewer, as the instructions do: see DOC.md, chapter 1.
package word

// Add gives the sum modulo 2^64.
func Add(a uint64, b uint64) uint64 {
	return a + b
}

// Sub gives the difference modulo 2^64.
func Sub(a uint64, b uint64) uint64 {
	return a - b
}

// Mul gives the product modulo 2^64.
func Mul(a uint64, b uint64) uint64 {
	return a * b
}

// And gives the bits that both have.
func And(a uint64, b uint64) uint64 {
	return a & b
}

// Or gives the bits that either has.
func Or(a uint64, b uint64) uint64 {
	return a | b
}

// Xor gives the bits that just one has.
func Xor(a uint64, b uint64) uint64 {
	return a ^ b
}

// Neg gives 0 - a modulo 2^64.
func Neg(a uint64) uint64 {
	return Sub(0, a)
}

// Div gives a / b rounded down, without signs; 0 where b is 0.
func Div(a uint64, b uint64, width int) uint64 {
	return pick(width, div[uint8], div[uint16], div[uint32], div[uint64])(a, b)
}

// Mod gives what Div leaves; a where b is 0.
func Mod(a uint64, b uint64, width int) uint64 {
	return pick(width, mod[uint8], mod[uint16], mod[uint32], mod[uint64])(a, b)
}

// SDiv gives a / b rounded towards 0, with signs; 0 where b is 0.
func SDiv(a uint64, b uint64, width int) uint64 {
	return pick(width, sdiv[uint8], sdiv[uint16], sdiv[uint32], sdiv[uint64])(a, b)
}

// SMod gives what SDiv leaves, with a's sign; a where b is 0.
func SMod(a uint64, b uint64, width int) uint64 {
	return pick(width, smod[uint8], smod[uint16], smod[uint32], smod[uint64])(a, b)
}

// Shl shifts a up; by counts modulo the width.
func Shl(a uint64, by uint64, width int) uint64 {
	return pick(width, shl[uint8], shl[uint16], shl[uint32], shl[uint64])(a, by)
}

// Shr shifts a down and fills with zeros; by counts modulo the width.
func Shr(a uint64, by uint64, width int) uint64 {
	return pick(width, shr[uint8], shr[uint16], shr[uint32], shr[uint64])(a, by)
}

// Sar shifts a down and fills with its sign; by counts modulo the width.
func Sar(a uint64, by uint64, width int) uint64 {
	return pick(width, sar[uint8], sar[uint16], sar[uint32], sar[uint64])(a, by)
}

// Narrow gives a modulo 2^width.
func Narrow(a uint64, width int) uint64 {
	return pick(width, narrow[uint8], narrow[uint16], narrow[uint32], narrow[uint64])(a)
}

// Sign gives the number with a sign that a's low bits are, modulo 2^64.
func Sign(a uint64, width int) uint64 {
	return pick(width, sign[uint8], sign[uint16], sign[uint32], sign[uint64])(a)
}

// Swap gives the low bytes of a in the other order.
func Swap(a uint64, width int) uint64 {
	return pick(width, swap[uint8], swap[uint16], swap[uint32], swap[uint64])(a)
}

// Less tells whether a is below b, without signs.
func Less(a uint64, b uint64, width int) bool {
	return pick(width, less[uint8], less[uint16], less[uint32], less[uint64])(a, b)
}

// SLess tells whether a is below b, with signs.
func SLess(a uint64, b uint64, width int) bool {
	return pick(width, sless[uint8], sless[uint16], sless[uint32], sless[uint64])(a, b)
}
