package word

import "math/bits"

// unsigned: one kind of integer for each of the four widths. The operations over it take whole words and narrow them
// themselves, so that those of all four kinds have one type and pick can choose among them.
type unsigned interface {
	uint8 | uint16 | uint32 | uint64
}

// pick gives what is for the width; a number that is no width counts as 64.
func pick[F any](width int, for8 F, for16 F, for32 F, for64 F) F {
	switch width {
	case 8:
		return for8
	case 16:
		return for16
	case 32:
		return for32
	}
	return for64
}

func size[T unsigned]() uint64 {
	return uint64(bits.Len64(uint64(^T(0))))
}

func negative[T unsigned](n T) bool {
	return n > ^T(0)>>1
}

// magnitude has no exception: the least number's, 2^(w-1), is within the kind because the kind has no sign.
func magnitude[T unsigned](n T) T {
	if negative(n) {
		return -n
	}
	return n
}

func narrow[T unsigned](a uint64) uint64 {
	return uint64(T(a))
}

func sign[T unsigned](a uint64) uint64 {
	n := T(a)
	if negative(n) {
		return ^uint64(^n)
	}
	return uint64(n)
}

func div[T unsigned](a uint64, b uint64) uint64 {
	d := T(b)
	if d == 0 {
		return 0
	}
	return uint64(T(a) / d)
}

func mod[T unsigned](a uint64, b uint64) uint64 {
	d := T(b)
	if d == 0 {
		return narrow[T](a)
	}
	return uint64(T(a) % d)
}

// sdiv divides magnitudes, so that the least number by -1 comes out as itself, with no signed overflow on the way.
func sdiv[T unsigned](a uint64, b uint64) uint64 {
	n, d := T(a), T(b)
	if d == 0 {
		return 0
	}
	q := magnitude(n) / magnitude(d)
	if negative(n) != negative(d) {
		q = -q
	}
	return uint64(q)
}

func smod[T unsigned](a uint64, b uint64) uint64 {
	n, d := T(a), T(b)
	if d == 0 {
		return uint64(n)
	}
	r := magnitude(n) % magnitude(d)
	if negative(n) {
		r = -r
	}
	return uint64(r)
}

func shl[T unsigned](a uint64, by uint64) uint64 {
	return uint64(T(a) << (by % size[T]()))
}

func shr[T unsigned](a uint64, by uint64) uint64 {
	return uint64(T(a) >> (by % size[T]()))
}

// sar turns the bits of a negative number round ahead of the shift and behind it, so that ones come in from above.
func sar[T unsigned](a uint64, by uint64) uint64 {
	n, k := T(a), by%size[T]()
	if negative(n) {
		return uint64(^(^n >> k))
	}
	return uint64(n >> k)
}

func swap[T unsigned](a uint64) uint64 {
	return bits.ReverseBytes64(a) >> (64 - size[T]())
}

func less[T unsigned](a uint64, b uint64) bool {
	return T(a) < T(b)
}

func sless[T unsigned](a uint64, b uint64) bool {
	return int64(sign[T](a)) < int64(sign[T](b))
}
