package word

import (
	"math"
	"math/big"
	"testing"
)

// The calls are held against the chapter's words, reckoned with numbers of any size.

var one = big.NewInt(1)

func power(w uint) *big.Int {
	return new(big.Int).Lsh(one, w)
}

func bigWord(a uint64) *big.Int {
	return new(big.Int).SetUint64(a)
}

// modulo: n modulo 2^w, never below 0.
func modulo(n *big.Int, w uint) *big.Int {
	return new(big.Int).Mod(n, power(w))
}

func plain(a uint64, w uint) *big.Int {
	return modulo(bigWord(a), w)
}

func signed(a uint64, w uint) *big.Int {
	n := plain(a, w)
	if n.Cmp(power(w-1)) >= 0 {
		n.Sub(n, power(w))
	}
	return n
}

func meantWidth(width int) uint {
	for _, w := range []int{8, 16, 32} {
		if width == w {
			return uint(w)
		}
	}
	return 64
}

func wordsToTry() []uint64 {
	var out []uint64
	for _, k := range []uint{0, 7, 8, 15, 16, 31, 32, 63} {
		p := uint64(1) << k
		out = append(out, p-1, p, p+1, -p-1, -p, -p+1)
	}
	return append(out, 3, 7, 10, 0x0123456789abcdef, 0xfedcba9876543210, 0x80_80_80_80_80_80_80_80, 0x7f_ff_80_00_7f_80_ff_01)
}

// widthsToTry ends with numbers that are no width, among them such as are 8, 16 or 32 once they are cut.
func widthsToTry() []int {
	return []int{
		8, 16, 32, 64,
		0, 1, 7, 9, 15, 24, 31, 33, 63, 65, 128, 256 + 8, 1<<16 + 16, 1<<32 + 32,
		-1, -8, -16, -32, -64, math.MaxInt, math.MinInt,
	}
}

func forAllPairs(t *testing.T, check func(a, b uint64, width int)) {
	t.Helper()
	for _, width := range widthsToTry() {
		for _, a := range wordsToTry() {
			for _, b := range wordsToTry() {
				check(a, b, width)
			}
		}
	}
}

func hold(t *testing.T, what string, a, b uint64, width int, got uint64, want *big.Int) {
	t.Helper()
	if bigWord(got).Cmp(want) != 0 {
		t.Fatalf("%s(%#x, %#x, %d): %#x, want %#x", what, a, b, width, got, want)
	}
}

func TestSumsMean(t *testing.T) {
	for _, a := range wordsToTry() {
		for _, b := range wordsToTry() {
			x, y, n := bigWord(a), bigWord(b), new(big.Int)
			hold(t, "P1.1 Add", a, b, 64, Add(a, b), modulo(n.Add(x, y), 64))
			hold(t, "P1.1 Sub", a, b, 64, Sub(a, b), modulo(n.Sub(x, y), 64))
			hold(t, "P1.1 Mul", a, b, 64, Mul(a, b), modulo(n.Mul(x, y), 64))
			hold(t, "P1.1 And", a, b, 64, And(a, b), n.And(x, y))
			hold(t, "P1.1 Or", a, b, 64, Or(a, b), n.Or(x, y))
			hold(t, "P1.1 Xor", a, b, 64, Xor(a, b), n.Xor(x, y))
			hold(t, "P1.1 Neg", a, 0, 64, Neg(a), modulo(n.Neg(x), 64))
		}
	}
}

func TestNarrowAndSignMean(t *testing.T) {
	forAllPairs(t, func(a, _ uint64, width int) {
		w := meantWidth(width)
		hold(t, "P1.2 Narrow", a, 0, width, Narrow(a, width), plain(a, w))
		hold(t, "P1.2 Sign", a, 0, width, Sign(a, width), modulo(signed(a, w), 64))
	})
}

// divided: the quotient rounded towards 0 and what is left; by 0: 0 and all of it.
func divided(x, y *big.Int) (*big.Int, *big.Int) {
	if y.Sign() == 0 {
		return new(big.Int), x
	}
	return new(big.Int).QuoRem(x, y, new(big.Int))
}

func TestDivAndModMean(t *testing.T) {
	forAllPairs(t, func(a, b uint64, width int) {
		w := meantWidth(width)
		q, r := divided(plain(a, w), plain(b, w))
		hold(t, "P1.3 Div", a, b, width, Div(a, b, width), q)
		hold(t, "P1.3 Mod", a, b, width, Mod(a, b, width), r)
	})
}

func TestSDivAndSModMean(t *testing.T) {
	forAllPairs(t, func(a, b uint64, width int) {
		w := meantWidth(width)
		q, r := divided(signed(a, w), signed(b, w))
		hold(t, "P1.4 SDiv", a, b, width, SDiv(a, b, width), modulo(q, w))
		hold(t, "P1.4 SMod", a, b, width, SMod(a, b, width), modulo(r, w))
	})
}

// floorByPower: n / 2^k rounded down (Div of package big rounds so where the divisor is above 0).
func floorByPower(n *big.Int, k uint) *big.Int {
	return new(big.Int).Div(n, power(k))
}

func TestShiftsMean(t *testing.T) {
	check := func(a, by uint64, width int) {
		w := meantWidth(width)
		k := uint(by % uint64(w))
		hold(t, "P1.5 Shl", a, by, width, Shl(a, by, width), modulo(new(big.Int).Mul(plain(a, w), power(k)), w))
		hold(t, "P1.5 Shr", a, by, width, Shr(a, by, width), floorByPower(plain(a, w), k))
		hold(t, "P1.5 Sar", a, by, width, Sar(a, by, width), modulo(floorByPower(signed(a, w), k), w))
	}
	forAllPairs(t, check)
	for _, width := range widthsToTry() {
		for _, a := range wordsToTry() {
			for by := range uint64(130) {
				check(a, by, width)
			}
		}
	}
}

func TestSwapMeans(t *testing.T) {
	forAllPairs(t, func(a, _ uint64, width int) {
		w := meantWidth(width)
		bytes := plain(a, w).FillBytes(make([]byte, w/8))
		for i, j := 0, len(bytes)-1; i < j; i, j = i+1, j-1 {
			bytes[i], bytes[j] = bytes[j], bytes[i]
		}
		hold(t, "P1.6 Swap", a, 0, width, Swap(a, width), new(big.Int).SetBytes(bytes))
	})
}

func TestOrdersMean(t *testing.T) {
	forAllPairs(t, func(a, b uint64, width int) {
		w := meantWidth(width)
		if got, want := Less(a, b, width), plain(a, w).Cmp(plain(b, w)) < 0; got != want {
			t.Fatalf("P1.7 Less(%#x, %#x, %d): %v", a, b, width, got)
		}
		if got, want := SLess(a, b, width), signed(a, w).Cmp(signed(b, w)) < 0; got != want {
			t.Fatalf("P1.7 SLess(%#x, %#x, %d): %v", a, b, width, got)
		}
	})
}

// TestEveryPairOfBytes goes over all words of 8 bits, each with bits above them that must not count.
func TestEveryPairOfBytes(t *testing.T) {
	const above = 0xa5_5a_00
	for a := range 256 {
		for b := range 256 {
			checkBytes(t, uint64(a)|above, uint64(b)|above, int(int8(a)), int(int8(b)))
		}
	}
}

func checkBytes(t *testing.T, a, b uint64, x, y int) {
	t.Helper()
	q, r := 0, x
	if y != 0 {
		q, r = x/y, x%y
	}
	checkRows(t, []row{
		{"P1.4 SDiv of bytes", SDiv(a, b, 8), uint64(uint8(q))},
		{"P1.4 SMod of bytes", SMod(a, b, 8), uint64(uint8(r))},
		{"P1.5 Sar of bytes", Sar(a, b, 8), uint64(uint8(x >> (b % 8)))},
		{"P1.5 Shl of bytes", Shl(a, b, 8), uint64(uint8(x << (b % 8)))},
	})
	if SLess(a, b, 8) != (x < y) {
		t.Errorf("P1.7 SLess(%#x, %#x, 8)", a, b)
	}
}
