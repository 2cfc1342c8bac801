package word

import "testing"

const (
	all     = uint64(1<<64 - 1)
	least64 = uint64(1 << 63)
	least32 = uint64(1 << 31)
	ones32  = uint64(1<<32 - 1)
)

// row is a call that has been made, and what it should have answered.
type row struct {
	call string
	got  uint64
	want uint64
}

func checkRows(t *testing.T, rows []row) {
	t.Helper()
	for _, r := range rows {
		if r.got != r.want {
			t.Errorf("%s: %#x, want %#x", r.call, r.got, r.want)
		}
	}
}

func TestSumsByExample(t *testing.T) {
	checkRows(t, []row{
		{"P1.1 Add(2^64 - 1, 2)", Add(all, 2), 1},
		{"P1.1 Add(3, 4)", Add(3, 4), 7},
		{"P1.1 Add(2^63, 2^63)", Add(least64, least64), 0},
		{"P1.1 Sub(1, 2)", Sub(1, 2), all},
		{"P1.1 Sub(9, 4)", Sub(9, 4), 5},
		{"P1.1 Sub(0, 2^64 - 1)", Sub(0, all), 1},
		{"P1.1 Neg(1)", Neg(1), all},
		{"P1.1 Neg(0)", Neg(0), 0},
		{"P1.1 Neg(2^63)", Neg(least64), least64},
		{"P1.1 Mul(2^63, 2)", Mul(least64, 2), 0},
		{"P1.1 Mul(6, 7)", Mul(6, 7), 42},
		{"P1.1 Mul(2^64 - 1, 2^64 - 1)", Mul(all, all), 1},
		{"P1.1 And", And(0b1100, 0b1010), 0b1000},
		{"P1.1 Or", Or(0b1100, 0b1010), 0b1110},
		{"P1.1 Xor", Xor(0b1100, 0b1010), 0b0110},
		{"P1.1 And, high bits", And(all, least64), least64},
		{"P1.1 Or, high bits", Or(least64, 1), least64 + 1},
		{"P1.1 Xor, high bits", Xor(all, all), 0},
	})
}

func TestNarrowAndSignByExample(t *testing.T) {
	checkRows(t, []row{
		{"P1.2 Narrow(0x1ff, 8)", Narrow(0x1ff, 8), 0xff},
		{"P1.2 Narrow(7, 33)", Narrow(7, 33), 7},
		{"P1.2 Narrow(2^64 - 1, 16)", Narrow(all, 16), 0xffff},
		{"P1.2 Narrow(2^64 - 1, 32)", Narrow(all, 32), ones32},
		{"P1.2 Narrow(2^64 - 1, 64)", Narrow(all, 64), all},
		{"P1.2 Sign(0xff, 8)", Sign(0xff, 8), all},
		{"P1.2 Sign(0x17f, 8)", Sign(0x17f, 8), 0x7f},
		{"P1.2 Sign(0x80, 8)", Sign(0x80, 8), all - 0x7f},
		{"P1.2 Sign(0x8000, 16)", Sign(0x8000, 16), all - 0x7fff},
		{"P1.2 Sign(0x7fff, 16)", Sign(0x7fff, 16), 0x7fff},
		{"P1.2 Sign(2^31, 32)", Sign(least32, 32), all - (least32 - 1)},
		{"P1.2 Sign(2^31 - 1, 32)", Sign(least32-1, 32), least32 - 1},
		{"P1.2 Sign(2^63, 64)", Sign(least64, 64), least64},
	})
}

func TestDivAndModByExample(t *testing.T) {
	checkRows(t, []row{
		{"P1.3 Div(7, 0, 64)", Div(7, 0, 64), 0},
		{"P1.3 Div(7, 2, 64)", Div(7, 2, 64), 3},
		{"P1.3 Div(2^32 + 6, 4, 32)", Div(1<<32+6, 4, 32), 1},
		{"P1.3 Div(7, 2^32, 32): 0 once narrowed", Div(7, 1<<32, 32), 0},
		{"P1.3 Div(7, 0x100, 8): 0 once narrowed", Div(7, 0x100, 8), 0},
		{"P1.3 Div(7, 0x10000, 16): 0 once narrowed", Div(7, 0x10000, 16), 0},
		{"P1.3 Div(2^64 - 1, 2, 64)", Div(all, 2, 64), least64 - 1},
		{"P1.3 Mod(2^32 + 5, 0, 32)", Mod(1<<32+5, 0, 32), 5},
		{"P1.3 Mod(7, 2^32, 32)", Mod(7, 1<<32, 32), 7},
		{"P1.3 Mod(0x1234, 0x100, 8)", Mod(0x1234, 0x100, 8), 0x34},
		{"P1.3 Mod(0x12345, 0x10000, 16)", Mod(0x12345, 0x10000, 16), 0x2345},
		{"P1.3 Mod(2^64 - 1, 0, 64)", Mod(all, 0, 64), all},
		{"P1.3 Mod(2^64 - 1, 10, 64)", Mod(all, 10, 64), 5},
	})
}

func TestSDivAndSModByExample(t *testing.T) {
	checkRows(t, []row{
		{"P1.4 SDiv(-7, 2, 64)", SDiv(all-6, 2, 64), all - 2},
		{"P1.4 SMod(-7, 2, 64)", SMod(all-6, 2, 64), all},
		{"P1.4 SDiv(7, -2, 64)", SDiv(7, all-1, 64), all - 2},
		{"P1.4 SMod(7, -2, 64)", SMod(7, all-1, 64), 1},
		{"P1.4 SDiv(-7, -2, 64)", SDiv(all-6, all-1, 64), 3},
		{"P1.4 SMod(-7, -2, 64)", SMod(all-6, all-1, 64), all},
		{"P1.4 SDiv(0x80000000, 2^32 - 1, 32)", SDiv(least32, ones32, 32), least32},
		{"P1.4 SMod(0x80000000, 2^32 - 1, 32)", SMod(least32, ones32, 32), 0},
		{"P1.4 SDiv, least by -1, 8", SDiv(0x80, 0xff, 8), 0x80},
		{"P1.4 SMod, least by -1, 8", SMod(0x80, 0xff, 8), 0},
		{"P1.4 SDiv, least by -1, 16", SDiv(0x8000, 0xffff, 16), 0x8000},
		{"P1.4 SMod, least by -1, 16", SMod(0x8000, 0xffff, 16), 0},
		{"P1.4 SDiv, least by -1, 64", SDiv(least64, all, 64), least64},
		{"P1.4 SMod, least by -1, 64", SMod(least64, all, 64), 0},
		{"P1.4 SDiv by 0", SDiv(all-6, 0, 64), 0},
		{"P1.4 SMod by 0", SMod(all-6, 0, 64), all - 6},
		{"P1.4 SDiv by 0 once narrowed", SDiv(5, 1<<32, 32), 0},
		{"P1.4 SMod by 0 once narrowed", SMod(all, 1<<32, 32), ones32},
		{"P1.4 SDiv answers narrowed", SDiv(0xf9, 2, 8), 0xfd},
		{"P1.4 SMod answers narrowed", SMod(0xf9, 2, 8), 0xff},
	})
}

func TestShiftsByExample(t *testing.T) {
	checkRows(t, []row{
		{"P1.5 Shl(1, 65, 64)", Shl(1, 65, 64), 2},
		{"P1.5 Shl(3, 31, 32)", Shl(3, 31, 32), least32},
		{"P1.5 Shl(1, 2^64 - 1, 64)", Shl(1, all, 64), least64},
		{"P1.5 Shl by the width, 8", Shl(0x1ab, 8, 8), 0xab},
		{"P1.5 Shl by the width, 32", Shl(5, 32, 32), 5},
		{"P1.5 Shl by the width, 64", Shl(5, 64, 64), 5},
		{"P1.5 Shr(0x80, 9, 8)", Shr(0x80, 9, 8), 0x40},
		{"P1.5 Shr: the bits from w on do not come in", Shr(0xf80, 1, 8), 0x40},
		{"P1.5 Shr by the width, 16", Shr(0x18000, 16, 16), 0x8000},
		{"P1.5 Shr by 2^64 - 1, 64", Shr(all, all, 64), 1},
		{"P1.5 Sar(0x80, 3, 8)", Sar(0x80, 3, 8), 0xf0},
		{"P1.5 Sar(2^64 - 1, 63, 0)", Sar(all, 63, 0), all},
		{"P1.5 Sar of a number without a sign bit", Sar(0x7f, 3, 8), 0x0f},
		{"P1.5 Sar rounds down", Sar(all-6, 1, 64), all - 3},
		{"P1.5 Sar by the width, 32", Sar(least32, 32, 32), least32},
		{"P1.5 Sar by the width and more, 32", Sar(least32, 33, 32), 0xc0000000},
		{"P1.5 by is not narrowed ahead of the modulo", Shl(1, 0x103, 8), 8},
	})
}

func TestSwapByExample(t *testing.T) {
	checkRows(t, []row{
		{"P1.6 Swap(0x0102, 16)", Swap(0x0102, 16), 0x0201},
		{"P1.6 Swap(0x010203, 8)", Swap(0x010203, 8), 3},
		{"P1.6 Swap(1, 64)", Swap(1, 64), 1 << 56},
		{"P1.6 Swap(0x0102030405060708, 64)", Swap(0x0102030405060708, 64), 0x0807060504030201},
		{"P1.6 Swap(0x0102030405060708, 32)", Swap(0x0102030405060708, 32), 0x08070605},
		{"P1.6 Swap(0x0102030405060708, 16)", Swap(0x0102030405060708, 16), 0x0807},
	})
}

func TestOrdersByExample(t *testing.T) {
	for _, r := range []struct {
		a     uint64
		b     uint64
		width int
		less  bool
		sless bool
	}{
		{0x100, 1, 8, true, true},
		{0xff, 0, 8, false, true},
		{0xff, 0, 16, false, false},
		{0x7f, 0x80, 8, true, false},
		{0x8000, 0x7fff, 16, false, true},
		{least32, 0, 32, false, true},
		{least32, 0, 64, false, false},
		{least64, 0, 64, false, true},
		{all, all - 1, 64, false, false},
		{all - 1, all, 64, true, true},
		{5, 5, 64, false, false},
		{0x105, 5, 8, false, false},
	} {
		if got := Less(r.a, r.b, r.width); got != r.less {
			t.Errorf("P1.7 Less(%#x, %#x, %d): %v", r.a, r.b, r.width, got)
		}
		if got := SLess(r.a, r.b, r.width); got != r.sless {
			t.Errorf("P1.7 SLess(%#x, %#x, %d): %v", r.a, r.b, r.width, got)
		}
	}
}
