package num

import (
	"math"
	"math/big"
	"strings"
	"testing"

	"highroad/api"
)

const top = math.MaxUint64

// edges are the numbers near which a sum, a difference or a product leaves its range.
func edges() []uint64 {
	return []uint64{
		0, 1, 2, 3, 9, 10, 11, 99, 100,
		1<<31 - 1, 1 << 31, 1<<32 - 1, 1 << 32, 1<<32 + 1,
		1<<62 - 1, 1 << 62, 1<<63 - 1, 1 << 63, 1<<63 + 1,
		top / 10, top/10 + 1, top / 3, top/2 + 2, top - 2, top - 1, top,
	}
}

// exact computes the same by numbers without bounds: the number and OK, or 0 and Overflow.
func exact(op func(z, a, b *big.Int) *big.Int, a, b uint64) (uint64, api.Fault) {
	z := op(new(big.Int), new(big.Int).SetUint64(a), new(big.Int).SetUint64(b))
	if !z.IsUint64() {
		return 0, api.Overflow
	}
	return z.Uint64(), api.OK
}

type pairCase struct {
	a, b  uint64
	want  uint64
	fault api.Fault
}

func checkPairs(t *testing.T, name string, f func(a, b uint64) (uint64, api.Fault), cases []pairCase) {
	t.Helper()
	for _, c := range cases {
		if got, fault := f(c.a, c.b); got != c.want || fault != c.fault {
			t.Errorf("%s(%d, %d): %d and %d, not %d and %d", name, c.a, c.b, got, fault, c.want, c.fault)
		}
	}
}

func exactPairs(op func(z, a, b *big.Int) *big.Int) []pairCase {
	var l []pairCase
	for _, a := range edges() {
		for _, b := range edges() {
			want, fault := exact(op, a, b)
			l = append(l, pairCase{a, b, want, fault})
		}
	}
	return l
}

// P101 (Add).
func TestAdd(t *testing.T) {
	checkPairs(t, "Add", Add, []pairCase{
		{0, 0, 0, api.OK},
		{2, 3, 5, api.OK},
		{top, 0, top, api.OK},
		{0, top, top, api.OK},
		{top - 1, 1, top, api.OK},
		{top, 1, 0, api.Overflow},
		{1, top, 0, api.Overflow},
		{top - 1, 2, 0, api.Overflow},
		{1 << 63, 1<<63 - 1, top, api.OK},
		{1 << 63, 1 << 63, 0, api.Overflow},
		{top, top, 0, api.Overflow},
	})
	checkPairs(t, "Add", Add, exactPairs((*big.Int).Add))
}

// P101 (Sub).
func TestSub(t *testing.T) {
	checkPairs(t, "Sub", Sub, []pairCase{
		{0, 0, 0, api.OK},
		{5, 3, 2, api.OK},
		{7, 7, 0, api.OK},
		{1, 2, 0, api.Overflow},
		{0, 1, 0, api.Overflow},
		{0, top, 0, api.Overflow},
		{top, top, 0, api.OK},
		{top, 0, top, api.OK},
		{top, 1, top - 1, api.OK},
		{top - 1, top, 0, api.Overflow},
	})
	checkPairs(t, "Sub", Sub, exactPairs((*big.Int).Sub))
}

// P101 (Mul).
func TestMul(t *testing.T) {
	checkPairs(t, "Mul", Mul, []pairCase{
		{0, 0, 0, api.OK},
		{6, 7, 42, api.OK},
		{0, top, 0, api.OK},
		{top, 0, 0, api.OK},
		{1, top, top, api.OK},
		{top, 1, top, api.OK},
		{1 << 32, 1 << 31, 9223372036854775808, api.OK},
		{1<<32 + 1, 1<<32 - 1, top, api.OK},
		{1 << 32, 1 << 32, 0, api.Overflow},
		{1<<32 + 1, 1 << 32, 0, api.Overflow},
		{1 << 63, 2, 0, api.Overflow},
		{top / 3, 3, top, api.OK},
		{top/3 + 1, 3, 0, api.Overflow},
		{top, 2, 0, api.Overflow},
		{top, top, 0, api.Overflow},
	})
	checkPairs(t, "Mul", Mul, exactPairs((*big.Int).Mul))
}

// P101 (Sum).
func TestSum(t *testing.T) {
	cases := []struct {
		l     []uint64
		want  uint64
		fault api.Fault
	}{
		{nil, 0, api.OK},
		{[]uint64{}, 0, api.OK},
		{[]uint64{8}, 8, api.OK},
		{[]uint64{top}, top, api.OK},
		{[]uint64{1, 2, 3}, 6, api.OK},
		{[]uint64{top - 3, 1, 2}, top, api.OK},
		{[]uint64{top - 3, 1, 2, 0, 0}, top, api.OK},
		{[]uint64{top - 3, 1, 3}, 0, api.Overflow},
		{[]uint64{1, top}, 0, api.Overflow},
		{[]uint64{top, 1, 5}, 0, api.Overflow},    // the low 64 bits go on to 5
		{[]uint64{top, top, 2}, 0, api.Overflow},  // and to 0
		{[]uint64{0, 0, top, 1}, 0, api.Overflow}, // only the last one is too much
		{[]uint64{1 << 63, 1 << 63, 0}, 0, api.Overflow},
	}
	for _, c := range cases {
		if got, fault := Sum(c.l...); got != c.want || fault != c.fault {
			t.Errorf("Sum(%v): %d and %d, not %d and %d", c.l, got, fault, c.want, c.fault)
		}
	}
	if got, fault := Sum(); got != 0 || fault != api.OK {
		t.Errorf("Sum(): %d and %d", got, fault)
	}
}

// Rule 4: Sum leaves what it is given, and what lies behind it.
func TestSumLeavesItsArguments(t *testing.T) {
	l := []uint64{4, 5, 6, 7}
	Sum(l[:2]...)
	for i, k := range l {
		if k != uint64(4+i) {
			t.Errorf("number %d became %d", i, k)
		}
	}
}

// P102 (Cap).
func TestCap(t *testing.T) {
	cases := []struct{ n, most, want uint64 }{
		{9, 4, 4}, {4, 9, 4}, {4, 4, 4}, {5, 4, 4}, {3, 4, 3},
		{0, 0, 0}, {0, 1, 0}, {1, 0, 0}, {top, 0, 0}, {0, top, 0},
		{top, top, top}, {top, top - 1, top - 1}, {top - 1, top, top - 1},
		{1 << 63, 1, 1}, {1, 1 << 63, 1},
	}
	for _, c := range cases {
		if got := Cap(c.n, c.most); got != c.want {
			t.Errorf("Cap(%d, %d): %d, not %d", c.n, c.most, got, c.want)
		}
	}
}

// P102 (Mod).
func TestMod(t *testing.T) {
	cases := []struct{ i, n, want int }{
		{0, 5, 0}, {1, 5, 1}, {4, 5, 4}, {5, 5, 0}, {6, 5, 1},
		{-1, 5, 4}, {-4, 5, 1}, {-5, 5, 0}, {-6, 5, 4}, {-10, 5, 0}, {-11, 5, 4},
		{0, 1, 0}, {7, 1, 0}, {-7, 1, 0},
		{7, 0, 0}, {0, 0, 0}, {-7, 0, 0},
		{7, -1, 0}, {7, -5, 0}, {-7, -5, 0}, {3, math.MinInt, 0},
		{math.MinInt, -1, 0}, {math.MinInt, math.MinInt, 0},
		{math.MinInt, 1, 0}, {math.MinInt, 2, 0}, {math.MinInt, 3, 1}, {math.MinInt, 10, 2},
		{math.MinInt, math.MaxInt, math.MaxInt - 1},
		{-1, math.MaxInt, math.MaxInt - 1}, {1, math.MaxInt, 1},
		{math.MaxInt, math.MaxInt, 0}, {-math.MaxInt, math.MaxInt, 0},
		{math.MaxInt - 1, math.MaxInt, math.MaxInt - 1},
	}
	for _, c := range cases {
		if got := Mod(c.i, c.n); got != c.want {
			t.Errorf("Mod(%d, %d): %d, not %d", c.i, c.n, got, c.want)
		}
	}
}

// P103 (Print).
func TestPrint(t *testing.T) {
	cases := []struct {
		n    uint64
		want string
	}{
		{0, "0"}, {1, "1"}, {9, "9"}, {10, "10"}, {70, "70"}, {100, "100"}, {1020304050, "1020304050"},
		{9223372036854775807, "9223372036854775807"}, {9223372036854775808, "9223372036854775808"},
		{top - 1, "18446744073709551614"}, {top, "18446744073709551615"},
	}
	for _, c := range cases {
		if got := Print(c.n); got != c.want {
			t.Errorf("Print(%d): %q, not %q", c.n, got, c.want)
		}
	}
}

// P103 (Parse): the texts that are numbers.
func TestParseNumbers(t *testing.T) {
	cases := []struct {
		s    string
		want uint64
	}{
		{"0", 0}, {"1", 1}, {"9", 9}, {"10", 10}, {"100", 100}, {"7008", 7008}, {"1234567890", 1234567890},
		{"9223372036854775807", 1<<63 - 1}, {"9223372036854775808", 1 << 63},
		{"10000000000000000000", 10000000000000000000},
		{"18446744073709551609", top - 6}, {"18446744073709551610", top - 5},
		{"18446744073709551614", top - 1}, {"18446744073709551615", top},
	}
	for _, c := range cases {
		if got, fault := Parse(c.s); got != c.want || fault != api.OK {
			t.Errorf("Parse(%q): %d and %d, not %d", c.s, got, fault, c.want)
		}
	}
}

// P103 (Parse): the texts that are none, and Syntax ahead of Overflow (rule 2).
func TestParseFaults(t *testing.T) {
	const long = "18446744073709551616"
	cases := []struct {
		s     string
		fault api.Fault
	}{
		{"", api.Syntax},
		{"00", api.Syntax}, {"01", api.Syntax}, {"007", api.Syntax}, {"0x1", api.Syntax}, {"0 ", api.Syntax},
		{"0" + long, api.Syntax}, {strings.Repeat("0", 50), api.Syntax},
		{" ", api.Syntax}, {" 1", api.Syntax}, {"1 ", api.Syntax}, {"1\n", api.Syntax}, {"1 2", api.Syntax},
		{"+1", api.Syntax}, {"-1", api.Syntax}, {"-0", api.Syntax}, {"-", api.Syntax}, {"+", api.Syntax},
		{"1_000", api.Syntax}, {"1.0", api.Syntax}, {"1,0", api.Syntax}, {"1e3", api.Syntax}, {"ff", api.Syntax},
		{"/", api.Syntax}, {":", api.Syntax}, {"1/", api.Syntax}, {"1:", api.Syntax}, {"1:1", api.Syntax}, {"1/1", api.Syntax},
		{"\x00", api.Syntax}, {"1\x00", api.Syntax}, {"\xff", api.Syntax}, {"1\xff2", api.Syntax},
		{"\xb1", api.Syntax},   // a digit but for its highest bit
		{"\u0661", api.Syntax}, // digits of other scripts
		{"1\uff12", api.Syntax},
		{long, api.Overflow}, {"18446744073709551620", api.Overflow}, {"18446744073709551625", api.Overflow},
		{"18446744073709551700", api.Overflow}, {"20000000000000000000", api.Overflow}, {"99999999999999999999", api.Overflow},
		{"184467440737095516150", api.Overflow}, {"100000000000000000000", api.Overflow},
		{"340282366920938463463374607431768211456", api.Overflow}, // 2^128: its low bits are 0
		{"18446744073709551617000000000000000000000", api.Overflow},
		{"1" + strings.Repeat("0", 1000), api.Overflow}, {strings.Repeat("9", 1000), api.Overflow},
		{long + "x", api.Syntax}, {long + " ", api.Syntax}, {"x" + long, api.Syntax},
		{long + "/5", api.Syntax}, {long + "000x000", api.Syntax}, {strings.Repeat("9", 1000) + ":", api.Syntax},
	}
	for _, c := range cases {
		if got, fault := Parse(c.s); got != 0 || fault != c.fault {
			t.Errorf("Parse(%q): %d and %d, not 0 and %d", c.s, got, fault, c.fault)
		}
	}
}

// P103 (Parse): every byte but the ten digits is refused, wherever it stands.
func TestParseBytes(t *testing.T) {
	for b := 0; b < 256; b++ {
		digit := b >= '0' && b <= '9'
		one := string([]byte{byte(b)})
		want, wantFault := uint64(0), api.Syntax
		if digit {
			want, wantFault = uint64(b-'0'), api.OK
		}
		if got, fault := Parse(one); got != want || fault != wantFault {
			t.Errorf("Parse(%q): %d and %d, not %d and %d", one, got, fault, want, wantFault)
		}
		for _, s := range []string{"1" + one, "1" + one + "1", one + "12"} {
			if _, fault := Parse(s); !digit && fault != api.Syntax {
				t.Errorf("Parse(%q): fault %d, not Syntax", s, fault)
			}
		}
	}
}

// P103 (Int).
func TestInt(t *testing.T) {
	cases := []struct {
		s     string
		most  int
		want  int
		fault api.Fault
	}{
		{"70", 100, 70, api.OK},
		{"70", 71, 70, api.OK},
		{"70", 70, 70, api.OK},
		{"70", 69, 0, api.Range},
		{"70", 0, 0, api.Range},
		{"0", 0, 0, api.OK},
		{"0", 5, 0, api.OK},
		{"1", 0, 0, api.Range},
		{"0", -1, 0, api.Range},
		{"5", -1, 0, api.Range},
		{"70", -100, 0, api.Range},
		{"0", math.MinInt, 0, api.Range},
		{"9223372036854775808", math.MinInt, 0, api.Range},
		{"18446744073709551615", -1, 0, api.Range},
		{"9223372036854775807", math.MaxInt, math.MaxInt, api.OK},
		{"9223372036854775806", math.MaxInt, math.MaxInt - 1, api.OK},
		{"9223372036854775807", math.MaxInt - 1, 0, api.Range},
		{"9223372036854775808", math.MaxInt, 0, api.Range},
		{"18446744073709551615", math.MaxInt, 0, api.Range},
		{"18446744073709551615", 5, 0, api.Range},
	}
	for _, c := range cases {
		if got, fault := Int(c.s, c.most); got != c.want || fault != c.fault {
			t.Errorf("Int(%q, %d): %d and %d, not %d and %d", c.s, c.most, got, fault, c.want, c.fault)
		}
	}
}

// P103 (Int): the fault of Parse comes ahead of Range, whatever most is.
func TestIntFaultsOfParse(t *testing.T) {
	cases := []struct {
		s     string
		fault api.Fault
	}{
		{"", api.Syntax}, {"007", api.Syntax}, {"x", api.Syntax}, {"-1", api.Syntax}, {"7 ", api.Syntax},
		{"18446744073709551616", api.Overflow}, {"99999999999999999999", api.Overflow},
		{"18446744073709551616x", api.Syntax},
	}
	for _, c := range cases {
		for _, most := range []int{math.MinInt, -1, 0, 1, 100, math.MaxInt} {
			if got, fault := Int(c.s, most); got != 0 || fault != c.fault {
				t.Errorf("Int(%q, %d): %d and %d, not 0 and %d", c.s, most, got, fault, c.fault)
			}
		}
	}
}

// P104: Parse inverts Print.
func TestParseInvertsPrint(t *testing.T) {
	l := edges()
	for n := uint64(1); n < top/7; n *= 7 {
		l = append(l, n, n-1, n+1, top-n)
	}
	for n := uint64(0); n < 2000; n++ {
		l = append(l, n)
	}
	for _, n := range l {
		if got, fault := Parse(Print(n)); got != n || fault != api.OK {
			t.Errorf("Parse(Print(%d)): %d and %d", n, got, fault)
		}
	}
}

// P104: Sub inverts Add, wherever Add has a sum.
func TestSubInvertsAdd(t *testing.T) {
	sums := 0
	for _, a := range edges() {
		for _, b := range edges() {
			s, fault := Add(a, b)
			if fault != api.OK {
				continue
			}
			sums++
			if got, fault := Sub(s, b); got != a || fault != api.OK {
				t.Errorf("Sub(Add(%d, %d), %d): %d and %d", a, b, b, got, fault)
			}
			if got, fault := Sub(s, a); got != b || fault != api.OK {
				t.Errorf("Sub(Add(%d, %d), %d): %d and %d", a, b, a, got, fault)
			}
		}
	}
	if sums < len(edges()) {
		t.Errorf("only %d sums were there to be inverted", sums)
	}
}
