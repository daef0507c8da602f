package ratio

import (
	"math"
	"math/big"
	"strings"
	"testing"

	"highroad/api"
)

const top = math.MaxUint64

// ends are the ratios at the ends of what is valid, with some between them.
func ends() []api.Ratio {
	var l []api.Ratio
	for _, n := range []uint64{0, 1, 2, 3, 4, 6, 7, 1000, api.MaxRatio - 1, api.MaxRatio} {
		for _, d := range []uint64{1, 2, 3, 4, 8, 9, 999, api.MaxRatio - 1, api.MaxRatio} {
			l = append(l, api.Ratio{Num: n, Den: d})
		}
	}
	return l
}

// wrong are ratios that are not valid, by one number or by both.
func wrong() []api.Ratio {
	return []api.Ratio{
		{Num: 0, Den: 0}, {Num: 1, Den: 0}, {Num: api.MaxRatio, Den: 0}, {Num: top, Den: 0},
		{Num: api.MaxRatio + 1, Den: 0}, {Num: api.MaxRatio + 1, Den: 1}, {Num: api.MaxRatio + 1, Den: api.MaxRatio},
		{Num: 0, Den: api.MaxRatio + 1}, {Num: 1, Den: api.MaxRatio + 1}, {Num: api.MaxRatio, Den: api.MaxRatio + 1},
		{Num: api.MaxRatio + 1, Den: api.MaxRatio + 1}, {Num: 1 << 32, Den: 1 << 32}, {Num: 1 << 63, Den: 1 << 63},
		{Num: top, Den: 1}, {Num: 1, Den: top}, {Num: top, Den: top},
	}
}

// weights are the numbers near which a product leaves 64 bits.
func weights() []uint64 {
	return []uint64{
		0, 1, 2, 3, 4, 5, 7, 8, 100, 1<<32 - 1, 1 << 32, 1<<44 - 1, 1 << 44, 1<<44 + 1,
		1<<62 - 1, 1 << 62, 1<<63 - 1, 1 << 63, 1<<63 + 1,
		top / 3, top/api.MaxRatio - 1, top / api.MaxRatio, top/api.MaxRatio + 1, top - 2, top - 1, top,
	}
}

func exact(n uint64) *big.Int { return new(big.Int).SetUint64(n) }

// times is the product of a and b without bounds.
func times(a, b *big.Int) *big.Int { return new(big.Int).Mul(a, b) }

func quotient(r api.Ratio) *big.Rat { return new(big.Rat).SetFrac(exact(r.Num), exact(r.Den)) }

// P201 (Right).
func TestRight(t *testing.T) {
	for _, r := range append(ends(), api.Ratio{Num: 3, Den: 4}) {
		if !Right(r) {
			t.Errorf("Right(%v): false", r)
		}
	}
	for _, r := range wrong() {
		if Right(r) {
			t.Errorf("Right(%v): true", r)
		}
	}
}

// P201 (Parse): texts that are ratios, none of them reduced.
func TestParse(t *testing.T) {
	cases := []struct {
		s    string
		want api.Ratio
	}{
		{"3/4", api.Ratio{Num: 3, Den: 4}},
		{"6/8", api.Ratio{Num: 6, Den: 8}},
		{"4/3", api.Ratio{Num: 4, Den: 3}},
		{"10/100", api.Ratio{Num: 10, Den: 100}},
		{"0/1", api.Ratio{Num: 0, Den: 1}},
		{"0/7", api.Ratio{Num: 0, Den: 7}},
		{"7/7", api.Ratio{Num: 7, Den: 7}},
		{"0/1048576", api.Ratio{Num: 0, Den: api.MaxRatio}},
		{"1048576/1", api.Ratio{Num: api.MaxRatio, Den: 1}},
		{"1048575/1048575", api.Ratio{Num: api.MaxRatio - 1, Den: api.MaxRatio - 1}},
		{"1048576/1048576", api.Ratio{Num: api.MaxRatio, Den: api.MaxRatio}},
	}
	for _, c := range cases {
		if got, fault := Parse(c.s); got != c.want || fault != api.OK {
			t.Errorf("Parse(%q): %v and %d, not %v", c.s, got, fault, c.want)
		}
	}
}

// P201 (Parse): texts that are none. Syntax comes ahead of Range (rule 2).
func TestParseFaults(t *testing.T) {
	const long = "18446744073709551616"
	cases := []struct {
		fault api.Fault
		texts []string
	}{
		{api.Syntax, []string{"", "1", "0", "1048577", long, "1:2", "1\\2", "1 2", "1.5", "3\u20444"}},
		{api.Syntax, []string{"/", "//", "1/", "/1", "1//2", "1/2/", "/1/2", "1/2/3", "1/2/0", "1/0/2", "1/1/1/1"}},
		{api.Syntax, []string{"01/2", "1/02", "00/1", "1/00", "007/8"}},
		{api.Syntax, []string{" 1/2", "1/2 ", "1 /2", "1/ 2", "1/2\n", "\t1/2", "1/2\x00", "\xff/1", "1/\xff"}},
		{api.Syntax, []string{"-1/2", "1/-2", "+1/2", "1/+2", "-0/1", "x/2", "1/x", "1x/2", "1/2x", "0x1/2", "1e3/1", "1_0/2", "1.0/2"}},
		{api.Syntax, []string{long + "/1", "1/" + long, long + "/" + long, long + "/0", "0/" + long, strings.Repeat("9", 1000) + "/1"}},
		{api.Syntax, []string{"/0", "0/", "1048577/", "/1048577", "1048577/x", "x/0", "01/0", "1048577/01", "1048577/" + long}},
		{api.Range, []string{"1/0", "0/0", "1048576/0", "1048577/0"}},
		{api.Range, []string{"1048577/1", "1048577/1048576", "1/1048577", "0/1048577", "1048576/1048577", "1048577/1048577"}},
		{api.Range, []string{"18446744073709551615/1", "1/18446744073709551615", "18446744073709551615/18446744073709551615"}},
	}
	for _, c := range cases {
		for _, s := range c.texts {
			if got, fault := Parse(s); got != (api.Ratio{}) || fault != c.fault {
				t.Errorf("Parse(%q): %v and %d, not the zero ratio and %d", s, got, fault, c.fault)
			}
		}
	}
}

// P201 (Print).
func TestPrint(t *testing.T) {
	cases := []struct {
		r    api.Ratio
		want string
	}{
		{api.Ratio{Num: 6, Den: 8}, "6/8"},
		{api.Ratio{Num: 3, Den: 4}, "3/4"},
		{api.Ratio{Num: 0, Den: 1}, "0/1"},
		{api.Ratio{Num: 0, Den: 30}, "0/30"},
		{api.Ratio{Num: 100, Den: 1}, "100/1"},
		{api.Ratio{Num: api.MaxRatio, Den: 1}, "1048576/1"},
		{api.Ratio{Num: 0, Den: api.MaxRatio}, "0/1048576"},
		{api.Ratio{Num: api.MaxRatio, Den: api.MaxRatio}, "1048576/1048576"},
	}
	for _, c := range cases {
		if got := Print(c.r); got != c.want {
			t.Errorf("Print(%v): %q, not %q", c.r, got, c.want)
		}
	}
	for _, r := range wrong() {
		if got := Print(r); got != "" {
			t.Errorf("Print(%v): %q, not an empty string", r, got)
		}
	}
}

// P201: what is printed is read as it was.
func TestParseReadsPrint(t *testing.T) {
	for _, r := range ends() {
		if got, fault := Parse(Print(r)); got != r || fault != api.OK {
			t.Errorf("Parse(Print(%v)): %v and %d", r, got, fault)
		}
	}
}

// P202 (Cmp).
func TestCmp(t *testing.T) {
	const most = api.MaxRatio
	cases := []struct {
		a, b api.Ratio
		want int
	}{
		{api.Ratio{Num: 6, Den: 8}, api.Ratio{Num: 3, Den: 4}, 0},
		{api.Ratio{Num: 3, Den: 4}, api.Ratio{Num: 3, Den: 4}, 0},
		{api.Ratio{Num: 3, Den: 4}, api.Ratio{Num: 4, Den: 3}, -1},
		{api.Ratio{Num: 2, Den: 3}, api.Ratio{Num: 3, Den: 4}, -1},
		{api.Ratio{Num: 1, Den: 2}, api.Ratio{Num: 1, Den: 3}, 1},
		{api.Ratio{Num: 5, Den: 1}, api.Ratio{Num: 4, Den: 1}, 1},
		{api.Ratio{Num: 0, Den: 1}, api.Ratio{Num: 0, Den: most}, 0},
		{api.Ratio{Num: 0, Den: 5}, api.Ratio{Num: 0, Den: 3}, 0},
		{api.Ratio{Num: 0, Den: 1}, api.Ratio{Num: 1, Den: most}, -1},
		{api.Ratio{Num: most, Den: most}, api.Ratio{Num: 1, Den: 1}, 0},
		{api.Ratio{Num: most, Den: 2}, api.Ratio{Num: most / 2, Den: 1}, 0},
		{api.Ratio{Num: most, Den: 1}, api.Ratio{Num: 1, Den: most}, 1},
		{api.Ratio{Num: most - 1, Den: most}, api.Ratio{Num: 1, Den: 1}, -1},
		{api.Ratio{Num: most - 2, Den: most - 1}, api.Ratio{Num: most - 1, Den: most}, -1},
		{api.Ratio{Num: most, Den: most - 1}, api.Ratio{Num: most - 1, Den: most - 2}, -1},
	}
	for _, c := range cases {
		if got := Cmp(c.a, c.b); got != c.want {
			t.Errorf("Cmp(%v, %v): %d, not %d", c.a, c.b, got, c.want)
		}
		if got := Cmp(c.b, c.a); got != -c.want {
			t.Errorf("Cmp(%v, %v): %d, not %d", c.b, c.a, got, -c.want)
		}
	}
	for _, a := range ends() {
		for _, b := range ends() {
			if got, want := Cmp(a, b), quotient(a).Cmp(quotient(b)); got != want {
				t.Errorf("Cmp(%v, %v): %d, not %d", a, b, got, want)
			}
		}
	}
}

// P202 (Cmp): 0 where one of the two is not valid, or neither.
func TestCmpWrong(t *testing.T) {
	for _, a := range wrong() {
		for _, b := range append(ends(), wrong()...) {
			if got := Cmp(a, b); got != 0 {
				t.Errorf("Cmp(%v, %v): %d, not 0", a, b, got)
			}
			if got := Cmp(b, a); got != 0 {
				t.Errorf("Cmp(%v, %v): %d, not 0", b, a, got)
			}
		}
	}
}

// P202 (Reduce).
func TestReduce(t *testing.T) {
	const most = api.MaxRatio
	cases := []struct{ r, want api.Ratio }{
		{api.Ratio{Num: 6, Den: 8}, api.Ratio{Num: 3, Den: 4}},
		{api.Ratio{Num: 8, Den: 6}, api.Ratio{Num: 4, Den: 3}},
		{api.Ratio{Num: 3, Den: 4}, api.Ratio{Num: 3, Den: 4}},
		{api.Ratio{Num: 1, Den: 1}, api.Ratio{Num: 1, Den: 1}},
		{api.Ratio{Num: 7, Den: 7}, api.Ratio{Num: 1, Den: 1}},
		{api.Ratio{Num: 12, Den: 4}, api.Ratio{Num: 3, Den: 1}},
		{api.Ratio{Num: 4, Den: 12}, api.Ratio{Num: 1, Den: 3}},
		{api.Ratio{Num: 360, Den: 84}, api.Ratio{Num: 30, Den: 7}},
		{api.Ratio{Num: 0, Den: 1}, api.Ratio{Num: 0, Den: 1}},
		{api.Ratio{Num: 0, Den: 6}, api.Ratio{Num: 0, Den: 1}},
		{api.Ratio{Num: 0, Den: most}, api.Ratio{Num: 0, Den: 1}},
		{api.Ratio{Num: most, Den: most}, api.Ratio{Num: 1, Den: 1}},
		{api.Ratio{Num: most, Den: 1}, api.Ratio{Num: most, Den: 1}},
		{api.Ratio{Num: 1, Den: most}, api.Ratio{Num: 1, Den: most}},
		{api.Ratio{Num: most, Den: 2}, api.Ratio{Num: most / 2, Den: 1}},
		{api.Ratio{Num: most - 1, Den: most}, api.Ratio{Num: most - 1, Den: most}},
		{api.Ratio{Num: 832040, Den: 514229}, api.Ratio{Num: 832040, Den: 514229}}, // the longest way to 1
	}
	for _, c := range cases {
		if got := Reduce(c.r); got != c.want {
			t.Errorf("Reduce(%v): %v, not %v", c.r, got, c.want)
		}
	}
	for _, r := range ends() {
		q := quotient(r)
		want := api.Ratio{Num: q.Num().Uint64(), Den: q.Denom().Uint64()}
		if got := Reduce(r); got != want {
			t.Errorf("Reduce(%v): %v, not %v", r, got, want)
		}
	}
	for _, r := range wrong() {
		if got := Reduce(r); got != (api.Ratio{}) {
			t.Errorf("Reduce(%v): %v, not the zero ratio", r, got)
		}
	}
}

type limitCase struct {
	w    uint64
	r    api.Ratio
	base uint64
	want bool
}

// checkLimit holds f against cases, against w * Den <= factor * base without bounds, and against false where the ratio is not valid.
func checkLimit(t *testing.T, name string, f func(w uint64, r api.Ratio, base uint64) bool, factor func(r api.Ratio) uint64, cases []limitCase) {
	t.Helper()
	for _, r := range ends() {
		for _, w := range weights() {
			for _, base := range weights() {
				want := times(exact(w), exact(r.Den)).Cmp(times(exact(factor(r)), exact(base))) <= 0
				cases = append(cases, limitCase{w, r, base, want})
			}
		}
	}
	for _, r := range wrong() {
		for _, base := range weights() {
			cases = append(cases, limitCase{0, r, base, false}, limitCase{1, r, base, false}, limitCase{top, r, base, false})
		}
	}
	for _, c := range cases {
		if got := f(c.w, c.r, c.base); got != c.want {
			t.Errorf("%s(%d, %v, %d): %t, not %t", name, c.w, c.r, c.base, got, c.want)
		}
	}
}

// P203 (Within).
func TestWithin(t *testing.T) {
	const most = api.MaxRatio
	factor := func(r api.Ratio) uint64 { return r.Num }
	checkLimit(t, "Within", Within, factor, []limitCase{
		{3, api.Ratio{Num: 3, Den: 4}, 4, true},
		{4, api.Ratio{Num: 3, Den: 4}, 5, false},
		{2, api.Ratio{Num: 3, Den: 4}, 4, true},
		{4, api.Ratio{Num: 3, Den: 4}, 4, false},
		{3, api.Ratio{Num: 3, Den: 4}, 3, false},
		{0, api.Ratio{Num: 3, Den: 4}, 0, true},
		{1, api.Ratio{Num: 3, Den: 4}, 0, false},
		{0, api.Ratio{Num: 0, Den: 1}, top, true},
		{1, api.Ratio{Num: 0, Den: most}, top, false},
		{top, api.Ratio{Num: 1, Den: 1}, top, true},
		{top, api.Ratio{Num: 1, Den: 1}, top - 1, false},
		{top, api.Ratio{Num: most, Den: most}, top, true},
		{top, api.Ratio{Num: most, Den: most}, top - 1, false},
		{top - 1, api.Ratio{Num: most - 1, Den: most}, top, false},
		{1 << 63, api.Ratio{Num: 1, Den: 2}, 1, false}, // the low 64 bits are 0
		{1 << 62, api.Ratio{Num: 4, Den: 1}, 1 << 62, true},
		{1, api.Ratio{Num: 4, Den: 1}, 1 << 62, true},
		{1 << 44, api.Ratio{Num: most, Den: most}, 1<<44 - 1, false},
		{top, api.Ratio{Num: most, Den: 1}, top / most, false}, // 2^64 - 2^20
		{top - most + 1, api.Ratio{Num: most, Den: 1}, top / most, true},
	})
}

// P203 (Stretched).
func TestStretched(t *testing.T) {
	const most = api.MaxRatio
	factor := func(r api.Ratio) uint64 { return r.Num + r.Den }
	checkLimit(t, "Stretched", Stretched, factor, []limitCase{
		{7, api.Ratio{Num: 3, Den: 4}, 4, true},
		{8, api.Ratio{Num: 3, Den: 4}, 4, false},
		{6, api.Ratio{Num: 3, Den: 4}, 4, true},
		{7, api.Ratio{Num: 3, Den: 4}, 3, false},
		{5, api.Ratio{Num: 0, Den: 9}, 5, true},
		{6, api.Ratio{Num: 0, Den: 9}, 5, false},
		{0, api.Ratio{Num: 3, Den: 4}, 0, true},
		{1, api.Ratio{Num: most, Den: 1}, 0, false},
		{top, api.Ratio{Num: 0, Den: most}, top, true},
		{top, api.Ratio{Num: 0, Den: most}, top - 1, false},
		{top, api.Ratio{Num: most, Den: most}, top / 2, false},
		{top - 1, api.Ratio{Num: most, Den: most}, top / 2, true},
		{1 << 63, api.Ratio{Num: 0, Den: 2}, 1, false}, // the low 64 bits are 0
		{top, api.Ratio{Num: most, Den: 1}, 1 << 44, true},
		{top, api.Ratio{Num: most, Den: 1}, 1<<44 - 1<<24, false},
	})
}

// exactUp computes the same as Up by numbers without bounds.
func exactUp(w uint64, r api.Ratio, most uint64) uint64 {
	n, rest := new(big.Int).QuoRem(times(exact(w), exact(r.Num)), exact(r.Den), new(big.Int))
	if rest.Sign() > 0 {
		n.Add(n, exact(1))
	}
	if n.Cmp(exact(most)) > 0 {
		return most
	}
	return n.Uint64()
}

// P203 (Up).
func TestUp(t *testing.T) {
	const most = api.MaxRatio
	cases := []struct {
		w    uint64
		r    api.Ratio
		most uint64
		want uint64
	}{
		{3, api.Ratio{Num: 3, Den: 2}, 100, 5},
		{3, api.Ratio{Num: 3, Den: 2}, 5, 5},
		{3, api.Ratio{Num: 3, Den: 2}, 4, 4},
		{4, api.Ratio{Num: 3, Den: 2}, 100, 6},
		{4, api.Ratio{Num: 3, Den: 2}, 6, 6},
		{4, api.Ratio{Num: 3, Den: 2}, 5, 5},
		{4, api.Ratio{Num: 3, Den: 2}, 0, 0},
		{1, api.Ratio{Num: 1, Den: most}, 100, 1},
		{most, api.Ratio{Num: 1, Den: most}, 100, 1},
		{most + 1, api.Ratio{Num: 1, Den: most}, 100, 2},
		{7, api.Ratio{Num: 4, Den: 3}, 100, 10}, // a rest of 1: 28 is 9 times 3 and 1
		{8, api.Ratio{Num: 4, Den: 3}, 100, 11}, // a rest of 2
		{9, api.Ratio{Num: 4, Den: 3}, 100, 12},
		{0, api.Ratio{Num: 3, Den: 2}, 100, 0},
		{top, api.Ratio{Num: 0, Den: most}, top, 0},
		{1 << 63, api.Ratio{Num: 4, Den: 1}, 9, 9}, // the low 64 bits are 0
		{1 << 63, api.Ratio{Num: 4, Den: 1}, top, top},
		{1 << 63, api.Ratio{Num: 4, Den: 2}, top, top},
		{1 << 63, api.Ratio{Num: 4, Den: 4}, top, 1 << 63},
		{1 << 63, api.Ratio{Num: 4, Den: 8}, top, 1 << 62},
		{top, api.Ratio{Num: 1, Den: 1}, top, top},
		{top, api.Ratio{Num: 1, Den: 1}, top - 1, top - 1},
		{top, api.Ratio{Num: most, Den: most}, top, top},
		{top - 1, api.Ratio{Num: most, Den: most}, top, top - 1},
		{top, api.Ratio{Num: most, Den: 1}, top, top},
		{top, api.Ratio{Num: most, Den: 1}, 0, 0},
		{top, api.Ratio{Num: most - 1, Den: most}, top, top - 1<<44 + 1},
		{top, api.Ratio{Num: 1, Den: 2}, top, 1 << 63},
		{15372286728091293013, api.Ratio{Num: 6, Den: 5}, top, top}, // 5 times top, and 3
		{15372286728091293013, api.Ratio{Num: 6, Den: 5}, 7, 7},
	}
	for _, c := range cases {
		if got := Up(c.w, c.r, c.most); got != c.want {
			t.Errorf("Up(%d, %v, %d): %d, not %d", c.w, c.r, c.most, got, c.want)
		}
	}
}

// P203 (Up): against numbers without bounds.
func TestUpExact(t *testing.T) {
	for _, r := range ends() {
		for _, w := range weights() {
			for _, most := range weights() {
				if got, want := Up(w, r, most), exactUp(w, r, most); got != want {
					t.Errorf("Up(%d, %v, %d): %d, not %d", w, r, most, got, want)
				}
			}
		}
	}
}

// P203 (Up): 0 where the ratio is not valid, whatever most is.
func TestUpWrong(t *testing.T) {
	for _, r := range wrong() {
		for _, w := range weights() {
			for _, most := range []uint64{0, 1, 9, top} {
				if got := Up(w, r, most); got != 0 {
					t.Errorf("Up(%d, %v, %d): %d, not 0", w, r, most, got)
				}
			}
		}
	}
}

// P204: what is Within a ratio is Within every greater one; Stretched is alike.
func TestMonotonicity(t *testing.T) {
	for _, less := range ends() {
		for _, greater := range ends() {
			if quotient(less).Cmp(quotient(greater)) >= 0 {
				continue
			}
			for _, w := range weights() {
				for _, base := range []uint64{0, 1, 4, 1 << 44, 1 << 63, top - 1, top} {
					if Within(w, less, base) && !Within(w, greater, base) {
						t.Errorf("%d is Within %v of %d, but not Within %v", w, less, base, greater)
					}
					if Stretched(w, less, base) && !Stretched(w, greater, base) {
						t.Errorf("%d is Stretched by %v from %d, but not by %v", w, less, base, greater)
					}
				}
			}
		}
	}
}

// P204: a ratio and its reduced form are equal, and answer alike.
func TestReducedIsEqual(t *testing.T) {
	for _, r := range ends() {
		s := Reduce(r)
		if !Right(s) || Cmp(r, s) != 0 {
			t.Errorf("%v and its reduced form %v are not equal", r, s)
		}
		if again := Reduce(s); again != s {
			t.Errorf("Reduce(%v): %v, though it is reduced", s, again)
		}
		for _, w := range weights() {
			for _, base := range weights() {
				alike := Within(w, r, base) == Within(w, s, base) &&
					Stretched(w, r, base) == Stretched(w, s, base) &&
					Up(w, r, base) == Up(w, s, base)
				if !alike {
					t.Errorf("%v and its reduced form %v differ for %d and %d", r, s, w, base)
				}
			}
		}
	}
}
