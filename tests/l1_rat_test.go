package tests

import (
	"math"
	"math/big"
	"strings"
	"testing"

	"loop.example/compurgator/impl"
)

// ratLimit repeats the document's number, so that a wrong impl.RatMost fails too.
const ratLimit = 1000000000

type ratOp func(a impl.Rat, b impl.Rat) (impl.Rat, bool)

type bigOp func(a *big.Rat, b *big.Rat) *big.Rat

func bigOf(a impl.Rat) *big.Rat { return big.NewRat(int64(a.N), int64(a.D)) }

func bigAdd(a *big.Rat, b *big.Rat) *big.Rat { return new(big.Rat).Add(a, b) }

func bigMul(a *big.Rat, b *big.Rat) *big.Rat { return new(big.Rat).Mul(a, b) }

func bigHalf(a *big.Rat) *big.Rat { return new(big.Rat).Mul(a, big.NewRat(1, 2)) }

// representable reports whether r, which big keeps in lowest terms, is a valid Rat.
func representable(r *big.Rat) bool {
	limit := big.NewInt(ratLimit)
	return r.Num().CmpAbs(limit) <= 0 && r.Denom().Cmp(limit) <= 0
}

// checkRat fails unless got is exactly want, or is reported as not representable.
func checkRat(t *testing.T, what string, got impl.Rat, ok bool, want *big.Rat) {
	t.Helper()
	if want == nil || !representable(want) {
		if ok || got != (impl.Rat{}) {
			t.Errorf("%s = %v, %v; want the zero value and false", what, got, ok)
		}
		return
	}
	exact := impl.Rat{N: int(want.Num().Int64()), D: int(want.Denom().Int64())}
	if !ok || got != exact {
		t.Errorf("%s = %v, %v; want %v and true", what, got, ok, exact)
	}
}

// sampleRats are valid fractions, small ones and ones at the limits.
func sampleRats() []impl.Rat {
	uppers := []int{0, 1, 2, 3, 5, 7, 12, 31623, 333333333, 499999999, 500000000, 500000001, 999999937, 999999998, 999999999, ratLimit}
	lowers := []int{1, 2, 3, 4, 6, 7, 31622, 31623, 499999999, 500000000, 500000001, 999999937, 999999998, 999999999, ratLimit}
	var list []impl.Rat
	for _, n := range uppers {
		for _, d := range lowers {
			if big.NewRat(int64(n), int64(d)).Denom().Int64() != int64(d) {
				continue
			}
			list = append(list, impl.Rat{N: n, D: d})
			if n != 0 {
				list = append(list, impl.Rat{N: -n, D: d})
			}
		}
	}
	return list
}

// invalidRats each break one condition of a valid fraction, or more.
func invalidRats() []impl.Rat {
	return []impl.Rat{
		{}, {N: 1}, {N: -1}, {N: ratLimit}, {N: math.MinInt},
		{N: 1, D: -1}, {N: -1, D: -1}, {N: 1, D: -2}, {N: 0, D: -1}, {N: 3, D: -ratLimit}, {N: 1, D: math.MinInt},
		{N: 0, D: 2}, {N: 0, D: ratLimit}, {N: 2, D: 2}, {N: 2, D: 4}, {N: -2, D: 4}, {N: 6, D: 3}, {N: 10, D: 15},
		{N: 999999998, D: 499999999}, {N: -ratLimit, D: 2}, {N: ratLimit, D: ratLimit},
		{N: ratLimit + 1, D: 1}, {N: -ratLimit - 1, D: 1}, {N: ratLimit + 1, D: 2}, {N: -ratLimit - 1, D: 2},
		{N: 1, D: ratLimit + 1}, {N: -1, D: ratLimit + 1}, {N: 1, D: 2 * ratLimit},
		{N: math.MaxInt, D: 1}, {N: math.MinInt, D: 1}, {N: 1, D: math.MaxInt}, {N: math.MinInt, D: math.MaxInt}, {N: math.MinInt, D: math.MinInt},
	}
}

func TestRatMost(t *testing.T) {
	if impl.RatMost != ratLimit {
		t.Error(impl.RatMost)
	}
}

func TestRatOk(t *testing.T) {
	for _, a := range sampleRats() {
		if !impl.RatOk(a) {
			t.Errorf("%v is valid", a)
		}
	}
	for _, a := range invalidRats() {
		if impl.RatOk(a) {
			t.Errorf("%v is not valid", a)
		}
	}
	for n := -40; n <= 40; n++ {
		for d := -40; d <= 40; d++ {
			want := d > 0 && big.NewRat(int64(n), int64(d)).Denom().Int64() == int64(d)
			if impl.RatOk(impl.Rat{N: n, D: d}) != want {
				t.Errorf("%d/%d: want %v", n, d, want)
			}
		}
	}
}

func TestRatOf(t *testing.T) {
	for _, c := range []struct{ n, d, wantN, wantD int }{
		{6, -4, -3, 2}, {-6, 4, -3, 2}, {-6, -4, 3, 2}, {6, 4, 3, 2}, {1, 1, 1, 1}, {1, -1, -1, 1}, {-1, -1, 1, 1},
		{0, 1, 0, 1}, {0, 7, 0, 1}, {0, -7, 0, 1}, {0, ratLimit, 0, 1}, {0, -ratLimit, 0, 1},
		{ratLimit, ratLimit, 1, 1}, {ratLimit, -ratLimit, -1, 1}, {-ratLimit, -ratLimit, 1, 1},
		{ratLimit, 1, ratLimit, 1}, {-ratLimit, 1, -ratLimit, 1}, {ratLimit, -1, -ratLimit, 1},
		{1, ratLimit, 1, ratLimit}, {1, -ratLimit, -1, ratLimit}, {999999999, -ratLimit, -999999999, ratLimit},
		{12, ratLimit, 3, 250000000}, {999999999, 333333333, 3, 1},
	} {
		got, ok := impl.RatOf(c.n, c.d)
		if want := (impl.Rat{N: c.wantN, D: c.wantD}); !ok || got != want {
			t.Errorf("RatOf(%d, %d) = %v, %v; want %v", c.n, c.d, got, ok, want)
		}
	}
}

func TestRatOfRefuses(t *testing.T) {
	past := []int{ratLimit + 1, -ratLimit - 1, 2 * ratLimit, math.MaxInt, math.MinInt, math.MinInt + 1}
	pairs := [][2]int{{0, 0}, {1, 0}, {-1, 0}, {ratLimit, 0}, {math.MinInt, 0}}
	for _, p := range past {
		// Some of these would be in range in lowest terms; RatOf refuses them all the same.
		for _, q := range []int{0, 1, -1, 2, ratLimit, p, -p} {
			pairs = append(pairs, [2]int{p, q}, [2]int{q, p})
		}
	}
	for _, p := range pairs {
		if got, ok := impl.RatOf(p[0], p[1]); ok || got != (impl.Rat{}) {
			t.Errorf("RatOf(%d, %d) = %v, %v; want the zero value and false", p[0], p[1], got, ok)
		}
	}
}

func TestRatOfIsExact(t *testing.T) {
	for n := -60; n <= 60; n++ {
		for d := -60; d <= 60; d++ {
			if d != 0 {
				got, ok := impl.RatOf(n, d)
				checkRat(t, "RatOf", got, ok, big.NewRat(int64(n), int64(d)))
			}
		}
	}
}

// TestRatEdges names results that are wrong if a value is checked, reduced or refused at the wrong moment; "" stands for a refusal.
func TestRatEdges(t *testing.T) {
	for _, c := range []struct{ a, b, sum, mul, mid string }{
		{"1/2", "1", "3/2", "1/2", "3/4"},
		{"0", "0", "0", "0", "0"},
		{"-5/7", "5/7", "0", "-25/49", "0"},
		{"0", "-1000000000", "-1000000000", "0", "-500000000"},
		{"1/6", "1/10", "4/15", "1/60", "2/15"},
		{"1000000000", "-1000000000", "0", "", "0"},
		{"1000000000", "1", "", "1000000000", ""},
		{"-1000000000", "-1", "", "1000000000", ""},
		{"999999999", "1", "1000000000", "999999999", "500000000"},
		{"-999999999", "-1", "-1000000000", "999999999", "-500000000"},
		{"1000000000", "1000000000", "", "", ""},
		{"1/1000000000", "1/1000000000", "1/500000000", "", "1/1000000000"},
		{"1/1000000000", "-1/1000000000", "0", "", "0"},
		{"1/1000000000", "0", "1/1000000000", "0", ""},
		{"1/1000000000", "1/500000000", "3/1000000000", "", ""},
		{"1/1000000000", "1/999999999", "", "", ""},
		{"999999999/1000000000", "1/1000000000", "1", "", "1/2"},
		{"1000000000/999999999", "999999999/1000000000", "", "1", ""},
		{"1000000000/7", "-7/1000000000", "", "-1", ""},
		{"1000000000/3", "3/2", "", "500000000", ""},
		{"999999998/999999999", "1/999999999", "1", "", "1/2"},
		{"31623", "31623", "63246", "", "31623"},
		{"31622", "31622", "63244", "999950884", "31622"},
		{"1000000000", "1/2", "", "500000000", ""},
		{"500000000", "2", "500000002", "1000000000", "250000001"},
		{"-500000000", "2", "-499999998", "-1000000000", "-249999999"},
		{"500000001", "2", "500000003", "", "500000003/2"},
		{"1/500000000", "1/2", "250000001/500000000", "1/1000000000", "250000001/1000000000"},
		{"1/500000001", "1/2", "500000003/1000000002", "", ""},
	} {
		a, b := readRat(t, c.a), readRat(t, c.b)
		checkEdge(t, "RatAdd", impl.RatAdd, a, b, c.sum)
		checkEdge(t, "RatMul", impl.RatMul, a, b, c.mul)
		checkEdge(t, "RatMid", impl.RatMid, a, b, c.mid)
	}
}

func readRat(t *testing.T, text string) impl.Rat {
	t.Helper()
	a, ok := impl.RatRead(text)
	if !ok {
		t.Fatalf("RatRead(%q) refuses", text)
	}
	return a
}

// checkEdge checks op of a and b, in both orders. A text that is out of range is a refusal as well.
func checkEdge(t *testing.T, name string, op ratOp, a impl.Rat, b impl.Rat, text string) {
	t.Helper()
	var want *big.Rat
	if text != "" {
		want, _ = new(big.Rat).SetString(text)
	}
	for _, p := range [][2]impl.Rat{{a, b}, {b, a}} {
		got, ok := op(p[0], p[1])
		checkRat(t, name+" of "+bigOf(p[0]).RatString()+" and "+bigOf(p[1]).RatString(), got, ok, want)
	}
}

func TestRatArithmeticIsExact(t *testing.T) {
	list := sampleRats()
	for _, a := range list {
		for _, b := range list {
			x, y := bigOf(a), bigOf(b)
			what := " of " + x.RatString() + " and " + y.RatString()
			sum, ok := impl.RatAdd(a, b)
			checkRat(t, "RatAdd"+what, sum, ok, bigAdd(x, y))
			mul, ok := impl.RatMul(a, b)
			checkRat(t, "RatMul"+what, mul, ok, bigMul(x, y))
			mid, ok := impl.RatMid(a, b)
			checkRat(t, "RatMid"+what, mid, ok, bigMid(x, y))
			if got, want := impl.RatLess(a, b), x.Cmp(y) < 0; got != want {
				t.Errorf("RatLess%s = %v", what, got)
			}
		}
	}
}

// bigMid is nil where the sum is not representable: RatMid refuses that even if half of it would be.
func bigMid(a *big.Rat, b *big.Rat) *big.Rat {
	sum := bigAdd(a, b)
	if !representable(sum) {
		return nil
	}
	return bigHalf(sum)
}

func TestRatSmallArithmeticIsExact(t *testing.T) {
	for n := -12; n <= 12; n++ {
		for d := 1; d <= 12; d++ {
			a, _ := impl.RatOf(n, d)
			for _, b := range []impl.Rat{{N: 0, D: 1}, {N: 1, D: 1}, {N: -1, D: 1}, {N: 5, D: 6}, {N: -7, D: 12}, {N: 3, D: 4}, {N: 9, D: 2}} {
				for _, c := range []struct {
					op   ratOp
					want bigOp
				}{{impl.RatAdd, bigAdd}, {impl.RatMul, bigMul}, {impl.RatMid, bigMid}} {
					got, ok := c.op(a, b)
					checkRat(t, bigOf(a).RatString()+" with "+bigOf(b).RatString(), got, ok, c.want(bigOf(a), bigOf(b)))
				}
			}
		}
	}
}

func TestRatRefusesInvalid(t *testing.T) {
	valid := []impl.Rat{{N: 0, D: 1}, {N: 1, D: 2}, {N: -3, D: 1}, {N: ratLimit, D: 1}, {N: -ratLimit, D: 1}, {N: 1, D: ratLimit}}
	for _, bad := range invalidRats() {
		for _, other := range append(valid, invalidRats()...) {
			for _, p := range [][2]impl.Rat{{bad, other}, {other, bad}} {
				for name, op := range map[string]ratOp{"RatAdd": impl.RatAdd, "RatMul": impl.RatMul, "RatMid": impl.RatMid} {
					if got, ok := op(p[0], p[1]); ok || got != (impl.Rat{}) {
						t.Errorf("%s(%v, %v) = %v, %v; want the zero value and false", name, p[0], p[1], got, ok)
					}
				}
				if impl.RatLess(p[0], p[1]) {
					t.Errorf("RatLess(%v, %v)", p[0], p[1])
				}
			}
		}
		if text := impl.RatText(bad); text != "" {
			t.Errorf("RatText(%v) = %q", bad, text)
		}
	}
}

func TestRatLess(t *testing.T) {
	ascending := []string{
		"-1000000000", "-999999999", "-1000000000/999999999", "-1", "-999999999/1000000000", "-999999998/999999999", "-1/2", "-1/999999999", "-1/1000000000",
		"0", "1/1000000000", "1/999999999", "1/3", "1/2", "999999998/999999999", "999999999/1000000000", "1", "1000000000/999999999", "999999999/999999998", "999999999", "1000000000",
	}
	for i, a := range ascending {
		for j, b := range ascending {
			if impl.RatLess(readRat(t, a), readRat(t, b)) != (i < j) {
				t.Errorf("RatLess(%s, %s) is not %v", a, b, i < j)
			}
		}
	}
}

func TestRatText(t *testing.T) {
	for text, a := range map[string]impl.Rat{
		"0": {N: 0, D: 1}, "1": {N: 1, D: 1}, "-1": {N: -1, D: 1}, "-3/2": {N: -3, D: 2}, "10/3": {N: 10, D: 3}, "1/10": {N: 1, D: 10},
		"1000000000": {N: ratLimit, D: 1}, "-1000000000": {N: -ratLimit, D: 1}, "1/1000000000": {N: 1, D: ratLimit}, "-999999999/1000000000": {N: -999999999, D: ratLimit},
	} {
		if got := impl.RatText(a); got != text {
			t.Errorf("RatText(%v) = %q; want %q", a, got, text)
		}
	}
	for _, a := range sampleRats() {
		text := impl.RatText(a)
		if text != bigOf(a).RatString() {
			t.Errorf("RatText(%v) = %q", a, text)
		}
		if back, ok := impl.RatRead(text); !ok || back != a {
			t.Errorf("RatRead(%q) = %v, %v", text, back, ok)
		}
	}
}

func TestRatReadRefuses(t *testing.T) {
	for _, text := range []string{
		"", " ", "-", "+", "/", "-/", "1/", "/1", "/2", "-/2", "1/-", "--1", "1-", "a", "x/2", "1/x", "0x1", "1e3", "1.5", "1_0", "1,0", "½", "١",
		"+1", "+1/2", "1/+2", " 1", "1 ", "1 /2", "1/ 2", " 1/2", "1/2 ", "- 1", "1\n", "1/2\n", "\t1", "1\x00", "\xff", "1/2\x00",
		"00", "01", "-01", "001/2", "1/02", "-1/02", "0/01", "01/2", "-0", "-0/1", "-0/2", "0/1", "0/2", "0/1000000000",
		"1/1", "-1/1", "5/1", "1/0", "0/0", "-1/0", "1/00", "1/-2", "-1/-2", "1/-1", "0/-1",
		"2/4", "-2/4", "2/2", "6/3", "10/15", "1000000000/2", "1000000000/1000000000", "999999998/499999999",
		"1/2/3", "1//2", "1/2/", "/1/2", "1/1/1", "1/2/1", "1/2 1/2",
		"1000000001", "-1000000001", "1/1000000001", "-1/1000000001", "1000000001/2", "2000000000", "1/2000000000", "9223372036854775807", "-9223372036854775808",
		"4294967297", "1/4294967298", "18446744073709551617", "1/18446744073709551618", "-18446744073709551615", "99999999999999999999999999",
		strings.Repeat("0", 100000), strings.Repeat("9", 100000), "1" + strings.Repeat("/2", 50000), "0" + strings.Repeat("0", 30) + "1",
	} {
		if got, ok := impl.RatRead(text); ok || got != (impl.Rat{}) {
			t.Errorf("RatRead(%.40q) = %v, %v; want the zero value and false", text, got, ok)
		}
	}
}

// TestRatReadTakesJustTheTexts tries every short text over the bytes that texts are made of, and some more.
func TestRatReadTakesJustTheTexts(t *testing.T) {
	const bytes = "-/01269+ _"
	texts := []string{""}
	for from, size := 0, 0; size < 5; size++ {
		to := len(texts)
		for _, text := range texts[from:to] {
			for i := range bytes {
				texts = append(texts, text+bytes[i:i+1])
			}
		}
		from = to
	}
	for _, text := range texts {
		want, isNumber := new(big.Rat).SetString(text)
		if !isNumber || want.RatString() != text {
			want = nil
		}
		got, ok := impl.RatRead(text)
		checkRat(t, "RatRead of "+text, got, ok, want)
	}
}
