package tests

import (
	"math"
	"math/big"
	"regexp"
	"strconv"
	"strings"
	"testing"

	"loop.example/compurgator/impl"
)

// These repeat the document's numbers, so that wrong constants of impl fail too.
const (
	linVars   = 4
	coefLimit = 1000000
)

func TestLinLimits(t *testing.T) {
	if impl.VarMost != linVars || impl.CoefMost != coefLimit {
		t.Error(impl.VarMost, impl.CoefMost)
	}
}

// readLin reads a constraint that the test itself needs, and checks that it has that text.
func readLin(t *testing.T, text string) impl.Lin {
	t.Helper()
	l, ok := impl.LinRead(text)
	if !ok || impl.LinText(l) != text {
		t.Fatalf("LinRead(%q) = %v, %v", text, l, ok)
	}
	return l
}

// equalLin compares field by field, without the function under test.
func equalLin(a impl.Lin, b impl.Lin) bool {
	if len(a.Coefs) != len(b.Coefs) || a.Bound != b.Bound || a.Strict != b.Strict {
		return false
	}
	for i := range a.Coefs {
		if a.Coefs[i] != b.Coefs[i] {
			return false
		}
	}
	return true
}

func isZeroLin(l impl.Lin) bool { return equalLin(l, impl.Lin{}) }

// sampleLins are valid constraints, each of them strict and not, with small numbers and with ones at the limits.
func sampleLins() []impl.Lin {
	rows := [][5]int{
		{0, 0, 0, 0, 0}, {0, 0, 0, 0, 1}, {0, 0, 0, 0, -1}, {0, 0, 0, 0, coefLimit}, {0, 0, 0, 0, -coefLimit},
		{1, 0, 0, 0, 0}, {0, 1, 0, 0, 2}, {0, 0, 1, 0, -2}, {0, 0, 0, 1, 3}, {-1, 0, 0, 0, -1}, {0, 0, 0, -1, 0},
		{1, -2, 0, 0, 3}, {-1, 2, 0, 0, -3}, {2, -1, 3, -4, 5}, {-2, 1, -3, 4, -5}, {3, 3, 3, 3, 7}, {10, 20, -30, 40, 100},
		{coefLimit, 0, 0, 0, 0}, {-coefLimit, 0, 0, 0, 1}, {0, coefLimit, 0, 0, coefLimit}, {0, 0, 0, -coefLimit, -coefLimit},
		{coefLimit, coefLimit, coefLimit, coefLimit, coefLimit}, {-coefLimit, -coefLimit, -coefLimit, -coefLimit, -coefLimit},
		{999999, -999999, 1, -1, 999999}, {500000, -500000, 500001, -500001, 250000}, {1000, -1000, 1001, 999, -1000},
	}
	var list []impl.Lin
	for _, row := range rows {
		for _, strict := range []bool{false, true} {
			coefs := append([]int(nil), row[:linVars]...)
			list = append(list, impl.Lin{Coefs: coefs, Bound: row[linVars], Strict: strict})
		}
	}
	return list
}

// invalidLins each break one condition of a valid constraint, or more.
func invalidLins() []impl.Lin {
	list := []impl.Lin{
		{}, {Coefs: []int{}}, {Strict: true}, {Bound: -1}, {Bound: 5, Strict: true},
		{Coefs: []int{0}}, {Coefs: []int{1, 2, 3}}, {Coefs: []int{0, 0, 0}, Bound: -1}, {Coefs: []int{1, 2, 3, 4, 5}},
		{Coefs: []int{0, 0, 0, 0, 0}, Bound: -1}, {Coefs: make([]int, 100), Strict: true}, {Coefs: make([]int, 0, linVars)},
	}
	past := []int{coefLimit + 1, -coefLimit - 1, 2 * coefLimit, math.MaxInt32, math.MinInt32, math.MaxInt, math.MinInt}
	for _, n := range past {
		list = append(list, impl.Lin{Coefs: make([]int, linVars), Bound: n}, impl.Lin{Coefs: []int{1, 2, 3, 4}, Bound: n, Strict: true})
		for at := range linVars {
			coefs := make([]int, linVars)
			coefs[at] = n
			list = append(list, impl.Lin{Coefs: coefs, Bound: at})
		}
	}
	return list
}

// sampleAssignments are assignments of small numbers, fractions and numbers at the limits.
func sampleAssignments(t *testing.T) [][]impl.Rat {
	t.Helper()
	texts := []string{
		"0 0 0 0", "1 0 0 0", "0 1 0 0", "0 0 1 0", "0 0 0 1", "-1 -1 -1 -1", "1 1 1 1", "1 -1 0 0", "3 0 0 0", "-2 0 1 3",
		"1/2 1/3 -1/4 5/6", "-7/2 1/7 22/7 -1/3", "5 1 0 2/3", "100 -100 50 -50", "999 1001 -998 7",
		"1/1000000 -1/1000000 1 -1", "1/999983 0 1/999979 0", "1000 0 0 0", "0 0 0 -1000", "1000000000 0 0 0", "0 -1000000000 0 1/1000000000", "1000000000 1 -1 0",
	}
	var list [][]impl.Rat
	for _, text := range texts {
		list = append(list, readVals(t, text))
	}
	return list
}

func readVals(t *testing.T, text string) []impl.Rat {
	t.Helper()
	var vals []impl.Rat
	for _, word := range strings.Fields(text) {
		vals = append(vals, readRat(t, word))
	}
	return vals
}

func TestLinOk(t *testing.T) {
	for _, l := range sampleLins() {
		if !impl.LinOk(l) {
			t.Errorf("%v is valid", l)
		}
	}
	for _, l := range invalidLins() {
		if impl.LinOk(l) {
			t.Errorf("%v is not valid", l)
		}
	}
}

// exactAt evaluates l with big numbers. The second result is false if the sum is not representable, also on the way.
func exactAt(l impl.Lin, vals []impl.Rat) (bool, bool) {
	sum := new(big.Rat)
	for i, coef := range l.Coefs {
		product := new(big.Rat).Mul(big.NewRat(int64(coef), 1), bigOf(vals[i]))
		sum.Add(sum, product)
		if !representable(product) || !representable(sum) {
			return false, false
		}
	}
	order := sum.Cmp(big.NewRat(int64(l.Bound), 1))
	return order < 0 || order == 0 && !l.Strict, true
}

func TestLinAtIsExact(t *testing.T) {
	held, broken, refused := 0, 0, 0
	for _, l := range sampleLins() {
		for _, vals := range sampleAssignments(t) {
			holds, ok := impl.LinAt(l, vals)
			wantHolds, wantOk := exactAt(l, vals)
			if holds != wantHolds || ok != wantOk {
				t.Errorf("LinAt(%v, %v) = %v, %v; want %v, %v", l, vals, holds, ok, wantHolds, wantOk)
			}
			switch {
			case !ok:
				refused++
			case holds:
				held++
			default:
				broken++
			}
		}
	}
	if held == 0 || broken == 0 || refused == 0 {
		t.Errorf("the samples miss a case: %d hold, %d do not, %d are refused", held, broken, refused)
	}
}

// TestLinAtEdges names the cases that are wrong if a bound, an order or a limit is.
func TestLinAtEdges(t *testing.T) {
	for _, c := range []struct {
		text, vals string
		holds, ok  bool
	}{
		{"1 -2 0 0 <= 3", "3 0 0 0", true, true},
		{"1 -2 0 0 < 3", "3 0 0 0", false, true},
		{"1 -2 0 0 <= 3", "7/2 0 0 0", false, true},
		{"1 -2 0 0 < 3", "7/2 1 0 0", true, true},
		{"1 -2 0 0 <= 3", "7/2 1/4 5 -5", true, true},
		{"1 -2 0 0 < 3", "7/2 1/4 5 -5", false, true},
		{"0 0 0 2 <= -1", "9 9 9 -1/2", true, true},
		{"0 0 0 2 < -1", "9 9 9 -1/2", false, true},
		{"0 0 0 2 < -1", "9 9 9 -500000001/1000000000", true, true},
		{"3 0 0 0 < 1", "333333333/1000000000 0 0 0", true, true},
		{"0 0 0 0 <= 0", "1000000000 1/3 1/1000000000 -1000000000", true, true},
		{"0 0 0 0 < 0", "1000000000 1/3 1/1000000000 -1000000000", false, true},
		{"0 0 0 0 <= -1", "0 0 0 0", false, true},
		{"0 0 0 0 < 1", "0 0 0 0", true, true},
		{"1000000 0 0 0 <= 1000000", "1 0 0 0", true, true},
		{"1000000 0 0 0 < 1000000", "1 0 0 0", false, true},
		{"-1000000 0 0 0 <= -1000000", "1 0 0 0", true, true},
		{"1000000 0 0 0 <= 0", "1000 0 0 0", false, true},
		{"-1000000 0 0 0 <= 0", "1000 0 0 0", true, true},
		// A product that is too great.
		{"-1000000 0 0 0 <= 0", "1001 0 0 0", false, false},
		{"2 0 0 0 <= 0", "-1000000000 0 0 0", false, false},
		{"-2 0 0 0 <= 0", "500000001 0 0 0", false, false},
		{"-2 0 0 0 <= 0", "500000000 0 0 0", true, true},
		{"0 0 0 2 <= 0", "0 0 0 -1000000000", false, false},
		// A sum that is too great, in the end or only on the way.
		{"-1 -1 0 0 <= 0", "1000000000 1 0 0", false, false},
		{"-1 -1 1 0 <= 0", "1000000000 1 1 0", false, false},
		{"-1 1 -1 0 <= 0", "1000000000 1 1 0", true, true},
		{"0 -1 -1 1 <= 0", "0 1000000000 1 1000000000", false, false},
		{"0 -1 1 -1 <= 0", "0 1000000000 1000000000 1", true, true},
		// A sum with too great a denominator, in the end or only on the way.
		{"1 1 0 0 <= 1", "1/31627 1/31643 0 0", false, false},
		{"1 1 -1 0 <= 1", "1/31627 1/31643 1/31643 0", false, false},
		{"1 0 1 -1 <= 1", "1/31627 9 1/31643 1/31643", false, false},
		{"0 1 -1 1 <= 1", "9 1/31643 1/31643 1/31627", true, true},
		{"1 1 0 0 < 1", "1/1000000000 999999999/1000000000 0 0", false, true},
	} {
		holds, ok := impl.LinAt(readLin(t, c.text), readVals(t, c.vals))
		if holds != c.holds || ok != c.ok {
			t.Errorf("%s at %s: %v, %v; want %v, %v", c.text, c.vals, holds, ok, c.holds, c.ok)
		}
	}
}

func TestLinAtRefuses(t *testing.T) {
	vals := readVals(t, "0 0 0 0")
	for _, l := range invalidLins() {
		for _, v := range [][]impl.Rat{vals, nil, make([]impl.Rat, len(l.Coefs))} {
			if holds, ok := impl.LinAt(l, v); holds || ok {
				t.Errorf("LinAt(%v, %v) = %v, %v", l, v, holds, ok)
			}
		}
	}
	wrong := [][]impl.Rat{nil, {}, vals[:1], vals[:3], append(readVals(t, "0 0 0 0"), vals[0]), make([]impl.Rat, linVars)}
	for _, bad := range invalidRats() {
		for at := range linVars {
			v := readVals(t, "0 0 0 0")
			v[at] = bad
			wrong = append(wrong, v)
		}
	}
	// The coefficients of 0 must not hide a value that is not valid.
	for _, text := range []string{"0 0 0 0 <= 0", "0 0 0 0 < 5", "1 2 3 4 <= 1000000", "-1 0 0 0 <= 1000000"} {
		for _, v := range wrong {
			if holds, ok := impl.LinAt(readLin(t, text), v); holds || ok {
				t.Errorf("LinAt(%s, %v) = %v, %v", text, v, holds, ok)
			}
		}
	}
}

func TestLinNot(t *testing.T) {
	for text, want := range map[string]string{
		"1 -2 0 0 <= 3":            "-1 2 0 0 < -3",
		"-1 2 0 0 < -3":            "1 -2 0 0 <= 3",
		"0 0 0 0 <= 0":             "0 0 0 0 < 0",
		"0 0 0 0 < 0":              "0 0 0 0 <= 0",
		"0 0 0 0 < -1":             "0 0 0 0 <= 1",
		"1000000 0 0 0 <= 1000000": "-1000000 0 0 0 < -1000000",
		"0 0 -1000000 5 < 1000000": "0 0 1000000 -5 <= -1000000",
	} {
		if got := impl.LinText(impl.LinNot(readLin(t, text))); got != want {
			t.Errorf("LinNot of %s = %q; want %s", text, got, want)
		}
	}
	for _, l := range invalidLins() {
		if got := impl.LinNot(l); !isZeroLin(got) {
			t.Errorf("LinNot(%v) = %v; want the zero value", l, got)
		}
	}
}

func TestLinNotHoldsWhereItDoesNot(t *testing.T) {
	for _, l := range sampleLins() {
		negated := impl.LinNot(l)
		if back := impl.LinNot(negated); !equalLin(back, l) {
			t.Errorf("LinNot twice of %v is %v", l, back)
		}
		for _, vals := range sampleAssignments(t) {
			holds, ok := impl.LinAt(l, vals)
			notHolds, notOk := impl.LinAt(negated, vals)
			if ok != notOk || ok && holds == notHolds {
				t.Errorf("%v at %v: %v, %v, and negated: %v, %v", l, vals, holds, ok, notHolds, notOk)
			}
		}
	}
}

// exactSum is m*a + n*b with big numbers; false if that is out of range.
func exactSum(a impl.Lin, m int, b impl.Lin, n int) (impl.Lin, bool) {
	ok := true
	combine := func(x int, y int) int {
		first := new(big.Int).Mul(big.NewInt(int64(m)), big.NewInt(int64(x)))
		second := new(big.Int).Mul(big.NewInt(int64(n)), big.NewInt(int64(y)))
		sum := first.Add(first, second)
		ok = ok && sum.CmpAbs(big.NewInt(coefLimit)) <= 0
		return int(sum.Int64())
	}
	want := impl.Lin{Bound: combine(a.Bound, b.Bound)}
	for i := range linVars {
		want.Coefs = append(want.Coefs, combine(a.Coefs[i], b.Coefs[i]))
	}
	if m != 0 {
		want.Strict = a.Strict
	}
	if n != 0 {
		want.Strict = want.Strict || b.Strict
	}
	if !ok {
		return impl.Lin{}, false
	}
	return want, true
}

// sampleMultipliers are small multipliers, ones at the limit, and some between.
func sampleMultipliers() []int {
	return []int{0, 1, 2, 3, 7, 999, 1000, 1001, 500000, 999999, coefLimit}
}

func TestLinSumIsExact(t *testing.T) {
	list := sampleLins()
	taken, refused := 0, 0
	for _, a := range list {
		for _, b := range list {
			for _, m := range sampleMultipliers() {
				for _, n := range sampleMultipliers() {
					got, ok := impl.LinSum(a, m, b, n)
					want, wantOk := exactSum(a, m, b, n)
					if ok != wantOk || !equalLin(got, want) {
						t.Fatalf("LinSum(%v, %d, %v, %d) = %v, %v; want %v, %v", a, m, b, n, got, ok, want, wantOk)
					}
					if ok {
						taken++
					} else {
						refused++
					}
				}
			}
		}
	}
	if taken == 0 || refused == 0 {
		t.Errorf("the samples miss a case: %d combinations, %d refused", taken, refused)
	}
}

// TestLinSumEdges names the cases that the document draws the line between; "" stands for a refusal.
func TestLinSumEdges(t *testing.T) {
	for _, c := range []struct {
		a    string
		m    int
		b    string
		n    int
		want string
	}{
		{"2 -1 0 0 <= 3", 1, "-1 1 0 0 < 0", 2, "0 1 0 0 < 3"},
		{"1 0 0 0 <= 1", 1, "-1 0 0 0 <= -2", 1, "0 0 0 0 <= -1"},
		{"1 2 3 4 <= 5", 3, "-4 3 -2 1 <= -5", 2, "-5 12 5 14 <= 5"},
		// A strict constraint counts only if it is taken.
		{"1 0 0 0 < 1", 0, "0 1 0 0 <= 2", 1, "0 1 0 0 <= 2"},
		{"1 0 0 0 <= 1", 1, "0 1 0 0 < 2", 0, "1 0 0 0 <= 1"},
		{"1 0 0 0 < 1", 0, "0 1 0 0 < 2", 0, "0 0 0 0 <= 0"},
		{"1 0 0 0 < 1", 0, "0 1 0 0 < 2", 1, "0 1 0 0 < 2"},
		{"1 0 0 0 < 1", 1, "0 1 0 0 < 2", 0, "1 0 0 0 < 1"},
		{"1 0 0 0 < 1", 1, "0 1 0 0 <= 2", 1, "1 1 0 0 < 3"},
		{"1 0 0 0 <= 1", 1, "0 1 0 0 < 2", 1, "1 1 0 0 < 3"},
		{"1 0 0 0 <= 1", 1, "0 1 0 0 <= 2", 1, "1 1 0 0 <= 3"},
		{"0 0 0 0 < 0", 0, "0 0 0 0 <= 0", 1000000, "0 0 0 0 <= 0"},
		{"0 0 0 0 < 0", 1000000, "0 0 0 0 <= 0", 0, "0 0 0 0 < 0"},
		{"5 5 5 5 < -5", 0, "7 7 7 7 < 7", 0, "0 0 0 0 <= 0"},
		// The limits of the result, and one past them.
		{"1 0 0 0 <= 0", 1000000, "0 1 0 0 <= 0", 1000000, "1000000 1000000 0 0 <= 0"},
		{"999999 0 0 0 <= 0", 1, "1 0 0 0 <= 0", 1, "1000000 0 0 0 <= 0"},
		{"1000000 0 0 0 <= 0", 1, "1 0 0 0 <= 0", 1, ""},
		{"1000000 0 0 0 <= 0", 1, "1 0 0 0 <= 0", 0, "1000000 0 0 0 <= 0"},
		{"0 0 0 -999999 <= 0", 1, "0 0 0 -1 <= 0", 1, "0 0 0 -1000000 <= 0"},
		{"0 0 0 -1000000 <= 0", 1, "0 0 0 -1 <= 0", 1, ""},
		{"0 0 0 0 <= 999999", 1, "0 0 0 0 <= 1", 1, "0 0 0 0 <= 1000000"},
		{"0 0 0 0 <= 1000000", 1, "0 0 0 0 <= 1", 1, ""},
		{"0 0 0 0 <= -999999", 1, "0 0 0 0 <= -1", 1, "0 0 0 0 <= -1000000"},
		{"0 0 0 0 < -1000000", 1, "0 0 0 0 <= -1", 1, ""},
		{"0 1001 0 0 <= 0", 1000, "0 0 0 0 <= 0", 1, ""},
		{"0 1000 0 0 <= 0", 1000, "0 0 0 0 <= 0", 1, "0 1000000 0 0 <= 0"},
		// Only the result has to be in range: the products may leave it on the way.
		{"1000000 0 0 0 <= 1", 2, "-1000000 0 0 0 <= 1", 1, "1000000 0 0 0 <= 3"},
		{"1000000 0 0 0 <= 1000000", 1000000, "-1000000 0 0 0 < -1000000", 1000000, "0 0 0 0 < 0"},
		{"1000000 -1000000 1 0 <= 0", 1000000, "-999999 999999 0 1 <= 0", 1000000, "1000000 -1000000 1000000 1000000 <= 0"},
		{"1000000 0 0 0 <= 0", 1000000, "-999999 0 0 0 <= 0", 999999, ""},
		{"1000000 1000000 1000000 1000000 <= 1000000", 1000000, "1000000 1000000 1000000 1000000 < 1000000", 1000000, ""},
	} {
		a, b := readLin(t, c.a), readLin(t, c.b)
		checkSum(t, a, c.m, b, c.n, c.want)
		checkSum(t, b, c.n, a, c.m, c.want)
	}
}

func checkSum(t *testing.T, a impl.Lin, m int, b impl.Lin, n int, want string) {
	t.Helper()
	got, ok := impl.LinSum(a, m, b, n)
	if ok != (want != "") || impl.LinText(got) != want || !ok && !isZeroLin(got) {
		t.Errorf("LinSum(%v, %d, %v, %d) = %v, %v; want %q", a, m, b, n, got, ok, want)
	}
}

func TestLinSumRefuses(t *testing.T) {
	good := []impl.Lin{readLin(t, "1 2 3 4 <= 5"), readLin(t, "0 0 0 0 < 0")}
	for _, bad := range invalidLins() {
		for _, other := range append(good, bad) {
			for _, m := range []int{0, 1, 2, coefLimit} {
				checkSum(t, bad, m, other, 1, "")
				checkSum(t, other, 1, bad, m, "")
				checkSum(t, other, 0, bad, m, "")
			}
		}
	}
	for _, m := range []int{-1, -2, -coefLimit, coefLimit + 1, 2 * coefLimit, math.MaxInt32, math.MinInt32, math.MaxInt, math.MinInt} {
		// Zeros, for which each product would be in range.
		for _, l := range append(good, readLin(t, "0 0 0 0 <= 0")) {
			for _, n := range []int{0, 1, m, coefLimit} {
				checkSum(t, l, m, good[1], n, "")
				checkSum(t, good[1], n, l, m, "")
			}
		}
	}
}

// TestLinSumHoldsWhereBothHold is promise 2.
func TestLinSumHoldsWhereBothHold(t *testing.T) {
	assignments := sampleAssignments(t)
	checked, strict := 0, 0
	for _, a := range sampleLins() {
		for _, b := range sampleLins() {
			for _, vals := range assignments {
				aHolds, _ := impl.LinAt(a, vals)
				bHolds, _ := impl.LinAt(b, vals)
				if !aHolds || !bHolds {
					continue
				}
				for _, m := range []int{0, 1, 2, 5, coefLimit} {
					for _, n := range []int{0, 1, 3, coefLimit} {
						sum, ok := impl.LinSum(a, m, b, n)
						if !ok {
							continue
						}
						holds, atOk := impl.LinAt(sum, vals)
						if atOk && !holds {
							t.Fatalf("%v and %v hold at %v, and %d and %d times them, %v, does not", a, b, vals, m, n, sum)
						}
						if atOk {
							checked++
						}
						if atOk && sum.Strict {
							strict++
						}
					}
				}
			}
		}
	}
	if checked < 1000 || strict < 100 {
		t.Errorf("only %d combinations checked, %d of them strict", checked, strict)
	}
}

func TestLinBadAndLinFree(t *testing.T) {
	for _, c := range []struct {
		text      string
		bad, free bool
	}{
		{"0 0 0 0 <= 0", false, true}, {"0 0 0 0 < 0", true, false},
		{"0 0 0 0 <= 1", false, true}, {"0 0 0 0 < 1", false, true},
		{"0 0 0 0 <= -1", true, false}, {"0 0 0 0 < -1", true, false},
		{"0 0 0 0 <= 1000000", false, true}, {"0 0 0 0 < 1000000", false, true},
		{"0 0 0 0 <= -1000000", true, false}, {"0 0 0 0 < -1000000", true, false},
		{"1 0 0 0 <= -1", false, false}, {"0 1 0 0 < 0", false, false}, {"0 0 1 0 <= 5", false, false}, {"0 0 0 1 <= 0", false, false},
		{"-1 0 0 0 <= -1", false, false}, {"0 0 0 -1 < -1000000", false, false}, {"1 -1 0 0 < 0", false, false}, {"1 -1 1 -1 <= 0", false, false},
	} {
		l := readLin(t, c.text)
		if impl.LinBad(l) != c.bad || impl.LinFree(l) != c.free {
			t.Errorf("%s: LinBad %v, LinFree %v; want %v, %v", c.text, impl.LinBad(l), impl.LinFree(l), c.bad, c.free)
		}
		for _, vals := range sampleAssignments(t) {
			holds, ok := impl.LinAt(l, vals)
			if c.bad && (holds || !ok) || c.free && (!holds || !ok) {
				t.Errorf("%s at %v: %v, %v", c.text, vals, holds, ok)
			}
		}
	}
	for _, l := range invalidLins() {
		if impl.LinBad(l) || impl.LinFree(l) {
			t.Errorf("%v is not valid, so neither contradictory nor trivially true", l)
		}
	}
}

func TestLinText(t *testing.T) {
	for text, l := range map[string]impl.Lin{
		"1 -2 0 0 <= 3":               {Coefs: []int{1, -2, 0, 0}, Bound: 3},
		"-1 2 0 0 < -3":               {Coefs: []int{-1, 2, 0, 0}, Bound: -3, Strict: true},
		"0 0 0 0 <= 0":                {Coefs: []int{0, 0, 0, 0}},
		"0 0 0 0 < 0":                 {Coefs: []int{0, 0, 0, 0}, Strict: true},
		"10 200 -3000 40000 < 500000": {Coefs: []int{10, 200, -3000, 40000}, Bound: 500000, Strict: true},
		"1000000 -1000000 1000000 -1000000 <= 1000000": {Coefs: []int{coefLimit, -coefLimit, coefLimit, -coefLimit}, Bound: coefLimit},
		"0 0 0 1 < -1000000":                           {Coefs: []int{0, 0, 0, 1}, Bound: -coefLimit, Strict: true},
	} {
		if got := impl.LinText(l); got != text {
			t.Errorf("LinText(%v) = %q; want %q", l, got, text)
		}
		if back, ok := impl.LinRead(text); !ok || !equalLin(back, l) {
			t.Errorf("LinRead(%q) = %v, %v; want %v", text, back, ok, l)
		}
	}
	for _, l := range sampleLins() {
		if back, ok := impl.LinRead(impl.LinText(l)); !ok || !equalLin(back, l) {
			t.Errorf("%v is read back as %v, %v", l, back, ok)
		}
	}
	for _, l := range invalidLins() {
		if text := impl.LinText(l); text != "" {
			t.Errorf("LinText(%v) = %q; want the empty text", l, text)
		}
	}
}

func TestLinReadRefuses(t *testing.T) {
	for _, text := range []string{
		"", " ", "     ", "<", "<=", "0", "1 0 0 0", "1 0 0 0 ", "1 0 0 0 <", "1 0 0 0 <=", "1 0 0 0 < ", "1 0 0 0 <= ", "< 1", "<= 1",
		// More or fewer numbers.
		"1 0 0 <= 2", "1 <= 2", "1 0 0 0 0 <= 2", "1 0 0 0 <= 2 3", "1 0 0 0 <= 2 <= 3", "1 0 0 0 2", "1 0 0 0 <= <= 2", "1 0 0 0 < = 2",
		// Other signs.
		"1 0 0 0 = 2", "1 0 0 0 > 2", "1 0 0 0 >= 2", "1 0 0 0 == 2", "1 0 0 0 =< 2", "1 0 0 0 << 2", "1 0 0 0 <== 2", "1 0 0 0 \u2264 2", "1 0 0 0  2", "1 0 0 0 x 2",
		// A space too many or too few.
		" 1 0 0 0 < 2", "1 0 0 0 < 2 ", "1  0 0 0 < 2", "1 0 0 0  < 2", "1 0 0 0 <  2", "1 0 0 0< 2", "1 0 0 0 <2", "1 0 0 0 <=2", "1 0 00 < 2", "1 0 0-1 < 2",
		"1\t0 0 0 < 2", "1 0 0 0 <\t2", "1 0 0 0 < 2\n", "\n1 0 0 0 < 2", "1\n0 0 0 < 2", "1 0 0 0\u00a0< 2", "1,0,0,0 < 2",
		// Numbers that are no decimal ones as they are written.
		"01 0 0 0 < 2", "1 00 0 0 < 2", "1 0 0 -01 < 2", "1 0 0 0 < 02", "1 0 0 0 < -02", "1 0 0 0 < 00", "+1 0 0 0 < 2", "1 0 0 +1 < 2", "1 0 0 0 < +2", "1 0 0 +0 < 2",
		"-0 0 0 0 < 2", "1 0 0 -0 < 2", "1 0 0 0 < -0", "1 0 0 0 < -", "- 0 0 0 < 2", "1 0 0 0 < --2", "1 0 0 0 < - 2", "1 0 0 0 < 2-", "1 - 2 0 0 < 2",
		"a 0 0 0 < 2", "1 0 0 0 < x", "1 0 0 0 < 1/2", "1/2 0 0 0 < 1", "1.0 0 0 0 < 2", "1e1 0 0 0 < 2", "0x1 0 0 0 < 2", "1_0 0 0 0 < 2", "1 0 0 0 < 2\x00", "\xff 0 0 0 < 2", "\u0661 0 0 0 < 2",
		// Numbers out of range.
		"1000001 0 0 0 < 2", "-1000001 0 0 0 < 2", "0 0 0 1000001 < 2", "0 0 -1000001 0 <= 2", "1 0 0 0 < 1000001", "1 0 0 0 <= -1000001", "10000000 0 0 0 < 2", "1 0 0 0 < 9223372036854775807",
		"4294967297 0 0 0 < 2", "18446744073709551617 0 0 0 < 2", "1 0 0 0 < 18446744073709551618", "1 0 0 0 < -18446744073709551615", "1 0 0 0 < 99999999999999999999999999",
		strings.Repeat("0", 100000), strings.Repeat(" ", 100000), strings.Repeat("1 ", 50000), "1 0 0 0 < " + strings.Repeat("9", 100000), "1 0 0 0 < 2" + strings.Repeat(" 2", 50000),
	} {
		if got, ok := impl.LinRead(text); ok || !isZeroLin(got) {
			t.Errorf("LinRead(%.40q) = %v, %v; want the zero value and false", text, got, ok)
		}
	}
}

var linShape = regexp.MustCompile(`^((?:0|-?[1-9][0-9]*) ){4}<=? (?:0|-?[1-9][0-9]*)$`)

// isLinText is what the document says of the texts, without the functions under test.
func isLinText(text string) bool {
	if !linShape.MatchString(text) || strings.HasSuffix(text, "\n") {
		return false
	}
	for _, word := range strings.Fields(text) {
		if n, err := strconv.Atoi(word); word[0] != '<' && (err != nil || n < -coefLimit || n > coefLimit) {
			return false
		}
	}
	return true
}

// TestLinReadTakesJustTheTexts tries the texts that differ from a right one by one byte or two.
func TestLinReadTakesJustTheTexts(t *testing.T) {
	texts := []string{"1 -2 0 0 <= 3", "0 10 -9 0 < -1", "1000000 0 0 -1000000 < 999999", "0 0 0 0 <= 0"}
	for _, text := range texts {
		for _, changed := range changedByOne(text) {
			checkLinRead(t, changed)
		}
	}
	for _, changed := range changedByOne(texts[1]) {
		for _, twice := range changedByOne(changed) {
			checkLinRead(t, twice)
		}
	}
}

// changedByOne is every text that has one byte of text less, more, or another one in its place.
func changedByOne(text string) []string {
	const bytes = " -+<=>0129a"
	var list []string
	for at := range len(text) + 1 {
		for _, b := range bytes {
			list = append(list, text[:at]+string(b)+text[at:])
		}
		if at == len(text) {
			continue
		}
		list = append(list, text[:at]+text[at+1:])
		for _, b := range bytes {
			list = append(list, text[:at]+string(b)+text[at+1:])
		}
	}
	return list
}

func checkLinRead(t *testing.T, text string) {
	t.Helper()
	got, ok := impl.LinRead(text)
	if want := isLinText(text); ok != want {
		t.Errorf("LinRead(%q) = %v, %v; want %v", text, got, ok, want)
	}
	if ok && impl.LinText(got) != text || !ok && !isZeroLin(got) {
		t.Errorf("LinRead(%q) = %v, %v", text, got, ok)
	}
}

func TestLinSame(t *testing.T) {
	// Each of these differs from all others in a field; the invalid ones too.
	list := []impl.Lin{
		{}, {Strict: true}, {Bound: 1}, {Bound: -1, Strict: true}, {Coefs: []int{0}}, {Coefs: []int{0, 0, 0}}, {Coefs: []int{0, 0, 0, 0}}, {Coefs: []int{0, 0, 0, 0, 0}},
		{Coefs: []int{0, 0, 0, 0}, Strict: true}, {Coefs: []int{0, 0, 0, 0}, Bound: 1}, {Coefs: []int{0, 0, 0, 0}, Bound: -1},
		{Coefs: []int{1, 0, 0, 0}}, {Coefs: []int{0, 1, 0, 0}}, {Coefs: []int{0, 0, 1, 0}}, {Coefs: []int{0, 0, 0, 1}}, {Coefs: []int{-1, 0, 0, 0}}, {Coefs: []int{1, 2, 3}}, {Coefs: []int{1, 2, 3, 4}}, {Coefs: []int{1, 2, 3, 4, 5}},
		{Coefs: []int{math.MaxInt, math.MinInt}, Bound: math.MinInt}, {Coefs: []int{math.MaxInt, math.MinInt}, Bound: math.MaxInt}, {Coefs: []int{coefLimit + 1, 0, 0, 0}}, {Coefs: []int{-coefLimit - 1, 0, 0, 0}},
	}
	for i, a := range list {
		for j, b := range list {
			other := impl.Lin{Coefs: append([]int(nil), b.Coefs...), Bound: b.Bound, Strict: b.Strict}
			if impl.LinSame(a, other) != (i == j) {
				t.Errorf("LinSame(%v, %v) is not %v", a, b, i == j)
			}
		}
	}
	if !impl.LinSame(impl.Lin{}, impl.Lin{Coefs: []int{}}) || !impl.LinSame(impl.Lin{Coefs: make([]int, 0, 9), Bound: 2}, impl.Lin{Bound: 2}) {
		t.Error("no coefficients are the same as nil")
	}
}

// TestLinMemory checks that a result is new memory, and that nothing writes to an argument, also beyond its length.
func TestLinMemory(t *testing.T) {
	// Taken once beside nothing, the combination equals an argument and could be it.
	for _, pick := range []func(a impl.Lin, b impl.Lin) impl.Lin{
		func(a impl.Lin, b impl.Lin) impl.Lin { return impl.LinNot(a) },
		func(a impl.Lin, b impl.Lin) impl.Lin { l, _ := impl.LinSum(a, 1, b, 0); return l },
		func(a impl.Lin, b impl.Lin) impl.Lin { l, _ := impl.LinSum(a, 0, b, 1); return l },
		func(a impl.Lin, b impl.Lin) impl.Lin { l, _ := impl.LinSum(a, 2, a, 3); return l },
	} {
		backing := [][]int{{1, -2, 3, -4, 77, 78}, {5, 6, -7, -8, 79, 80}}
		a := impl.Lin{Coefs: backing[0][:linVars], Bound: 9, Strict: true}
		b := impl.Lin{Coefs: backing[1][:linVars], Bound: -9}
		first, second := pick(a, b), pick(a, b)
		text := impl.LinText(second)
		if text == "" {
			t.Fatal("no result")
		}
		spoil(first.Coefs)
		if !equalInts(backing[0], []int{1, -2, 3, -4, 77, 78}) || !equalInts(backing[1], []int{5, 6, -7, -8, 79, 80}) {
			t.Errorf("an argument has changed: %v", backing)
		}
		spoil(backing[0])
		spoil(backing[1])
		if got := impl.LinText(second); got != text {
			t.Errorf("a result has changed from %s to %s", text, got)
		}
	}
}

// spoil overwrites all memory that list can reach.
func spoil(list []int) {
	list = list[:cap(list)]
	for i := range list {
		list[i] = 999
	}
}

func equalInts(a []int, b []int) bool {
	return equalLin(impl.Lin{Coefs: a}, impl.Lin{Coefs: b})
}
