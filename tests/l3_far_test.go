package tests

import (
	"math"
	"math/big"
	"strconv"
	"strings"
	"testing"

	"loop.example/compurgator/impl"
)

// These repeat the document's numbers, so that wrong constants of impl fail too.
const (
	linsLimit = 20
	rowsLimit = 200
	farYes    = 0
	farNo     = 1
	farMuch   = 2
	farForm   = 3
)

func TestFarConstants(t *testing.T) {
	if impl.LinsMost != linsLimit || impl.RowsMost != rowsLimit {
		t.Error(impl.LinsMost, impl.RowsMost)
	}
	if impl.FarYes != farYes || impl.FarNo != farNo || impl.FarMuch != farMuch || impl.FarForm != farForm {
		t.Error(impl.FarYes, impl.FarNo, impl.FarMuch, impl.FarForm)
	}
}

// readSystem reads constraints that are separated by "; ".
func readSystem(t *testing.T, text string) []impl.Lin {
	t.Helper()
	var list []impl.Lin
	if text == "" {
		return nil
	}
	for _, part := range strings.Split(text, "; ") {
		list = append(list, readLin(t, part))
	}
	return list
}

// systemText is what readSystem reads; it shows constraints that are not valid as empty.
func systemText(list []impl.Lin) string {
	var parts []string
	for _, l := range list {
		parts = append(parts, impl.LinText(l))
	}
	return strings.Join(parts, "; ")
}

// copies is a system of so many times the same constraint.
func copies(l impl.Lin, count int) []impl.Lin {
	var list []impl.Lin
	for range count {
		list = append(list, impl.Lin{Coefs: append([]int(nil), l.Coefs...), Bound: l.Bound, Strict: l.Strict})
	}
	return list
}

// notSystems have a constraint too many, or one that is not valid, at each place.
func notSystems(t *testing.T) [][]impl.Lin {
	t.Helper()
	free, bad := readLin(t, "0 0 0 0 <= 0"), readLin(t, "0 0 0 0 < 0")
	lists := [][]impl.Lin{copies(free, linsLimit+1), copies(bad, linsLimit+1), copies(free, 1000)}
	for _, invalid := range invalidLins() {
		lists = append(lists, []impl.Lin{invalid}, []impl.Lin{free, invalid}, []impl.Lin{invalid, bad}, []impl.Lin{bad, invalid, free})
	}
	return append(lists, append(copies(free, linsLimit-1), impl.Lin{}), make([]impl.Lin, linsLimit))
}

func TestFarSum(t *testing.T) {
	for _, c := range []struct {
		system string
		times  []int
		want   string // "" stands for a refusal
	}{
		{"", nil, "0 0 0 0 <= 0"},
		{"", []int{}, "0 0 0 0 <= 0"},
		{"1 0 0 0 <= 1; -1 0 0 0 <= -2", []int{1, 1}, "0 0 0 0 <= -1"},
		{"1 2 3 4 <= 5; -4 3 -2 1 <= -5; 0 1 0 -1 <= 7", []int{3, 1, 2}, "-1 11 7 11 <= 24"},
		{"1 2 3 4 <= 5", []int{1}, "1 2 3 4 <= 5"},
		{"1 2 3 4 < 5", []int{2}, "2 4 6 8 < 10"},
		// A strict constraint counts only if it is taken.
		{"1 2 3 4 < 5", []int{0}, "0 0 0 0 <= 0"},
		{"1 0 0 0 < 5; 0 1 0 0 <= 6", []int{0, 1}, "0 1 0 0 <= 6"},
		{"1 0 0 0 < 5; 0 1 0 0 <= 6", []int{1, 0}, "1 0 0 0 < 5"},
		{"1 0 0 0 <= 5; 0 1 0 0 < 6; 0 0 1 0 <= 7", []int{1, 1, 1}, "1 1 1 0 < 18"},
		// The limits of the multipliers, and one past them, also for zeros.
		{"1 0 0 -1 <= 1; 0 0 0 0 <= 0", []int{1000000, 1000000}, "1000000 0 0 -1000000 <= 1000000"},
		{"0 0 0 0 <= 0; 0 0 0 0 <= 0", []int{1000001, 0}, ""},
		{"0 0 0 0 <= 0; 0 0 0 0 <= 0", []int{0, 1000001}, ""},
		{"0 0 0 0 <= 0; 0 0 0 0 <= 0", []int{-1, 0}, ""},
		{"0 0 0 0 <= 0; 0 0 0 0 <= 0", []int{0, -1}, ""},
		{"1 0 0 0 <= 0", []int{math.MaxInt}, ""},
		{"1 0 0 0 <= 0", []int{math.MinInt}, ""},
		// The limits of the combination, and one past them.
		{"999999 0 0 0 <= 0; 1 0 0 0 <= 0", []int{1, 1}, "1000000 0 0 0 <= 0"},
		{"999999 0 0 0 <= 0; 1 0 0 0 <= 0", []int{1, 2}, ""},
		{"0 0 0 0 <= -999999; 0 0 0 0 <= -1", []int{1, 1}, "0 0 0 0 <= -1000000"},
		{"0 0 0 0 <= -999999; 0 0 0 0 <= -1", []int{1, 2}, ""},
		{"0 0 0 0 <= 999999; 0 0 0 0 <= 1", []int{1, 2}, ""},
		{"500001 0 0 0 <= 0", []int{2}, ""},
		// The combination may not leave them on the way, from the first to the last.
		{"1000000 0 0 0 <= 0; 1 0 0 0 <= 0; -1 0 0 0 <= 0", []int{1, 1, 1}, ""},
		{"1000000 0 0 0 <= 0; -1 0 0 0 <= 0; 1 0 0 0 <= 0", []int{1, 1, 1}, "1000000 0 0 0 <= 0"},
		{"0 0 0 0 <= 600000; 0 0 0 0 <= 600000; 0 0 0 0 <= -600000", []int{1, 1, 1}, ""},
		{"0 0 0 0 <= 600000; 0 0 0 0 <= -600000; 0 0 0 0 <= 600000", []int{1, 1, 1}, "0 0 0 0 <= 600000"},
		// But one product alone may: it is part of one combination.
		{"-1000000 0 0 0 <= 0; 2 0 0 0 <= 0", []int{1, 1000000}, "1000000 0 0 0 <= 0"},
		// Multipliers of another number.
		{"", []int{0}, ""},
		{"1 0 0 0 <= 1", nil, ""},
		{"1 0 0 0 <= 1", []int{1, 0}, ""},
		{"1 0 0 0 <= 1; -1 0 0 0 <= -2", []int{1}, ""},
		{"1 0 0 0 <= 1; -1 0 0 0 <= -2", []int{1, 1, 0}, ""},
	} {
		list := readSystem(t, c.system)
		checkFarSum(t, list, c.times, c.want)
	}
	ones := make([]int, linsLimit)
	for i := range ones {
		ones[i] = 1
	}
	checkFarSum(t, copies(readLin(t, "1 0 -2 0 < 3"), linsLimit), ones, "20 0 -40 0 < 60")
}

func checkFarSum(t *testing.T, list []impl.Lin, times []int, want string) {
	t.Helper()
	got, ok := impl.FarSum(list, times)
	if ok != (want != "") || impl.LinText(got) != want || !ok && !isZeroLin(got) {
		t.Errorf("FarSum(%s, %v) = %v, %v; want %q", systemText(list), times, got, ok, want)
	}
}

func TestFarSumAndFarOkRefuse(t *testing.T) {
	for _, list := range notSystems(t) {
		for _, n := range []int{0, 1} {
			times := make([]int, len(list))
			for i := range times {
				times[i] = n
			}
			checkFarSum(t, list, times, "")
			if impl.FarOk(list, times) {
				t.Errorf("FarOk(%v, %v)", list, times)
			}
		}
		checkFarSum(t, list, nil, "")
	}
}

func TestFarOk(t *testing.T) {
	for _, c := range []struct {
		system string
		times  []int
		want   bool
	}{
		{"1 0 0 0 <= 1; -1 0 0 0 <= -2", []int{1, 1}, true},
		{"1 0 0 0 <= 1; -1 0 0 0 <= -2", []int{2, 2}, true},
		{"1 0 0 0 <= 1; -1 0 0 0 <= -2", []int{1, 2}, false},
		{"1 0 0 0 <= 1; -1 0 0 0 <= -2", []int{0, 0}, false},
		{"1 0 0 0 <= 1; -1 0 0 0 <= -2", []int{1}, false},
		{"1 0 0 0 <= 1; -1 0 0 0 <= -2", []int{1, 1, 0}, false},
		{"1 0 0 0 <= 1; -1 0 0 0 <= -2", []int{-1, -1}, false},
		{"1 0 0 0 <= 1; -1 0 0 0 <= -1", []int{1, 1}, false},
		{"1 0 0 0 < 1; -1 0 0 0 <= -1", []int{1, 1}, true},
		{"1 0 0 0 <= 1; -1 0 0 0 < -1", []int{1, 1}, true},
		{"1 0 0 0 < 1; -1 0 0 0 < -1", []int{1, 1}, true},
		{"1 0 0 0 < 1; -1 0 0 0 < -1", []int{1000000, 1000000}, true},
		{"1 0 0 0 < 1; -1 0 0 0 < -1", []int{1000001, 1000001}, false},
		{"1 0 0 0 < 1; -1 0 0 0 <= 0", []int{1, 1}, false},
		{"0 0 0 0 < 0", []int{1}, true},
		{"0 0 0 0 < 0", []int{0}, false},
		{"0 0 0 0 <= 0", []int{1}, false},
		{"0 0 0 0 <= -1; 0 0 0 0 <= 1", []int{2, 1}, true},
		{"0 0 0 0 <= -1; 0 0 0 0 <= 1", []int{1, 1}, false},
		{"", nil, false},
		{"", []int{1}, false},
		// Contradictory in the end, but out of range on the way.
		{"1000000 0 0 0 <= 0; 1 0 0 0 <= 0; -1000000 0 0 0 <= 0; -1 0 0 0 < 0", []int{1, 1, 1, 1}, false},
		{"1000000 0 0 0 <= 0; -1 0 0 0 < 0; -1000000 0 0 0 <= 0; 1 0 0 0 <= 0", []int{1, 1, 1, 1}, true},
	} {
		if got := impl.FarOk(readSystem(t, c.system), c.times); got != c.want {
			t.Errorf("FarOk(%s, %v) = %v", c.system, c.times, got)
		}
	}
}

func TestFarAll(t *testing.T) {
	for _, c := range []struct {
		system, vals string
		want         bool
	}{
		{"", "0 0 0 0", true},
		{"", "1/2 1/3 -5 1000000000", true},
		{"1 0 0 0 <= 1; -1 0 0 0 <= -1", "1 0 0 0", true},
		{"1 0 0 0 <= 1; -1 0 0 0 <= -1", "1/2 0 0 0", false},
		{"1 0 0 0 <= 1; -1 0 0 0 <= -1", "3/2 0 0 0", false},
		{"1 0 0 0 < 1; -1 0 0 0 <= -1", "1 0 0 0", false},
		{"1 0 0 0 <= 1; -1 0 0 0 < -1", "1 0 0 0", false},
		{"2 1 0 0 <= 3; 0 -1 1 0 < 0; 0 0 0 2 <= -1", "1 1 1/2 -1", true},
		{"0 0 0 0 <= 0", "7 7 7 7", true},
		{"0 0 0 0 < 0", "7 7 7 7", false},
		// LinAt fails, as a product or a sum is not representable.
		{"-1000000 0 0 0 <= 0", "1000 0 0 0", true},
		{"-1000000 0 0 0 <= 0", "1001 0 0 0", false},
		{"0 0 0 0 <= 0; -1 -1 0 0 <= 0", "1000000000 1 0 0", false},
	} {
		if got := impl.FarAll(readSystem(t, c.system), readVals(t, c.vals)); got != c.want {
			t.Errorf("FarAll(%s, %s) = %v", c.system, c.vals, got)
		}
	}
}

func TestFarAllRefuses(t *testing.T) {
	vals := readVals(t, "0 0 0 0")
	for _, list := range notSystems(t) {
		if impl.FarAll(list, vals) {
			t.Errorf("FarAll(%v) of what is no system", list)
		}
	}
	free := readLin(t, "0 0 0 0 <= 0")
	if !impl.FarAll(copies(free, linsLimit), vals) {
		t.Error("a system of as many constraints as there may be")
	}
	wrong := [][]impl.Rat{nil, {}, vals[:1], vals[:3], readVals(t, "0 0 0 0 0"), make([]impl.Rat, linVars)}
	for _, bad := range invalidRats() {
		for at := range linVars {
			v := readVals(t, "0 0 0 0")
			v[at] = bad
			wrong = append(wrong, v)
		}
	}
	for _, v := range wrong {
		// The empty system has no constraint that could refuse v.
		for _, list := range [][]impl.Lin{nil, {free}, {readLin(t, "0 0 0 1 <= 1000")}} {
			if impl.FarAll(list, v) {
				t.Errorf("FarAll(%v, %v)", list, v)
			}
		}
	}
}

func TestFarLess(t *testing.T) {
	const refused = "refused"
	for _, c := range []struct {
		system string
		at     int
		want   string
	}{
		{"", 0, ""},
		{"2 0 0 0 <= 5; -3 1 0 0 < 1; 0 1 0 0 <= 9", 0, "0 1 0 0 <= 9; 0 2 0 0 < 17"},
		{"1 0 0 0 <= 1; -1 0 0 0 <= -2", 0, "0 0 0 0 <= -1"},
		{"1 0 0 0 <= 1; -1 0 0 0 <= -2", 1, "1 0 0 0 <= 1; -1 0 0 0 <= -2"},
		{"0 1 0 0 <= 1; 3 -1 0 0 <= -2", 1, "3 0 0 0 <= -1"},
		{"0 0 1 0 <= 1; 0 3 -1 0 <= -2", 2, "0 3 0 0 <= -1"},
		{"0 0 0 1 <= 1; 0 0 3 -1 <= -2", 3, "0 0 3 0 <= -1"},
		{"-1 0 0 0 <= -2; 1 0 0 0 <= 1", 0, "0 0 0 0 <= -1"},
		// A coefficient on one side only, or on none.
		{"1 0 0 0 <= 1; 1 1 0 0 <= 2; 0 1 0 0 < 3", 0, "0 1 0 0 < 3"},
		{"-1 0 0 0 <= 1; -1 1 0 0 <= 2", 0, ""},
		{"0 5 0 0 < 3; 0 1 0 0 <= 4", 0, "0 5 0 0 < 3; 0 1 0 0 <= 4"},
		// Constraints without any variable stay, and so do equal ones.
		{"0 0 0 0 < 0; 0 0 0 0 <= 5; 0 0 0 0 < 0", 2, "0 0 0 0 < 0; 0 0 0 0 <= 5; 0 0 0 0 < 0"},
		{"1 0 0 0 <= 1; 1 0 0 0 <= 1; -1 2 0 0 <= 0", 0, "0 2 0 0 <= 1; 0 2 0 0 <= 1"},
		// Coefficients with and without a common divisor.
		{"0 6 0 0 <= 5; 0 -4 1 0 < 7", 1, "0 0 3 0 < 31"},
		{"0 4 0 0 <= 5; 0 -6 1 0 < 7", 1, "0 0 2 0 < 29"},
		{"0 6 0 0 <= 5; 0 -6 1 0 < 7", 1, "0 0 1 0 < 12"},
		{"0 5 1 0 <= 5; 0 -3 1 0 <= 7", 1, "0 0 8 0 <= 50"},
		{"0 8 0 1 <= 1; 0 -2 0 0 <= 1", 1, "0 0 0 1 <= 5"},
		{"999999 0 1 0 <= 0; -1000000 0 0 0 <= 0", 0, "0 0 1000000 0 <= 0"},
		{"500000 0 1 0 <= 1; -1000000 1 0 0 <= 1", 0, "0 1 2 0 <= 3"},
		// Strict as soon as one of the two is.
		{"1 1 0 0 <= 1; -1 0 0 0 <= 1", 0, "0 1 0 0 <= 2"},
		{"1 1 0 0 < 1; -1 0 0 0 <= 1", 0, "0 1 0 0 < 2"},
		{"1 1 0 0 <= 1; -1 0 0 0 < 1", 0, "0 1 0 0 < 2"},
		{"1 1 0 0 < 1; -1 0 0 0 < 1", 0, "0 1 0 0 < 2"},
		// First those without the variable, then by the upper one, then by the lower one.
		{"-1 0 0 0 <= 1; 1 0 0 0 <= 10; 0 1 0 0 <= 7; -1 0 0 0 <= 2; 1 0 0 0 <= 20; 0 0 1 0 < 8; -1 0 0 0 <= 3", 0,
			"0 1 0 0 <= 7; 0 0 1 0 < 8; 0 0 0 0 <= 11; 0 0 0 0 <= 12; 0 0 0 0 <= 13; 0 0 0 0 <= 21; 0 0 0 0 <= 22; 0 0 0 0 <= 23"},
		// The limits of a combination, and one past them.
		{"0 0 0 1 <= 999999; 0 0 0 -1 <= 1", 3, "0 0 0 0 <= 1000000"},
		{"0 0 0 1 <= 999999; 0 0 0 -1 <= 2", 3, refused},
		{"0 0 0 1 <= -999999; 0 0 0 -1 <= -1", 3, "0 0 0 0 <= -1000000"},
		{"0 0 0 1 <= -999999; 0 0 0 -1 <= -2", 3, refused},
		{"1000000 0 0 0 <= 0; -1 1 0 0 <= 0", 0, "0 1000000 0 0 <= 0"},
		{"1000000 0 0 0 <= 0; -1 2 0 0 <= 0", 0, refused},
		{"1000000 0 0 0 <= 0; -1 -1 0 0 <= 0", 0, "0 -1000000 0 0 <= 0"},
		{"1000000 -1 0 0 <= 0; -1 -1 0 0 <= 0", 0, refused},
		{"1000000 0 0 0 <= 0; -999999 0 0 0 <= 0", 0, "0 0 0 0 <= 0"},
		// One combination out of range fails all.
		{"1 0 0 0 <= 1; -1 0 0 0 <= 1; 1 0 0 0 <= 1000000; 0 1 0 0 <= 5", 0, refused},
	} {
		got, ok := impl.FarLess(readSystem(t, c.system), c.at)
		if c.want == refused {
			if ok || len(got) != 0 {
				t.Errorf("FarLess(%s, %d) = %s, %v", c.system, c.at, systemText(got), ok)
			}
			continue
		}
		if !ok || systemText(got) != c.want {
			t.Errorf("FarLess(%s, %d) = %s, %v; want %s", c.system, c.at, systemText(got), ok, c.want)
		}
	}
}

// TestFarLessMany has as many combinations as 20 constraints can have.
func TestFarLessMany(t *testing.T) {
	var list []impl.Lin
	var want []string
	for i := range linsLimit / 2 {
		list = append(list, impl.Lin{Coefs: []int{1, 0, 0, 0}, Bound: 10 * i}, impl.Lin{Coefs: []int{-1, 0, 0, 0}, Bound: i})
		for j := range linsLimit / 2 {
			want = append(want, "0 0 0 0 <= "+strconv.Itoa(10*i+j))
		}
	}
	got, ok := impl.FarLess(list, 0)
	if !ok || systemText(got) != strings.Join(want, "; ") {
		t.Errorf("%v, %v", systemText(got), ok)
	}
}

func TestFarLessRefuses(t *testing.T) {
	for _, list := range notSystems(t) {
		for at := -1; at <= linVars; at++ {
			if got, ok := impl.FarLess(list, at); ok || len(got) != 0 {
				t.Errorf("FarLess(%v, %d) = %v, %v", list, at, got, ok)
			}
		}
	}
	for _, at := range []int{-1, linVars, -linVars, linVars + 1, math.MaxInt32, math.MinInt32, math.MaxInt, math.MinInt} {
		for _, text := range []string{"", "0 0 0 0 <= 0", "1 0 0 0 <= 1; -1 0 0 0 <= -2"} {
			if got, ok := impl.FarLess(readSystem(t, text), at); ok || len(got) != 0 {
				t.Errorf("FarLess(%s, %d) = %v, %v", text, at, got, ok)
			}
		}
	}
}

// answerOf writes what FarRun returns: "yes" and the values, "no" and the multipliers, "much" or "form".
func answerOf(t *testing.T, list []impl.Lin) string {
	t.Helper()
	vals, times, code := impl.FarRun(list)
	if code != farYes && len(vals) != 0 || code != farNo && len(times) != 0 {
		t.Errorf("FarRun(%s) = %v, %v, %d", systemText(list), vals, times, code)
	}
	return writtenAnswer(vals, times, code)
}

func writtenAnswer(vals []impl.Rat, times []int, code int) string {
	words := []string{"?"}
	if code >= 0 && code <= farForm {
		words[0] = []string{"yes", "no", "much", "form"}[code]
	}
	for _, val := range vals {
		words = append(words, impl.RatText(val))
	}
	for _, n := range times {
		words = append(words, strconv.Itoa(n))
	}
	return strings.Join(words, " ")
}

func checkAnswers(t *testing.T, cases [][2]string) {
	t.Helper()
	for _, c := range cases {
		if got := answerOf(t, readSystem(t, c[0])); got != c[1] {
			t.Errorf("FarRun(%s): %s; want %s", c[0], got, c[1])
		}
	}
}

func TestFarRunBounds(t *testing.T) {
	checkAnswers(t, [][2]string{
		{"", "yes 0 0 0 0"},
		{"1 0 0 0 <= 4; -1 0 0 0 <= -2; -1 1 0 0 < 0; 0 -1 0 0 <= 0", "yes 3 3/2 0 0"},
		// Two bounds that leave one number, none, one or both of them strict.
		{"1 0 0 0 <= 1; -1 0 0 0 <= -1", "yes 1 0 0 0"},
		{"1 0 0 0 < 1; -1 0 0 0 <= -1", "no 1 1"},
		{"1 0 0 0 <= 1; -1 0 0 0 < -1", "no 1 1"},
		{"1 0 0 0 < 1; -1 0 0 0 < -1", "no 1 1"},
		{"0 0 0 1 <= 0; 0 0 0 -1 <= 0", "yes 0 0 0 0"},
		{"0 0 0 1 < 0; 0 0 0 -1 <= 0", "no 1 1"},
		{"2 0 0 0 <= 1; -4 0 0 0 <= -2", "yes 1/2 0 0 0"},
		{"2 0 0 0 < 1; -4 0 0 0 <= -2", "no 2 1"},
		{"2 0 0 0 <= 1; -4 0 0 0 < -2", "no 2 1"},
		{"3 0 0 0 <= 1; -5 0 0 0 < -2", "no 5 3"},
		{"1 0 0 0 <= 1; 1 0 0 0 < 1; -1 0 0 0 <= -1", "no 0 1 1"},
		{"1 0 0 0 <= 2; -1 0 0 0 <= -2; 1 -1 0 0 <= 0; -2 2 0 0 <= 0; 0 3 -1 0 <= 0; 0 -3 1 0 <= 0", "yes 2 2 6 0"},
		{"1 0 0 0 <= 2; -1 0 0 0 <= -2; 1 -1 0 0 <= 0; -2 2 0 0 < 0; 0 3 -1 0 <= 0; 0 -3 1 0 <= 0", "no 0 0 2 1 0 0"},
		// One bound, weak or strict.
		{"0 1 0 0 <= 5", "yes 0 4 0 0"},
		{"0 1 0 0 < 5", "yes 0 4 0 0"},
		{"0 2 0 0 <= 5", "yes 0 3/2 0 0"},
		{"0 0 -1 0 <= -5", "yes 0 0 6 0"},
		{"0 0 -1 0 < -5", "yes 0 0 6 0"},
		{"0 0 -3 0 <= 5", "yes 0 0 -2/3 0"},
		{"0 0 0 1 < 0", "yes 0 0 0 -1"},
		{"0 0 0 -1 < 0", "yes 0 0 0 1"},
		// No bound, or none but by a variable that comes later.
		{"0 0 0 0 <= 0; 0 0 0 0 < 1", "yes 0 0 0 0"},
		{"-1 1 0 0 <= 0", "yes 0 -1 0 0"},
		{"1 -1 0 0 <= 0", "yes 0 1 0 0"},
		{"1 1 1 1 <= 0", "yes 0 0 0 -1"},
		{"-1 -2 -3 -4 <= -8", "yes 0 0 0 3"},
		{"0 0 1 0 <= 1; 0 0 -1 0 <= 0", "yes 0 0 1/2 0"},
		// The greatest lower and the least upper bound, also behind and before others.
		{"1 0 0 0 <= 9; 1 0 0 0 <= 4; 1 0 0 0 <= 6; -1 0 0 0 <= 7; -1 0 0 0 <= -1; -1 0 0 0 <= 0", "yes 5/2 0 0 0"},
		{"1 0 0 0 <= 9; 1 0 0 0 <= 6; 1 0 0 0 <= 4", "yes 3 0 0 0"},
		{"3 0 0 0 <= 12; 1 0 0 0 <= 9; 1 0 0 0 <= 6", "yes 3 0 0 0"},
		{"-1 0 0 0 <= 7; -1 0 0 0 <= 0; -1 0 0 0 <= -1", "yes 2 0 0 0"},
		{"-5 0 0 0 <= -5; -1 0 0 0 <= 7; -1 0 0 0 <= 0", "yes 2 0 0 0"},
		// Eliminated from the last to the first, and assigned from the first to the last.
		{"1 1 0 0 <= 4; -1 0 0 0 <= 0; 0 -1 0 0 <= 0", "yes 2 1 0 0"},
		{"1 1 1 1 <= 16; -1 0 0 0 <= 0; 0 -1 0 0 <= 0; 0 0 -1 0 <= 0; 0 0 0 -1 <= 0", "yes 8 4 2 1"},
		{"2 3 0 0 <= 7; -5 1 0 0 < 2; 1 -4 0 0 <= 6", "yes 360/209 145/2508 0 0"},
	})
}

func TestFarRunContradictions(t *testing.T) {
	checkAnswers(t, [][2]string{
		// A variable that is left with no number at all.
		{"1 0 0 0 <= 1; -1 0 0 0 <= -2", "no 1 1"},
		{"1 0 0 0 < 1; -1 0 0 0 < -2", "no 1 1"},
		{"0 0 0 -3 <= -2; 0 0 0 2 <= 1", "no 2 3"},
		{"0 0 0 4 <= 1; 0 0 0 -6 <= -2", "no 3 2"},
		{"1 -1 0 0 <= 0; 0 1 -1 0 < 0; -1 0 1 0 <= 0", "no 1 1 1"},
		{"1 -1 0 0 <= 0; 0 1 -1 0 <= 0; -1 0 1 0 <= 0", "yes 0 0 0 0"},
		{"1 1 0 0 <= 1; -1 0 0 0 <= -1; 0 -1 0 0 <= 0; 0 0 1 0 <= 3; 0 -1 0 0 < 0", "no 1 1 0 0 1"},
		{"1 -1 0 0 < 0; 0 1 -1 0 < 0; 0 0 1 -1 < 0; -1 0 0 1 < 0", "no 1 1 1 1"},
		{"2 -3 0 0 <= 0; 0 5 -7 0 <= 0; -10 0 21 0 <= -1", "no 5 3 1"},
		// Contradictory from the beginning.
		{"0 0 0 0 < 0", "no 1"},
		{"0 0 0 0 <= -1", "no 1"},
		{"1 0 0 0 <= 3; 0 0 0 0 <= -1; 0 1 0 0 <= 4", "no 0 1 0"},
		// The first contradiction is taken.
		{"0 0 0 0 <= 5; 0 0 0 0 <= -1; 0 0 0 0 < 0", "no 0 1 0"},
		{"1 0 0 0 <= 0; -1 0 0 0 <= -1; 0 0 0 0 < 0", "no 0 0 1"},
		{"1 0 0 0 <= 1; 1 0 0 0 <= 0; -1 0 0 0 <= -3; -1 0 0 0 <= -2", "no 1 0 1 0"},
		{"1 0 0 0 <= 5; 1 0 0 0 <= 0; -1 0 0 0 <= -3; -1 0 0 0 <= -9", "no 1 0 0 1"},
		{"1 0 0 0 <= 0; -1 0 0 0 <= -1; 0 1 0 0 <= 0; 0 -1 0 0 <= -1", "no 0 0 1 1"},
		// A constraint that is used on two ways counts both times.
		{"0 1 1 0 <= 0; 1 -1 0 0 <= 0; 0 1 -1 0 <= 0; -1 -1 0 0 < 0", "no 2 2 2 2"},
		{"0 1 1 0 <= 0; 0 1 -2 0 <= 0; 1 -2 0 0 <= 0; -1 -1 0 0 < 0", "no 6 3 3 3"},
		// Contradictory, but its multipliers lead out of range in the order of the list.
		{"1 0 0 1 <= 600000; -1 0 1 0 <= 600000; 0 0 -1 0 <= -600001; 0 0 0 -1 <= -600000", "much"},
		{"1 0 0 1 <= 600000; 0 0 0 -1 <= -600000; -1 0 1 0 <= 600000; 0 0 -1 0 <= -600001", "no 1 1 1 1"},
		{"1 0 0 1 <= 500000; -1 0 1 0 <= 500000; 0 0 -1 0 <= -500001; 0 0 0 -1 <= -500000", "no 1 1 1 1"},
		{"1 0 0 1 <= 500000; -1 0 1 0 <= 500001; 0 0 -1 0 <= -500002; 0 0 0 -1 <= -500000", "much"},
	})
}

func TestFarRunLimits(t *testing.T) {
	checkAnswers(t, [][2]string{
		// The limits of a combination, and one past them.
		{"1 0 0 0 <= 999999; -1 0 0 0 <= 1", "yes 499999 0 0 0"},
		{"1 0 0 0 <= 999999; -1 0 0 0 <= 2", "much"},
		{"1 0 0 0 <= -999999; -1 0 0 0 <= -1", "no 1 1"},
		{"1 0 0 0 <= -999999; -1 0 0 0 <= -2", "much"},
		{"0 1000000 0 0 <= 0; 1 -1 0 0 <= 0", "yes -1 -1/2 0 0"},
		{"0 1000000 0 0 <= 0; 2 -1 0 0 <= 0", "much"},
		// A failed elimination comes before a contradiction, also one that stays.
		{"0 0 0 0 < 0; 1 0 0 0 <= 1000000; -1 0 0 0 <= 1", "much"},
		{"0 0 0 1 <= 0; 0 0 0 -1 <= -1; 1 0 0 0 <= 1000000; -1 0 0 0 <= 1", "much"},
		// A given constraint is used 1000000 times, and one time more.
		{"0 0 1 1000 <= 0; 0 0 0 -1 <= 0; 1 0 -1000 0 <= 0; -1 0 0 0 < 0", "no 1000 1000000 1 1"},
		{"0 0 1 9901 <= 0; 0 0 0 -1 <= 0; 1 0 -101 0 <= 0; -1 0 0 0 < 0", "much"},
		{"0 0 1 9900 <= 0; 0 0 0 -1 <= 0; 1 0 -101 0 <= 0; -1 0 0 0 < 0", "no 101 999900 1 1"},
		{"0 0 1 1000 <= 0; 0 0 0 -1 <= 0; 1 0 -1000 0 <= 0", "yes -1 0 -1/2000 1/4000000"},
		{"0 0 1 9901 <= 0; 0 0 0 -1 <= 0; 1 0 -101 0 <= 0", "much"},
		// Also where it is the lower constraint that is used so often before.
		{"0 0 -1 -1000 <= 0; 0 0 0 1 <= 0; 1 0 1000 0 <= 0; -1 0 0 0 < 0", "no 1000 1000000 1 1"},
		{"0 0 -1 -9901 <= 0; 0 0 0 1 <= 0; 1 0 101 0 <= 0; -1 0 0 0 < 0", "much"},
	})
}

// manyRows is a system from which the elimination of the last variable leaves
// 30 constraints, and that of the one before it 200; extra ones come on top.
func manyRows(t *testing.T, extra ...string) []impl.Lin {
	t.Helper()
	var list []impl.Lin
	for i := range 4 {
		list = append(list, impl.Lin{Coefs: []int{0, 0, 1, 1}, Bound: i})
	}
	for i := range 5 {
		list = append(list, impl.Lin{Coefs: []int{0, 0, 0, -1}, Bound: i})
	}
	for i := range 10 {
		list = append(list, impl.Lin{Coefs: []int{0, 0, -1, 0}, Bound: 10 + i})
	}
	for _, text := range extra {
		list = append(list, readLin(t, text))
	}
	return list
}

func TestFarRunManyRows(t *testing.T) {
	if got := answerOf(t, manyRows(t)); got != "yes 0 0 -5 5/2" {
		t.Errorf("200 constraints during elimination: %s", got)
	}
	// Each of these makes 201, and the last one, which is combined with five lower ones, 205.
	for _, extra := range []string{"0 0 0 0 <= 0", "0 0 0 0 < 0", "1 0 0 0 <= 1", "0 -1 0 0 <= 0", "1 0 0 1 <= 0"} {
		if got := answerOf(t, manyRows(t, extra)); got != "much" {
			t.Errorf("more than 200 constraints during elimination by %s: %s", extra, got)
		}
	}
	list := manyRows(t)
	list[0].Bound = -11
	if got := answerOf(t, list); got != "no 1 0 0 0 1 0 0 0 0 1 0 0 0 0 0 0 0 0 0" {
		t.Errorf("a contradiction among 200 constraints: %s", got)
	}
}

func TestFarRunValuesOutOfRange(t *testing.T) {
	const fixed = "1 0 0 0 <= 1000000; -1 0 0 0 <= -1000000; "
	const two = fixed + "0 1 0 0 <= 1000000; 0 -1 0 0 <= -1000000; "
	const small = "999983 0 0 0 <= 1; -999983 0 0 0 <= -1; "
	checkAnswers(t, [][2]string{
		{strings.TrimSuffix(fixed, "; "), "yes 1000000 0 0 0"},
		// The sum of two bounds, of which the midpoint is half.
		{fixed + "-500 1 0 0 <= 0; 500 -1 0 0 <= 0", "yes 1000000 500000000 0 0"},
		{fixed + "-501 1 0 0 <= 0; 501 -1 0 0 <= 0", "much"},
		{fixed + "500 1 0 0 <= 0; -500 -1 0 0 <= 0", "yes 1000000 -500000000 0 0"},
		{fixed + "501 1 0 0 <= 0; -501 -1 0 0 <= 0", "much"},
		// One less or more than the only bound.
		{fixed + "-1000 1 0 0 <= 0", "yes 1000000 999999999 0 0"},
		{fixed + "1000 -1 0 0 <= 0", "much"},
		{fixed + "1000 1 0 0 <= 0", "much"},
		{fixed + "-1000 -1 0 0 <= 0", "yes 1000000 -999999999 0 0"},
		{fixed + "1000 1 0 0 <= 1", "yes 1000000 -1000000000 0 0"},
		{fixed + "999 1 0 0 <= 0", "yes 1000000 -999000001 0 0"},
		{fixed + "999 -1 0 0 <= 0", "yes 1000000 999000001 0 0"},
		// A product of which a bound is computed, even if another bound decides.
		{fixed + "-1001 1 0 0 <= 0", "much"},
		{fixed + "-1001 1 0 0 <= 0; 0 1 0 0 <= 0", "much"},
		{fixed + "0 1 0 0 <= 0; -1001 1 0 0 <= 0", "much"},
		{fixed + "-999 1 0 0 <= 0; 0 1 0 0 <= 0", "yes 1000000 -1 0 0"},
		// A sum of which a bound is computed: from the bound, from the first to the last.
		{fixed + "-1000 1 0 0 <= 1", "much"},
		{fixed + "-1000 1 0 0 <= -1", "yes 1000000 999999998 0 0"},
		{two + "-1000 1000 1 0 <= 1", "much"},
		{two + "1000 -1000 1 0 <= 1", "yes 1000000 1000000 0 0"},
		{two + "1000 -1000 1 0 <= -1", "much"},
		{two + "-1000 1000 1 0 <= -1", "yes 1000000 1000000 -2 0"},
		// A bound with too great a denominator.
		{small + "-1 1000 0 0 <= 0", "yes 1/999983 -999982999/999983000 0 0"},
		{small + "-1 1001 0 0 <= 0", "much"},
		{small + "-1 1000 0 0 <= 0; 1 -1000 0 0 <= 0", "yes 1/999983 1/999983000 0 0"},
		{small + "-1 1001 0 0 <= 0; 1 -1001 0 0 <= 0", "much"},
		// A midpoint with too great a denominator.
		{small + "-1 500 0 0 <= 0; 0 -500 0 0 <= 0", "yes 1/999983 1/999983000 0 0"},
		{small + "-1 501 0 0 <= 0; 0 -501 0 0 <= 0", "much"},
		// The assignment is there, but LinAt fails for a constraint.
		{"-1000 0 0 0 <= -1000; -1 0 0 0 <= -999999", "yes 1000000 0 0 0"},
		{"-1000 0 0 0 <= -1000; -1 0 0 0 <= -1000000", "much"},
		{fixed + "-1000 1 0 0 <= 0; 0 1 0 0 <= 0", "much"},
		{"1000 0 0 0 <= -1000; 1 0 0 0 <= -999999", "yes -1000000 0 0 0"},
		{"1000 0 0 0 <= -1000; 1 0 0 0 <= -1000000", "much"},
		{"-1000000 0 0 0 <= -1000000; -1 0 0 0 <= -1000000", "much"},
	})
}

func TestFarRunForm(t *testing.T) {
	for _, list := range notSystems(t) {
		if got := answerOf(t, list); got != "form" {
			t.Errorf("FarRun(%v): %s", list, got)
		}
	}
	most := copies(readLin(t, "1 0 0 0 <= 3"), linsLimit)
	if got := answerOf(t, most); got != "yes 2 0 0 0" {
		t.Errorf("as many constraints as there may be: %s", got)
	}
	most[linsLimit-1] = readLin(t, "0 0 0 0 < 0")
	if got := answerOf(t, most); got != "no"+strings.Repeat(" 0", linsLimit-1)+" 1" {
		t.Errorf("as many constraints as there may be, the last one contradictory: %s", got)
	}
}

// TestFarMemory checks that results are new memory, and that nothing writes to an argument, also beyond its length.
func TestFarMemory(t *testing.T) {
	fresh := func() ([]impl.Lin, []int) {
		backing := copies(impl.Lin{Coefs: []int{77, 78, 79, 80, 81, 82}}, 5)
		for i, text := range []string{"1 2 0 0 <= 3", "0 3 0 -1 < 9", "-1 0 1 0 <= 4", "0 0 5 0 <= 6"} {
			l := readLin(t, text)
			copy(backing[i].Coefs, l.Coefs)
			backing[i] = impl.Lin{Coefs: backing[i].Coefs[:linVars], Bound: l.Bound, Strict: l.Strict}
		}
		return backing, []int{1, 0, 0, 0, 99, 99}
	}
	state := func(backing []impl.Lin, times []int) string {
		var words []string
		for _, l := range backing {
			words = append(words, strconv.FormatBool(l.Strict), strconv.Itoa(l.Bound))
			for _, n := range l.Coefs[:cap(l.Coefs)] {
				words = append(words, strconv.Itoa(n))
			}
		}
		for _, n := range times {
			words = append(words, strconv.Itoa(n))
		}
		return strings.Join(words, " ")
	}
	backing, times := fresh()
	before := state(backing, times)
	list := backing[:4]
	sum, sumOk := impl.FarSum(list, times[:4])
	less, lessOk := impl.FarLess(list, 0)
	again, _ := impl.FarLess(list, 0)
	vals, _, code := impl.FarRun(list)
	impl.FarOk(list, times[:4])
	impl.FarAll(list, vals)
	if !sumOk || !lessOk || code != farYes || len(less) != 3 {
		t.Fatal(sum, less, vals, code)
	}
	texts := systemText(again)
	spoil(sum.Coefs)
	for i := range less {
		spoil(less[i].Coefs)
		for j := i + 1; j < len(less); j++ {
			if impl.LinText(less[j]) != impl.LinText(again[j]) {
				t.Errorf("the constraints %d and %d of one result share memory", i, j)
			}
		}
	}
	if state(backing, times) != before {
		t.Errorf("an argument has changed: %s", state(backing, times))
	}
	for _, l := range list {
		spoil(l.Coefs)
	}
	if systemText(again) != texts {
		t.Errorf("a result has changed from %s to %s", texts, systemText(again))
	}
}

// bigLin is a constraint of exact numbers, with how many times it uses each given one.
type bigLin struct {
	coefs  [linVars]*big.Int
	bound  *big.Int
	strict bool
	uses   []*big.Int
}

func bigSystem(list []impl.Lin) []bigLin {
	var rows []bigLin
	for i, l := range list {
		row := bigLin{bound: big.NewInt(int64(l.Bound)), strict: l.Strict}
		for at := range linVars {
			row.coefs[at] = big.NewInt(int64(l.Coefs[at]))
		}
		for j := range list {
			n := int64(0)
			if i == j {
				n = 1
			}
			row.uses = append(row.uses, big.NewInt(n))
		}
		rows = append(rows, row)
	}
	return rows
}

// bigPair is upper and lower without variable at.
func bigPair(upper bigLin, lower bigLin, at int) bigLin {
	p, q := upper.coefs[at], new(big.Int).Neg(lower.coefs[at])
	g := new(big.Int).GCD(nil, nil, p, q)
	m, n := new(big.Int).Div(q, g), new(big.Int).Div(p, g)
	join := func(a *big.Int, b *big.Int) *big.Int {
		return new(big.Int).Add(new(big.Int).Mul(m, a), new(big.Int).Mul(n, b))
	}
	row := bigLin{bound: join(upper.bound, lower.bound), strict: upper.strict || lower.strict}
	for i := range linVars {
		row.coefs[i] = join(upper.coefs[i], lower.coefs[i])
	}
	for i := range upper.uses {
		row.uses = append(row.uses, join(upper.uses[i], lower.uses[i]))
	}
	return row
}

func (row bigLin) inRange() bool {
	most := big.NewInt(coefLimit)
	ok := row.bound.CmpAbs(most) <= 0
	for _, coef := range row.coefs {
		ok = ok && coef.CmpAbs(most) <= 0
	}
	for _, n := range row.uses {
		ok = ok && n.Cmp(most) <= 0
	}
	return ok
}

// bigLess is the elimination of variable at, as the document defines it.
func bigLess(rows []bigLin, at int) ([]bigLin, bool) {
	var rest []bigLin
	for _, row := range rows {
		if row.coefs[at].Sign() == 0 {
			rest = append(rest, row)
		}
	}
	for _, upper := range rows {
		for _, lower := range rows {
			if upper.coefs[at].Sign() <= 0 || lower.coefs[at].Sign() >= 0 {
				continue
			}
			row := bigPair(upper, lower, at)
			rest = append(rest, row)
			if !row.inRange() || len(rest) > rowsLimit {
				return nil, false
			}
		}
	}
	return rest, len(rest) <= rowsLimit
}

func (row bigLin) lin() impl.Lin {
	l := impl.Lin{Bound: int(row.bound.Int64()), Strict: row.strict}
	for _, coef := range row.coefs {
		l.Coefs = append(l.Coefs, int(coef.Int64()))
	}
	return l
}

// bigBound is the bound that row gives to variable at; false if it is not representable, also on the way.
func bigBound(row bigLin, at int, vals []*big.Rat) (*big.Rat, bool) {
	rest := new(big.Rat).SetInt(row.bound)
	for i, coef := range row.coefs {
		if i == at {
			continue
		}
		product := new(big.Rat).Mul(new(big.Rat).SetInt(new(big.Int).Neg(coef)), vals[i])
		rest.Add(rest, product)
		if !representable(product) || !representable(rest) {
			return nil, false
		}
	}
	rest.Quo(rest, new(big.Rat).SetInt(row.coefs[at]))
	return rest, representable(rest)
}

// bigValue is the value that rows leave for variable at.
func bigValue(rows []bigLin, at int, vals []*big.Rat) (*big.Rat, bool) {
	var low, high *big.Rat
	for _, row := range rows {
		sign := row.coefs[at].Sign()
		if sign == 0 {
			continue
		}
		bound, ok := bigBound(row, at, vals)
		if !ok {
			return nil, false
		}
		if sign > 0 && (high == nil || bound.Cmp(high) < 0) {
			high = bound
		}
		if sign < 0 && (low == nil || bound.Cmp(low) > 0) {
			low = bound
		}
	}
	switch {
	case low == nil && high == nil:
		return new(big.Rat), true
	case low == nil:
		value := bigAdd(high, big.NewRat(-1, 1))
		return value, representable(value)
	case high == nil:
		value := bigAdd(low, big.NewRat(1, 1))
		return value, representable(value)
	}
	value := bigHalf(bigAdd(low, high))
	return value, representable(bigAdd(low, high)) && representable(value)
}

// bigTotal is the combination of list with times; the second result says whether it stays in range, also on the way.
func bigTotal(list []impl.Lin, times []*big.Int) (bigLin, bool) {
	total := bigLin{bound: new(big.Int)}
	for at := range linVars {
		total.coefs[at] = new(big.Int)
	}
	ok := true
	for i, row := range bigSystem(list) {
		total.bound.Add(total.bound, row.bound.Mul(row.bound, times[i]))
		for at, coef := range row.coefs {
			total.coefs[at].Add(total.coefs[at], coef.Mul(coef, times[i]))
		}
		total.strict = total.strict || row.strict && times[i].Sign() > 0
		ok = ok && total.inRange()
	}
	return total, ok
}

func (row bigLin) contradictory() bool {
	for _, coef := range row.coefs {
		if coef.Sign() != 0 {
			return false
		}
	}
	return row.bound.Sign() < 0 || row.bound.Sign() == 0 && row.strict
}

// expectedAnswer is what the document says of FarRun, in exact numbers and in the form of writtenAnswer.
func expectedAnswer(list []impl.Lin) string {
	rows := bigSystem(list)
	var before [linVars][]bigLin
	for at := linVars - 1; at >= 0; at-- {
		before[at] = rows
		rest, ok := bigLess(rows, at)
		if !ok {
			return "much"
		}
		rows = rest
	}
	for _, row := range rows {
		if !row.contradictory() {
			continue
		}
		if _, ok := bigTotal(list, row.uses); !ok {
			return "much"
		}
		answer := "no"
		for _, n := range row.uses {
			answer += " " + n.String()
		}
		return answer
	}
	return expectedAssignment(list, before)
}

func expectedAssignment(list []impl.Lin, before [linVars][]bigLin) string {
	exact := []*big.Rat{new(big.Rat), new(big.Rat), new(big.Rat), new(big.Rat)}
	var vals []impl.Rat
	for at := range linVars {
		value, ok := bigValue(before[at], at, exact)
		if !ok {
			return "much"
		}
		exact[at] = value
		vals = append(vals, impl.Rat{N: int(value.Num().Int64()), D: int(value.Denom().Int64())})
	}
	for _, l := range list {
		if holds, ok := exactAt(l, vals); !ok || !holds {
			return "much"
		}
	}
	return writtenAnswer(vals, nil, farYes)
}

// numbers is a fixed sequence of numbers without a visible order.
type numbers uint64

// below is the next number, from 0 to n-1.
func (s *numbers) below(n int) int {
	*s = *s*6364136223846793005 + 1442695040888963407
	return int(uint64(*s) >> 33 % uint64(n))
}

// around is a number between -n and n.
func (s *numbers) around(n int) int { return s.below(2*n+1) - n }

// system makes up a system of some shape: few or many constraints, variables, and great or small numbers.
func (s *numbers) system() []impl.Lin {
	greatest := []int{1, 2, 3, 10, 1000, coefLimit}
	coefs, bounds := greatest[s.below(len(greatest))], greatest[s.below(len(greatest))]
	vars, strict, gaps := 1+s.below(linVars), s.below(3), 1+s.below(4)
	count := s.below(8)
	if s.below(8) == 0 {
		count = s.below(linsLimit + 1)
	}
	var list []impl.Lin
	for range count {
		l := impl.Lin{Coefs: make([]int, linVars), Bound: s.around(bounds), Strict: s.below(3) < strict}
		for at := linVars - vars; at < linVars; at++ {
			if s.below(gaps+1) > 0 {
				l.Coefs[at] = s.around(coefs)
			}
		}
		list = append(list, l)
	}
	// Turned around, the variables that come first are used too.
	if s.below(2) == 0 {
		for _, l := range list {
			l.Coefs[0], l.Coefs[1], l.Coefs[2], l.Coefs[3] = l.Coefs[3], l.Coefs[2], l.Coefs[1], l.Coefs[0]
		}
	}
	return list
}

func TestFarRunIsAsDefined(t *testing.T) {
	s := numbers(3)
	answers := map[string]int{}
	for range 30000 {
		list := s.system()
		got, want := answerOf(t, list), expectedAnswer(list)
		if got != want {
			t.Fatalf("FarRun(%s): %s; want %s", systemText(list), got, want)
		}
		word, _, _ := strings.Cut(got, " ")
		answers[word]++
	}
	if answers["yes"] < 3000 || answers["no"] < 3000 || answers["much"] < 3000 {
		t.Errorf("the systems miss a case: %v", answers)
	}
}

func TestFarLessIsAsDefined(t *testing.T) {
	s := numbers(4)
	done, failed := 0, 0
	for range 20000 {
		list := s.system()
		for at := range linVars {
			got, ok := impl.FarLess(list, at)
			rows, wantOk := bigLess(bigSystem(list), at)
			var want []impl.Lin
			for _, row := range rows {
				want = append(want, row.lin())
			}
			if ok != wantOk || systemText(got) != systemText(want) || len(got) != len(want) {
				t.Fatalf("FarLess(%s, %d) = %s, %v; want %s, %v", systemText(list), at, systemText(got), ok, systemText(want), wantOk)
			}
			if ok {
				done++
			} else {
				failed++
			}
		}
	}
	if done < 1000 || failed < 1000 {
		t.Errorf("the systems miss a case: %d eliminations, %d failed", done, failed)
	}
}

func TestFarSumIsAsDefined(t *testing.T) {
	s := numbers(5)
	done, failed, bad := 0, 0, 0
	for range 20000 {
		list := s.system()
		most := []int{1, 3, 100, coefLimit}[s.below(4)]
		var times []int
		var exact []*big.Int
		for range list {
			times = append(times, s.below(most+1))
			exact = append(exact, big.NewInt(int64(times[len(times)-1])))
		}
		got, ok := impl.FarSum(list, times)
		total, wantOk := bigTotal(list, exact)
		if ok != wantOk || ok && !equalLin(got, total.lin()) || !ok && !isZeroLin(got) {
			t.Fatalf("FarSum(%s, %v) = %v, %v; want %v, %v", systemText(list), times, got, ok, total.lin(), wantOk)
		}
		if accepted := impl.FarOk(list, times); accepted != (wantOk && total.contradictory()) {
			t.Fatalf("FarOk(%s, %v) = %v", systemText(list), times, accepted)
		}
		switch {
		case !ok:
			failed++
		case total.contradictory():
			bad++
		default:
			done++
		}
	}
	if done < 1000 || failed < 1000 || bad < 100 {
		t.Errorf("the systems miss a case: %d combinations, %d failed, %d contradictory", done, failed, bad)
	}
}

// TestFarRunIsSound is promise 3, checked in exact numbers.
func TestFarRunIsSound(t *testing.T) {
	s := numbers(6)
	var kept [][]impl.Rat
	for range 20000 {
		list := s.system()
		vals, times, code := impl.FarRun(list)
		switch code {
		case farYes:
			checkSolution(t, list, vals)
			kept = append(kept, vals)
		case farNo:
			checkCertificate(t, list, times)
			for _, old := range kept[max(0, len(kept)-50):] {
				if impl.FarAll(list, old) {
					t.Fatalf("%s has the certificate %v and the solution %v", systemText(list), times, old)
				}
			}
		case farMuch:
		default:
			t.Fatalf("FarRun(%s): %d", systemText(list), code)
		}
	}
}

func checkSolution(t *testing.T, list []impl.Lin, vals []impl.Rat) {
	t.Helper()
	if len(vals) != linVars || !impl.FarAll(list, vals) {
		t.Fatalf("FarRun(%s) = %v", systemText(list), vals)
	}
	for _, l := range list {
		if holds, ok := exactAt(l, vals); !holds || !ok {
			t.Fatalf("FarRun(%s) = %v, which breaks %v", systemText(list), vals, l)
		}
	}
}

func checkCertificate(t *testing.T, list []impl.Lin, times []int) {
	t.Helper()
	if len(times) != len(list) || !impl.FarOk(list, times) {
		t.Fatalf("FarRun(%s) = %v", systemText(list), times)
	}
	var exact []*big.Int
	for _, n := range times {
		if n < 0 || n > coefLimit {
			t.Fatalf("FarRun(%s) = %v", systemText(list), times)
		}
		exact = append(exact, big.NewInt(int64(n)))
	}
	if total, _ := bigTotal(list, exact); !total.contradictory() {
		t.Fatalf("FarRun(%s) = %v, which is no certificate", systemText(list), times)
	}
}

// TestFarRunDecidesOneVariable compares with the bounds themselves, for all
// systems of up to three constraints of one variable from a small set.
func TestFarRunDecidesOneVariable(t *testing.T) {
	for at := range linVars {
		choice := []impl.Lin{}
		for _, coef := range []int{-2, -1, 0, 1, 2} {
			for _, bound := range []int{-2, -1, 0, 1} {
				for _, strict := range []bool{false, true} {
					coefs := make([]int, linVars)
					coefs[at] = coef
					choice = append(choice, impl.Lin{Coefs: coefs, Bound: bound, Strict: strict})
				}
			}
		}
		for i, a := range choice {
			checkOneVariable(t, []impl.Lin{a}, at)
			for j, b := range choice {
				checkOneVariable(t, []impl.Lin{a, b}, at)
				if at != i%linVars {
					continue
				}
				for _, c := range choice[j:] {
					checkOneVariable(t, []impl.Lin{a, b, c}, at)
				}
			}
		}
	}
}

func checkOneVariable(t *testing.T, list []impl.Lin, at int) {
	t.Helper()
	// Every fourth between -4 and 4 includes each bound and a number between any two.
	solvable := false
	for fourths := -16; fourths <= 16; fourths++ {
		holds := true
		for _, l := range list {
			left, right := l.Coefs[at]*fourths, 4*l.Bound
			holds = holds && (left < right || left == right && !l.Strict)
		}
		solvable = solvable || holds
	}
	_, _, code := impl.FarRun(list)
	if solvable && code != farYes || !solvable && code != farNo {
		t.Fatalf("FarRun(%s): %d; solvable: %v", systemText(list), code, solvable)
	}
}
