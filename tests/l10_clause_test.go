package tests

import (
	"fmt"
	"math"
	"slices"
	"strconv"
	"strings"
	"testing"

	"loop.example/compurgator/impl"
)

// These repeat the document's numbers, so that wrong constants of impl fail too.
const (
	markLimit   = 60
	clauseLimit = 400
	formsLimit  = 5
)

func TestClauseConstants(t *testing.T) {
	if impl.MarkMost != markLimit || impl.ClauseMost != clauseLimit || impl.FormsMost != formsLimit {
		t.Error(impl.MarkMost, impl.ClauseMost, impl.FormsMost)
	}
}

// writeClause writes any clause; the empty one is ().
func writeClause(c []int) string {
	if len(c) == 0 {
		return "()"
	}
	return writeInts(c)
}

// writeCnf writes any clauses behind the number of their variables.
func writeCnf(c impl.Cnf) string {
	var texts []string
	for _, clause := range c.List {
		texts = append(texts, writeClause(clause))
	}
	return strconv.Itoa(c.Many) + ": " + strings.Join(texts, "; ")
}

// readClause and readCnf read what these write.
func readClause(t *testing.T, text string) []int {
	t.Helper()
	var c []int
	for _, word := range strings.Fields(strings.Trim(text, "()")) {
		n, err := strconv.Atoi(word)
		if err != nil {
			t.Fatal(err)
		}
		c = append(c, n)
	}
	return c
}

func readCnf(t *testing.T, text string) impl.Cnf {
	t.Helper()
	many, rest, _ := strings.Cut(text, ": ")
	c := impl.Cnf{Many: readClause(t, many)[0]}
	for _, part := range strings.Split(rest, "; ") {
		if part != "" {
			c.List = append(c.List, readClause(t, part))
		}
	}
	if writeCnf(c) != text {
		t.Fatalf("%q is read as %q", text, writeCnf(c))
	}
	return c
}

func cnfOf(many int, list ...[]int) impl.Cnf { return impl.Cnf{Many: many, List: list} }

func isZeroCnf(c impl.Cnf) bool { return c.Many == 0 && len(c.List) == 0 }

// equalCnf compares field by field, without the function under test.
func equalCnf(a impl.Cnf, b impl.Cnf) bool {
	return a.Many == b.Many && slices.EqualFunc(a.List, b.List, slices.Equal[[]int])
}

// copyCnf is clauses in other memory.
func copyCnf(c impl.Cnf) impl.Cnf {
	other := impl.Cnf{Many: c.Many}
	for _, clause := range c.List {
		other.List = append(other.List, slices.Clone(clause))
	}
	return other
}

// variableOf is the variable of a literal of the variables from 1 to many, or 0 of any other number.
func variableOf(n int, many int) int {
	for v := 1; v <= many; v++ {
		if n == v || n == -v {
			return v
		}
	}
	return 0
}

// isClause is what the document says of ClauseOk.
func isClause(c []int, many int) bool {
	if many < 0 || many > markLimit {
		return false
	}
	for i, n := range c {
		if variableOf(n, many) == 0 || i > 0 && variableOf(n, many) <= variableOf(c[i-1], many) {
			return false
		}
	}
	return true
}

// clauseFrom is what the document says of ClauseOf.
func clauseFrom(list []int) ([]int, bool) {
	if slices.ContainsFunc(list, func(n int) bool { return variableOf(n, markLimit) == 0 }) {
		return nil, false
	}
	var c []int
	for v := 1; v <= markLimit; v++ {
		has, hasNot := slices.Contains(list, v), slices.Contains(list, -v)
		switch {
		case has && hasNot:
			return nil, false
		case has:
			c = append(c, v)
		case hasNot:
			c = append(c, -v)
		}
	}
	return c, true
}

// isTrueClause is what the document says of ClauseIs.
func isTrueClause(c []int, vals []bool) bool {
	for _, n := range c {
		for i, val := range vals {
			if val && n == i+1 || !val && n == -(i+1) {
				return true
			}
		}
	}
	return false
}

func isCnf(c impl.Cnf) bool {
	return isClause(nil, c.Many) && len(c.List) <= clauseLimit && !slices.ContainsFunc(c.List, func(clause []int) bool { return !isClause(clause, c.Many) })
}

func isTrueCnf(c impl.Cnf, vals []bool) bool {
	return len(vals) == c.Many && !slices.ContainsFunc(c.List, func(clause []int) bool { return !isTrueClause(clause, vals) })
}

// strangeMarks are no literals of MarkMost variables, or only of so many.
func strangeMarks() []int {
	list := []int{0, 61, 255, 256, 257, 258, 1<<16 - 1, 1<<32 - 1, math.MaxInt - 1, 1 << 62}
	for _, n := range append(list, strangeInts()...) {
		list = append(list, n, -n)
	}
	return append(list, math.MinInt+1)
}

// checkClause checks ClauseOk, ClauseOf and ClauseIs of any list, with few variables.
func checkClause(t *testing.T, list []int) {
	t.Helper()
	for _, many := range []int{-1, 0, 1, 2, 3, 4, 59, 60, 61, math.MinInt, math.MaxInt} {
		if got := impl.ClauseOk(list, many); got != isClause(list, many) {
			t.Errorf("ClauseOk(%v, %d) = %v", list, many, got)
		}
	}
	want, wantOk := clauseFrom(list)
	got, ok := impl.ClauseOf(list)
	if ok != wantOk || !slices.Equal(got, want) {
		t.Errorf("ClauseOf(%v) = %v, %v; want %v, %v", list, got, ok, want, wantOk)
	}
	if ok && !isClause(got, markLimit) {
		t.Errorf("ClauseOf(%v) is %v, which is no clause", list, got)
	}
	for count := range 5 {
		for _, vals := range allVals(count) {
			so := impl.ClauseIs(list, vals)
			if so != isTrueClause(list, vals) {
				t.Errorf("ClauseIs(%v, %v) = %v", list, vals, so)
			}
			if ok && so != impl.ClauseIs(got, vals) {
				t.Errorf("with %v, %v is not as true as %v", vals, list, got)
			}
		}
	}
}

// listsOf is all lists of at most so many of these numbers.
func listsOf(count int, some []int) [][]int {
	list := [][]int{nil}
	for from := 0; count > 0; count-- {
		to := len(list)
		for _, shorter := range list[from:to] {
			for _, n := range some {
				list = append(list, append(slices.Clone(shorter), n))
			}
		}
		from = to
	}
	return list
}

func TestClauseOfEachList(t *testing.T) {
	lists := listsOf(4, ints(0, 1, -1, 2, -2, 3, -3))
	if len(lists) != 1+7+49+343+2401 {
		t.Fatal(len(lists))
	}
	for _, list := range lists {
		checkClause(t, list)
	}
}

func TestClauseOk(t *testing.T) {
	for _, c := range []struct {
		text string
		many int
		want bool
	}{
		{"()", 0, true}, {"()", 1, true}, {"()", 60, true}, {"()", -1, false}, {"()", 61, false}, {"()", math.MinInt, false}, {"()", math.MaxInt, false}, {"()", 1 << 32, false}, {"()", 256, false},
		{"1", 1, true}, {"-1", 1, true}, {"1", 60, true}, {"1", 0, false}, {"-1", 0, false}, {"1", -1, false}, {"-1", -1, false}, {"1", 61, false}, {"-60", 60, true}, {"60", 60, true}, {"60", 59, false}, {"-60", 59, false}, {"61", 60, false}, {"-61", 60, false}, {"61", 61, false}, {"0", 0, false}, {"0", 60, false},
		{"1 2", 2, true}, {"-1 -2", 2, true}, {"1 -2", 2, true}, {"-1 2", 2, true}, {"1 3", 3, true}, {"-2 3", 3, true}, {"1 3", 2, false}, {"1 -3", 2, false}, {"3 1", 3, false}, {"-3 1", 3, false}, {"-1 -3", 3, true}, {"-3 -1", 3, false}, {"-2 -1 1 2", 2, false},
		{"1 1", 2, false}, {"-1 -1", 2, false}, {"1 -1", 2, false}, {"-1 1", 2, false}, {"1 2 2", 3, false}, {"1 2 -2", 3, false}, {"1 2 1", 3, false}, {"1 3 2", 3, false}, {"2 1 3", 3, false}, {"0 1", 3, false}, {"1 0", 3, false}, {"1 0 2", 3, false}, {"1 2 3 4", 4, true}, {"1 2 3 4", 3, false}, {"4 1 2 3", 4, false}, {"-1 2 -30 59 -60", 60, true},
	} {
		list := readClause(t, c.text)
		if got := impl.ClauseOk(list, c.many); got != c.want || isClause(list, c.many) != c.want {
			t.Errorf("ClauseOk(%s, %d) = %v", c.text, c.many, got)
		}
		checkClause(t, list)
	}
}

func TestClauseOf(t *testing.T) {
	for _, c := range [][2]string{
		{"()", "()"}, {"1", "1"}, {"-1", "-1"}, {"60", "60"}, {"-60", "-60"}, {"1 2 3", "1 2 3"}, {"3 2 1", "1 2 3"}, {"-3 -2 -1", "-1 -2 -3"}, {"-1 -2 -3", "-1 -2 -3"}, {"2 -3 1", "1 2 -3"}, {"-60 59 -1", "-1 59 -60"}, {"10 9 -11", "9 10 -11"},
		// Literals more than once.
		{"1 1", "1"}, {"-1 -1 -1", "-1"}, {"2 1 2", "1 2"}, {"-2 1 -2 1 -2", "1 -2"}, {"3 -1 3", "-1 3"}, {"60 60 1 60", "1 60"},
		// A literal and its negation, and what is no literal.
		{"1 -1", ""}, {"-1 1", ""}, {"60 -60", ""}, {"1 2 -1", ""}, {"1 2 -2", ""}, {"2 1 -2 3", ""}, {"-3 2 1 3", ""}, {"1 1 -1", ""}, {"0", ""}, {"1 0", ""}, {"0 1", ""}, {"1 0 2", ""}, {"61", ""}, {"-61", ""}, {"1 61", ""}, {"61 1", ""}, {"1 -61 2", ""}, {"0 0", ""}, {"1 -1 0", ""}, {"0 1 -1", ""}, {"61 -61", ""},
	} {
		list := readClause(t, c[0])
		got, ok := impl.ClauseOf(list)
		if ok != (c[1] != "") || ok && writeClause(got) != c[1] || !ok && len(got) != 0 {
			t.Errorf("ClauseOf(%s) = %s, %v", c[0], writeClause(got), ok)
		}
		checkClause(t, list)
	}
	// As many different literals as there may be, in both orders.
	var up, down []int
	for v := 1; v <= markLimit; v++ {
		up, down = append(up, v-2*v*(v%2)), append([]int{v - 2*v*(v%2)}, down...)
	}
	for _, list := range [][]int{up, down, slices.Concat(up, down), slices.Repeat(down, 10000)} {
		if got, ok := impl.ClauseOf(list); !ok || !slices.Equal(got, up) {
			t.Errorf("ClauseOf of %d literals is %v, %v", len(list), got, ok)
		}
	}
	if got, ok := impl.ClauseOf(append(slices.Repeat(down, 10000), -down[0])); ok || len(got) != 0 {
		t.Error("a literal and its negation at the end", got)
	}
}

func TestClauseIs(t *testing.T) {
	for _, c := range []struct {
		text, vals string
		want       bool
	}{
		{"()", "", false}, {"()", "1", false}, {"()", "10", false}, {"1", "1", true}, {"1", "0", false}, {"-1", "1", false}, {"-1", "0", true}, {"1", "", false}, {"-1", "", false}, {"2", "01", true}, {"2", "10", false}, {"-2", "10", true}, {"-2", "01", false},
		{"1 2", "00", false}, {"1 2", "01", true}, {"1 2", "10", true}, {"1 2", "11", true}, {"-1 -2", "11", false}, {"-1 -2", "10", true}, {"-1 2", "10", false}, {"-1 2", "00", true}, {"1 2 3", "000", false}, {"1 2 3", "001", true}, {"1 -2 3", "010", false},
		// A variable without a value, beside others.
		{"2", "1", false}, {"-2", "1", false}, {"2", "0", false}, {"-2", "0", false}, {"1 2", "1", true}, {"2 1", "1", true}, {"1 -2", "0", false}, {"-1 -2", "0", true}, {"-3", "11", false}, {"3", "11", false}, {"3 -4", "00", false},
		// Lists that are no clauses.
		{"0", "", false}, {"0", "0", false}, {"0", "1", false}, {"0 0", "11", false}, {"0 1", "1", true}, {"1 0", "1", true}, {"1 0", "0", false}, {"1 -1", "1", true}, {"1 -1", "0", true}, {"1 -1", "", false}, {"2 1", "10", true}, {"2 1", "00", false}, {"1 1", "0", false}, {"1 1", "1", true},
	} {
		var vals []bool
		for _, val := range c.vals {
			vals = append(vals, val == '1')
		}
		list := readClause(t, c.text)
		if got := impl.ClauseIs(list, vals); got != c.want || isTrueClause(list, vals) != c.want {
			t.Errorf("ClauseIs(%s, %s) = %v", c.text, c.vals, got)
		}
		checkClause(t, list)
	}
	// More values, and variables, than a clause may have.
	for _, count := range []int{60, 61, 62, 100, 1000, 70000} {
		vals := make([]bool, count)
		for _, at := range []int{0, 1, 59, 60, 61, 99, 255, 256, 999, 65535, 65536, 69999} {
			if at < count {
				vals[at] = true
			}
			if so, no := impl.ClauseIs(ints(at+1), vals), impl.ClauseIs(ints(-at-1), vals); so != (at < count) || no {
				t.Errorf("variable %d of %d values is true: %v, false: %v", at+1, count, so, no)
			}
			if at < count {
				vals[at] = false
			}
			if so, no := impl.ClauseIs(ints(0, at+1), vals), impl.ClauseIs(ints(0, -at-1), vals); so || no != (at < count) {
				t.Errorf("variable %d of %d values is true: %v, false: %v", at+1, count, so, no)
			}
		}
	}
	vals := make([]bool, 1000000)
	if impl.ClauseIs(slices.Repeat(ints(1, 2), 500000), vals) || !impl.ClauseIs(append(slices.Repeat(ints(1, 2), 500000), -1000000), vals) || impl.ClauseIs(ints(-1000001), vals) {
		t.Error("long lists")
	}
}

func TestClauseOfStrangeNumbers(t *testing.T) {
	for _, n := range strangeMarks() {
		for _, list := range [][]int{ints(n), ints(1, n), ints(n, 1), ints(1, n, 2), ints(-1, n, -n), ints(n, n)} {
			if variableOf(n, markLimit) != 0 {
				t.Fatal(n)
			}
			checkClause(t, list)
			for _, vals := range [][]bool{make([]bool, 60), slices.Repeat([]bool{true}, 60), make([]bool, 300), slices.Repeat([]bool{true}, 300)} {
				if got := impl.ClauseIs(list, vals); got != isTrueClause(list, vals) {
					t.Errorf("ClauseIs(%v, %d times %v) = %v", list, len(vals), vals[0], got)
				}
			}
		}
		for many := range 62 {
			if impl.ClauseOk(ints(n), many) {
				t.Errorf("ClauseOk(%d, %d)", n, many)
			}
		}
		for _, list := range [][]int{nil, ints(1), ints(-1), ints(n), ints(-n)} {
			if many := n; (many < 0 || many > markLimit) && impl.ClauseOk(list, many) {
				t.Errorf("ClauseOk(%v, %d)", list, many)
			}
		}
	}
	for many := range 63 {
		for v := 1; v <= 62; v++ {
			want := v <= many && many <= markLimit
			if impl.ClauseOk(ints(v), many) != want || impl.ClauseOk(ints(-v), many) != want {
				t.Errorf("variable %d of %d", v, many)
			}
		}
	}
}

// checkCnf checks each function that takes clauses, for any clauses, with some lists of literals.
func checkCnf(t *testing.T, c impl.Cnf) {
	t.Helper()
	ok := isCnf(c)
	if impl.CnfOk(c) != ok {
		t.Errorf("CnfOk of %.300s is %v", writeCnf(c), !ok)
	}
	for _, count := range []int{0, 1, 2, 3, 60, 61, c.Many, c.Many - 1, c.Many + 1, c.Many + 256} {
		if count < 0 || count > 1000 {
			continue
		}
		for _, vals := range [][]bool{make([]bool, count), slices.Repeat([]bool{true}, count)} {
			if got := impl.CnfIs(c, vals); got != (ok && isTrueCnf(c, vals)) {
				t.Errorf("CnfIs(%.300s, %d times %v) = %v", writeCnf(c), count, vals, got)
			}
		}
	}
	for _, list := range [][]int{nil, ints(1), ints(-1), ints(2, -1), ints(0), ints(c.Many), ints(-c.Many), ints(c.Many + 1), ints(-c.Many - 1), ints(1, 1), ints(1, -1)} {
		checkUnits(t, c, list)
		checkRup(t, c, list)
	}
}

// propagated is what the document says of CnfUnits, step by step.
func propagated(c impl.Cnf, put []int) ([]int, bool) {
	if !isCnf(c) {
		return nil, false
	}
	for i, n := range put {
		if variableOf(n, c.Many) == 0 || slices.Contains(put[:i], n) || slices.Contains(put[:i], -n) {
			return nil, false
		}
	}
	assigned := slices.Clone(put)
	for {
		next := 0
		for _, clause := range c.List {
			var open []int
			isTrue := false
			for _, n := range clause {
				isTrue = isTrue || slices.Contains(assigned, n)
				if !slices.Contains(assigned, n) && !slices.Contains(assigned, -n) {
					open = append(open, n)
				}
			}
			if !isTrue && len(open) == 0 {
				return assigned, true
			}
			if !isTrue && len(open) == 1 {
				next = open[0]
				break
			}
		}
		if next == 0 {
			return assigned, false
		}
		assigned = append(assigned, next)
	}
}

// checkUnits checks CnfUnits by the words of the document.
func checkUnits(t *testing.T, c impl.Cnf, put []int) ([]int, bool) {
	t.Helper()
	want, wantConflict := propagated(c, put)
	got, conflict := impl.CnfUnits(c, put)
	if !slices.Equal(got, want) || conflict != wantConflict {
		t.Errorf("CnfUnits(%.600s, %.200v) = %.300v, %v; want %.300v, %v", writeCnf(c), put, got, conflict, want, wantConflict)
	}
	return got, conflict
}

// negations is the negated literals, in the same order.
func negations(list []int) []int {
	var negated []int
	for _, n := range list {
		negated = append(negated, -n)
	}
	return negated
}

// isRup is what the document says of CnfRup.
func isRup(c impl.Cnf, clause []int) bool {
	if !isCnf(c) || !isClause(clause, c.Many) {
		return false
	}
	_, conflict := propagated(c, negations(clause))
	return conflict
}

// checkRup checks CnfRup by the words of the document.
func checkRup(t *testing.T, c impl.Cnf, clause []int) bool {
	t.Helper()
	got := impl.CnfRup(c, clause)
	if got != isRup(c, clause) {
		t.Errorf("CnfRup(%.600s, %.200v) = %v", writeCnf(c), clause, got)
	}
	return got
}

func TestCnfOk(t *testing.T) {
	for _, c := range []struct {
		text string
		want bool
	}{
		{"0: ", true}, {"1: ", true}, {"60: ", true}, {"-1: ", false}, {"61: ", false}, {"256: ", false}, {"-256: ", false},
		{"0: ()", true}, {"1: ()", true}, {"60: (); ()", true}, {"-1: ()", false}, {"61: ()", false}, {"2: 1; (); -2", true}, {"2: (); 1", true},
		{"1: 1", true}, {"1: -1; 1; 1", true}, {"0: 1", false}, {"0: -1", false}, {"1: 2", false}, {"1: -2", false}, {"1: 0", false}, {"60: 60", true}, {"60: -60", true}, {"60: 61", false}, {"60: -61", false}, {"61: 61", false}, {"61: 1", false}, {"-1: 1", false}, {"-1: -1", false},
		{"3: 1 2 3; -1 -2; 3", true}, {"3: 1 2 3; -1 -2; 4", false}, {"3: 4; -1 -2; 3", false}, {"3: 1; -1 -4; 3", false}, {"3: 1 2 3; 2 1; 3", false}, {"3: 1 2 3; 1; 3 2", false}, {"3: 1 3; 1 1", false}, {"3: 1 3; 1 -1", false}, {"3: 1 0; 1", false}, {"3: 1; 0", false}, {"3: 1; 2 3; 1; 0 1", false}, {"3: 1; 1; 1; 1", true},
	} {
		cnf := readCnf(t, c.text)
		if impl.CnfOk(cnf) != c.want || isCnf(cnf) != c.want {
			t.Errorf("CnfOk of %s is not %v", c.text, c.want)
		}
		checkCnf(t, cnf)
	}
}

// TestCnfLimits has as many variables and clauses as there may be, and one more.
func TestCnfLimits(t *testing.T) {
	var longest []int
	for v := 1; v <= markLimit; v++ {
		longest = append(longest, v-2*v*(v%3%2))
	}
	for _, clause := range [][]int{nil, ints(1), ints(-1), ints(1, -2), longest} {
		for _, count := range []int{0, 1, 256, 257, 399, 400, 401, 402, 656, 800, 65536, 65537, 100000} {
			for _, many := range []int{-1, 0, 1, 2, 59, 60, 61} {
				c := cnfOf(many, slices.Repeat([][]int{clause}, count)...)
				want := count <= clauseLimit && isClause(nil, many) && (count == 0 || isClause(clause, many))
				if impl.CnfOk(c) != want {
					t.Errorf("CnfOk of %d variables and %d times %v is %v", many, count, clause, !want)
				}
				if trail, conflict := impl.CnfUnits(c, nil); !want && (len(trail) > 0 || conflict) || want && conflict != (count > 0 && len(clause) == 0) {
					t.Errorf("CnfUnits of %d variables and %d times %v is %v, %v", many, count, clause, trail, conflict)
				}
				if impl.CnfRup(c, nil) != (want && count > 0 && len(clause) == 0) {
					t.Errorf("CnfRup of %d variables and %d times %v", many, count, clause)
				}
				for _, val := range []bool{false, true} {
					vals := slices.Repeat([]bool{val}, max(many, 0))
					if impl.CnfIs(c, vals) != (want && (count == 0 || isTrueClause(clause, vals))) {
						t.Errorf("CnfIs of %d variables and %d times %v, all %v", many, count, clause, val)
					}
				}
			}
		}
	}
	// The last clause counts as the others do.
	for _, last := range [][]int{nil, ints(2), ints(0), ints(61), ints(2, 1)} {
		for _, count := range []int{398, 399, 400} {
			c := cnfOf(2, append(slices.Repeat([][]int{ints(1)}, count), last)...)
			checkCnf(t, c)
			if impl.CnfOk(c) != (count < clauseLimit && isClause(last, 2)) {
				t.Errorf("%d clauses and %v", count, last)
			}
		}
	}
	for _, n := range strangeMarks() {
		for _, c := range []impl.Cnf{cnfOf(3, ints(n)), cnfOf(60, ints(1), ints(2, n)), cnfOf(60, ints(n, 2), ints(1)), cnfOf(n), cnfOf(n, ints(1)), cnfOf(n, nil), cnfOf(n, ints(n)), cnfOf(n, ints(-n))} {
			checkCnf(t, c)
		}
		for _, put := range [][]int{ints(n), ints(1, n), ints(n, 1), ints(1, n, 2), ints(n, -n)} {
			for _, c := range []impl.Cnf{cnfOf(60), cnfOf(60, ints(1), ints(-1)), cnfOf(60, nil), cnfOf(3, ints(1, 2), ints(-2, 3))} {
				checkUnits(t, c, put)
				checkRup(t, c, put)
				if trail, conflict := impl.CnfUnits(c, put); len(trail) > 0 || conflict || impl.CnfRup(c, put) {
					t.Errorf("%v is taken", put)
				}
			}
		}
	}
}

func TestCnfIs(t *testing.T) {
	for _, c := range [][2]string{
		{"0: ", "1"}, {"0: ()", "0"}, {"1: ", "11"}, {"1: ()", "00"}, {"1: 1", "01"}, {"1: -1", "10"}, {"1: 1; -1", "00"}, {"1: 1; ()", "00"}, {"1: (); 1", "00"}, {"1: 1; 1", "01"},
		{"2: ", "1111"}, {"2: 1 2", "0111"}, {"2: 1 2; -1 -2", "0110"}, {"2: 1; 2", "0001"}, {"2: -1; 2", "0100"}, {"2: 2", "0101"}, {"2: -1 2", "1101"}, {"2: 1 2; -1 2; 1 -2; -1 -2", "0000"}, {"2: 1 2; (); 1", "0000"},
		{"3: 1 2 3", "01111111"}, {"3: 1 2; 2 3", "00110111"}, {"3: -1 3; -2 3; 1 2 -3; 3", "00010101"}, {"3: 1; -2; 3", "00000100"}, {"3: -1 2; -2 3; 1 -3", "10000001"},
	} {
		cnf, got := readCnf(t, c[0]), ""
		for _, vals := range allVals(cnf.Many) {
			so := impl.CnfIs(cnf, vals)
			got += map[bool]string{false: "0", true: "1"}[so]
			if so != isTrueCnf(cnf, vals) || impl.CnfIs(cnf, append(vals, so)) || len(vals) > 0 && impl.CnfIs(cnf, vals[1:]) {
				t.Errorf("CnfIs(%s, %v) = %v", c[0], vals, so)
			}
		}
		if got != c[1] {
			t.Errorf("%s is so: %s; want %s", c[0], got, c[1])
		}
		checkCnf(t, cnf)
	}
}

// unitCases are clauses, literals that are put, and what follows of them; a mark ! tells that there is a conflict.
func unitCases() [][3]string {
	return [][3]string{
		// No clauses, and the empty one, which counts as soon as no clause before it does.
		{"0: ", "()", "()"}, {"0: ()", "()", "() !"}, {"0: (); ()", "()", "() !"}, {"3: ", "()", "()"}, {"3: ", "2", "2"}, {"3: ", "3 -1 2", "3 -1 2"}, {"1: ()", "()", "() !"}, {"1: ()", "1", "1 !"}, {"3: ()", "2 -1", "2 -1 !"}, {"1: (); 1", "()", "() !"}, {"1: 1; ()", "()", "1 !"}, {"2: 1 2; (); 2", "()", "() !"}, {"2: 1; 2; ()", "()", "1 2 !"}, {"2: 1; (); 2", "()", "1 !"}, {"2: 1 2; ()", "-1", "-1 2 !"}, {"2: 1 2; ()", "1", "1 !"},
		// One literal.
		{"1: 1", "()", "1"}, {"1: -1", "()", "-1"}, {"1: 1", "1", "1"}, {"1: 1", "-1", "-1 !"}, {"1: -1", "1", "1 !"}, {"2: 2; 1", "()", "2 1"}, {"2: 1; 2", "()", "1 2"}, {"2: 1; 1; 1", "()", "1"}, {"2: 2", "1", "1 2"}, {"2: -2", "1", "1 -2"}, {"1: 1; -1", "()", "1 !"}, {"1: -1; 1", "()", "-1 !"}, {"2: 1; -1; 2", "()", "1 !"}, {"2: 1; 2; -1", "()", "1 2 !"}, {"2: 2; 1; -1; -2", "()", "2 1 !"}, {"60: 60; -59; 1", "()", "60 -59 1"},
		// Nothing follows of two unassigned literals, or of a true one.
		{"2: 1 2", "()", "()"}, {"2: -1 -2", "()", "()"}, {"3: 1 2", "3", "3"}, {"3: 1 2", "-3", "-3"}, {"2: 1 2", "1", "1"}, {"2: 1 2", "2", "2"}, {"2: 1 -2", "-2", "-2"}, {"2: 1 2", "1 -2", "1 -2"}, {"2: 1 2", "1 2", "1 2"}, {"3: 1 2 3", "-1", "-1"}, {"3: 1 2 3", "-2", "-2"}, {"3: 1 2 3", "-3", "-3"}, {"3: 1 2 3", "-1 2", "-1 2"}, {"3: 1 2 3", "2 -1", "2 -1"}, {"3: 1 2 3", "-1 -3 2", "-1 -3 2"}, {"4: 1 2 3 4", "-2 -3", "-2 -3"}, {"4: 1 2 3 4", "-4 -1 2", "-4 -1 2"},
		// One unassigned literal, at each place.
		{"2: 1 2", "-1", "-1 2"}, {"2: 1 2", "-2", "-2 1"}, {"2: -1 -2", "1", "1 -2"}, {"2: -1 -2", "2", "2 -1"}, {"2: 1 -2", "-1", "-1 -2"}, {"3: 1 2 3", "-1 -2", "-1 -2 3"}, {"3: 1 2 3", "-2 -1", "-2 -1 3"}, {"3: 1 2 3", "-1 -3", "-1 -3 2"}, {"3: 1 2 3", "-3 -1", "-3 -1 2"}, {"3: 1 2 3", "-2 -3", "-2 -3 1"}, {"3: 1 2 3", "-3 -2", "-3 -2 1"}, {"5: 1 2 3 4 5", "-5 -3 -1 -2", "-5 -3 -1 -2 4"}, {"5: 1 2 3 4 5", "-5 -4 -3 -2", "-5 -4 -3 -2 1"}, {"5: 1 2 3 4 5", "-1 -2 -3 -4", "-1 -2 -3 -4 5"}, {"5: 1 -2 3 -4 5", "4 -1 2 -5", "4 -1 2 -5 3"},
		// Falsified from the start.
		{"2: 1 2", "-1 -2", "-1 -2 !"}, {"2: 1 2", "-2 -1", "-2 -1 !"}, {"3: 1 2 3", "-3 -1 -2", "-3 -1 -2 !"}, {"3: 3; 1 2", "-1 -2", "-1 -2 3 !"}, {"3: 1 2; 3", "-1 -2", "-1 -2 !"}, {"3: 1 3; 1 2", "-1 -2", "-1 -2 3 !"}, {"3: 1 2; 1 3", "-1 -2", "-1 -2 !"}, {"4: -1; 3; 4", "1", "1 !"}, {"4: 3; -1; 4", "1", "1 3 !"}, {"4: 3; 4; -1", "1", "1 3 4 !"},
		// Of several, the first one counts.
		{"3: 1 3; 1 2", "-1", "-1 3 2"}, {"3: 1 2; 1 3", "-1", "-1 2 3"}, {"3: 2 3; 1 2; 1 3", "-1", "-1 2 3"}, {"4: 1 4; 1 3; 1 2", "-1", "-1 4 3 2"}, {"3: 1 2; 1 -2", "-1", "-1 2 !"}, {"3: 1 -2; 1 2", "-1", "-1 -2 !"}, {"3: 1 2; 1 2", "-1", "-1 2"}, {"3: 1 2; 1 -2; 1 3", "-1", "-1 2 !"}, {"3: 1 2; 1 3; 1 -2", "-1", "-1 2 3 !"}, {"4: 1 2; 1 -2; 3 4", "-1 -3", "-1 -3 2 !"}, {"4: 3 4; 1 2; 1 -2", "-1 -3", "-1 -3 4 2 !"}, {"4: 1 2; 3 4; 1 -2", "-1 -3", "-1 -3 2 4 !"}, {"4: 1 2; 3 4", "-3 -1", "-3 -1 2 4"},
		// An earlier clause, once something is derived by a later one.
		{"3: -2 3; 2", "()", "2 3"}, {"4: -2 3; -2 4; 2", "()", "2 3 4"}, {"4: -2 3; 2; -2 4", "()", "2 3 4"}, {"4: -2 3; 2; 4", "()", "2 3 4"}, {"4: 2; 4; -2 3", "()", "2 4 3"}, {"4: -3 4; -2 3; 1 2; 1 -2", "-1", "-1 2 3 4 !"}, {"4: 1 -2; -3 4; -2 3; 1 2", "-1", "-1 -2 !"}, {"4: 1 2; -2 3; -3 4; 1 -4", "-1", "-1 2 3 4 !"}, {"5: -4 5; -3 4; -2 3; -1 2; 1", "()", "1 2 3 4 5"}, {"5: 1; -1 2; -2 3; -3 4; -4 5", "()", "1 2 3 4 5"}, {"5: -2 3; 1; -4 5; -1 2; -3 4", "()", "1 2 3 4 5"}, {"5: -4 5; -2 3; -1 4; -1 2; 1", "()", "1 4 5 2 3"},
		// A conflict on the way.
		{"3: -1 2; -2 3; -1 -3", "1", "1 2 3 !"}, {"3: -1 2; -2 3; -1 -3", "-3", "-3 -2 -1"}, {"3: -1 2; -2 3; -1 -3", "()", "()"}, {"3: -1 -3; -1 2; -2 3", "1", "1 -3 2 !"}, {"3: -1 2; -1 -2", "1", "1 2 !"}, {"4: 1 2; 1 -2 3; 1 -2 -3 4; 1 -2 -3 -4", "-1", "-1 2 3 4 !"}, {"4: 1 -2 -3 -4; 1 -2 -3 4; 1 -2 3; 1 2", "-1", "-1 2 3 -4 !"}, {"3: 1 2 3; -1; -2; -3", "()", "-1 -2 3 !"}, {"3: -1; -2; -3; 1 2 3", "()", "-1 -2 -3 !"}, {"3: -3; -2; -1; 1 2 3", "()", "-3 -2 -1 !"},
		// A literal that is put, and in a clause too.
		{"2: 1; 1 2", "1", "1"}, {"2: 1; -1 2", "1", "1 2"}, {"2: -1 2; 1", "1 2", "1 2"}, {"2: 2; 1", "1", "1 2"}, {"3: 1; 2; 3", "2", "2 1 3"}, {"3: 1; 2; 3", "3 2 1", "3 2 1"}, {"3: 1; 2; 3", "-2", "-2 1 !"},
		// What may not be put.
		{"2: 1", "0", ""}, {"2: 1", "3", ""}, {"2: 1", "-3", ""}, {"2: 1", "1 1", ""}, {"2: 1", "-1 -1", ""}, {"2: 1", "1 -1", ""}, {"2: 1", "-1 1", ""}, {"2: 1", "1 2 1", ""}, {"2: 1", "1 2 -1", ""}, {"2: 1", "1 2 -2", ""}, {"2: 1", "2 0", ""}, {"2: 1", "1 2 3", ""}, {"0: ", "1", ""}, {"0: ()", "1", ""}, {"0: ()", "0", ""}, {"2: ()", "1 1", ""}, {"2: -1; 2", "1 1", ""}, {"60: ", "61", ""}, {"60: ", "60 -59", "60 -59"},
		// Clauses that are not valid.
		{"-1: ", "()", ""}, {"61: ", "()", ""}, {"61: ()", "1", ""}, {"1: 2", "()", ""}, {"1: 0", "()", ""}, {"2: 2 1", "-1", ""}, {"2: 1 1", "()", ""}, {"2: 1; 1 -1", "()", ""}, {"2: (); 3", "()", ""},
	}
}

func TestCnfUnits(t *testing.T) {
	for _, c := range unitCases() {
		cnf, put := readCnf(t, c[0]), readClause(t, c[1])
		got, conflict := checkUnits(t, cnf, put)
		want, isConflict := strings.CutSuffix(c[2], " !")
		if c[2] == "" {
			want = "()"
		}
		if writeClause(got) != want || conflict != isConflict {
			t.Errorf("CnfUnits(%s, %s) = %s, %v; want %s", c[0], c[1], writeClause(got), conflict, c[2])
		}
		checkCnf(t, cnf)
	}
}

func TestCnfRup(t *testing.T) {
	for _, c := range []struct {
		cnf, clause string
		want        bool
	}{
		// The empty clause: what is falsified needs no decision.
		{"0: ()", "()", true}, {"0: ", "()", false}, {"1: 1; -1", "()", true}, {"1: 1", "()", false}, {"2: 1 2; -1 2; 1 -2; -1 -2", "()", false}, {"2: 1 2; -1 2; 1 -2; -1 -2; 2", "()", true}, {"3: 1; -1 2; -2 3; -3", "()", true},
		// With an empty clause, each clause.
		{"2: ()", "1", true}, {"2: ()", "-1 2", true}, {"2: 1 2; ()", "-1", true}, {"2: ()", "3", false}, {"2: ()", "2 1", false},
		// In the list already, or weaker, or stronger.
		{"2: 1 2", "1 2", true}, {"2: 1 2", "1", false}, {"2: 1 2", "2", false}, {"2: 1", "1 2", true}, {"2: 1", "1", true}, {"3: 1 2", "1 2 3", true}, {"3: 1 2", "1 2 -3", true}, {"3: 1 2", "1 3", false}, {"2: 1 2", "-1 -2", false}, {"2: 1 2", "-1", false}, {"2: -1", "-1 -2", true},
		// Derived.
		{"3: -1 2; -2 3", "-1 3", true}, {"3: -1 2; -2 3", "1 3", false}, {"3: -1 2; -2 3", "-1 -3", false}, {"3: -1 2; -2 3; -1 -3", "-1", true}, {"3: -1 2; -2 3; -1 -3", "1", false}, {"3: -1 2; -2 3; -1 -3", "()", false}, {"2: 1 2; -1 2; 1 -2; -1 -2", "1", true}, {"2: 1 2; -1 2; 1 -2; -1 -2", "-2", true}, {"2: 1 2; -1 2", "2", true}, {"2: 1 2; -1 2", "1", false}, {"2: 1 2; -1 2", "-2", false}, {"1: 1; -1", "1", true}, {"1: 1; -1", "-1", true},
		// A consequence that unit propagation does not reach.
		{"4: 1 2 3; 1 2 -3; 1 -2 3; 1 -2 -3", "1", false}, {"4: 1 2 3; 1 2 -3; 1 -2 3; 1 -2 -3", "1 2", true}, {"3: 1 2; -1 2; 2 3; 2 -3", "2 3", true}, {"4: 3 4; -3 4; 3 -4; -3 -4", "1", false},
		// What is no clause, or no clauses.
		{"2: 1", "1 1", false}, {"2: 1", "1 -1", false}, {"2: 1", "-1 1", false}, {"2: 1 2", "2 1", false}, {"2: 1", "0", false}, {"2: 1", "1 3", false}, {"2: 1", "-3", false}, {"0: ()", "1", false}, {"60: 60", "60", true}, {"60: 60", "61", false}, {"61: 1", "1", false}, {"61: ()", "()", false}, {"-1: ()", "()", false}, {"2: 1; 3", "1", false}, {"2: (); 2 1", "1", false}, {"2: 1 1", "1", false},
	} {
		cnf := readCnf(t, c.cnf)
		if got := checkRup(t, cnf, readClause(t, c.clause)); got != c.want {
			t.Errorf("CnfRup(%s, %s) = %v", c.cnf, c.clause, got)
		}
		checkCnf(t, cnf)
	}
}

// checkConsequences is the second half of promise 10: whatever satisfies the clauses and the literals that are put also satisfies the ones that are derived, and nothing does where there is a conflict. The same holds for a clause that is CnfRup. It tells how many truth values there are.
func checkConsequences(t *testing.T, c impl.Cnf, put []int) int {
	t.Helper()
	negated := negations(put)
	slices.SortFunc(negated, func(a int, b int) int { return max(a, -a) - max(b, -b) })
	trail, conflict := impl.CnfUnits(c, put)
	rup := impl.CnfRup(c, negated)
	count := 0
	for _, vals := range allVals(c.Many) {
		if !impl.CnfIs(c, vals) {
			continue
		}
		if rup && !impl.ClauseIs(negated, vals) {
			t.Errorf("%s follows of %s, but not with %v", writeClause(negated), writeCnf(c), vals)
		}
		if slices.ContainsFunc(put, func(n int) bool { return !impl.ClauseIs(ints(n), vals) }) {
			continue
		}
		count++
		if conflict || slices.ContainsFunc(trail, func(n int) bool { return !impl.ClauseIs(ints(n), vals) }) {
			t.Errorf("CnfUnits(%s, %v) = %v, %v, but there is %v", writeCnf(c), put, trail, conflict, vals)
		}
	}
	return count
}

// twoVariableLists is all lists of at most three clauses of two variables.
func twoVariableLists() [][][]int {
	clauses := [][]int{nil}
	for _, c := range listsOf(2, ints(1, -1, 2, -2)) {
		if len(c) > 0 && isClause(c, 2) {
			clauses = append(clauses, c)
		}
	}
	lists := [][][]int{nil}
	for from := 0; len(lists[from]) < 3; from++ {
		for _, c := range clauses {
			lists = append(lists, append(slices.Clone(lists[from]), c))
		}
	}
	return lists
}

// TestCnfOfEachList has all lists of at most three clauses of two variables, with all literals that may be put, and all clauses.
func TestCnfOfEachList(t *testing.T) {
	puts, lists := listsOf(2, ints(1, -1, 2, -2)), twoVariableLists()
	if len(puts) != 21 || len(lists) != 1+9+81+729 {
		t.Fatal(len(puts), len(lists))
	}
	for _, list := range lists {
		c := cnfOf(2, list...)
		for _, put := range puts {
			checkUnits(t, c, put)
			checkRup(t, c, put)
			checkConsequences(t, c, put)
		}
		for _, vals := range allVals(2) {
			if impl.CnfIs(c, vals) != isTrueCnf(c, vals) {
				t.Errorf("CnfIs(%s, %v)", writeCnf(c), vals)
			}
		}
	}
}

// clause makes up a clause of so many literals or less.
func (s *numbers) clause(many int, count int) []int {
	var list []int
	for range count {
		if many > 0 {
			v := 1 + s.below(many)
			if !slices.Contains(list, v) && !slices.Contains(list, -v) {
				list = append(list, v-2*v*s.below(2))
			}
		}
	}
	slices.SortFunc(list, func(a int, b int) int { return max(a, -a) - max(b, -b) })
	return list
}

// cnf makes up clauses, of which most have about so many literals.
func (s *numbers) cnf(many int, count int, long int) impl.Cnf {
	c := impl.Cnf{Many: many}
	for range count {
		length := max(1, long+s.around(1))
		switch s.below(40) {
		case 0:
			length = s.below(2)
		case 1:
			length = 2 * long
		}
		c.List = append(c.List, s.clause(many, length))
	}
	return c
}

// truths makes up truth values.
func (s *numbers) truths(count int) []bool {
	vals := make([]bool, count)
	for i := range vals {
		vals[i] = s.below(2) == 0
	}
	return vals
}

// put makes up literals that may be put, in any order.
func (s *numbers) put(many int, count int) []int {
	put := s.clause(many, count)
	for i := range put {
		j := s.below(i + 1)
		put[i], put[j] = put[j], put[i]
	}
	return put
}

// spoilMarks changes a list of literals, mostly so that it is no clause.
func (s *numbers) spoilMarks(list []int, many int) []int {
	list = slices.Clone(list)
	at := s.below(len(list) + 1)
	if at == len(list) {
		list = append(list, s.around(many+1))
	}
	switch n := list[s.below(len(list))]; s.below(6) {
	case 0:
		list[at] = 0
	case 1:
		list[at] = many + 1 - 2*(many+1)*s.below(2)
	case 2:
		list[at] = n
	case 3:
		list[at] = -n
	case 4:
		slices.Reverse(list)
	case 5:
		list[at] = strangeMarks()[s.below(len(strangeMarks()))]
	}
	return list
}

// satisfied changes clauses so that these truth values satisfy most of them.
func (s *numbers) satisfied(c impl.Cnf, vals []bool) {
	for _, clause := range c.List {
		if len(clause) > 0 && !isTrueClause(clause, vals) && s.below(60) > 0 {
			clause[s.below(len(clause))] *= -1
		}
	}
}

// TestCnfUnitsIsAsDefined compares made-up clauses with the chapter by its words.
func TestCnfUnitsIsAsDefined(t *testing.T) {
	s := numbers(10)
	found := map[string]int{}
	for range 6000 {
		many := []int{s.below(8), 5 + s.below(10), s.below(markLimit + 1), markLimit}[s.below(4)]
		long := 1 + s.below(4)
		c := s.cnf(many, s.below(1+3*many), long)
		vals := s.truths(many)
		if s.below(3) > 0 {
			s.satisfied(c, vals)
		}
		put := s.put(many, s.below(2+many/(5-long)))
		if s.below(12) == 0 && len(c.List) > 0 {
			at := s.below(len(c.List))
			c.List[at] = s.spoilMarks(c.List[at], many)
		}
		if s.below(12) == 0 {
			put = s.spoilMarks(put, many)
		}
		trail, conflict := checkUnits(t, c, put)
		for range 3 {
			rup := checkRup(t, c, s.clause(many, s.below(5)))
			found["rup "+strconv.FormatBool(rup)]++
		}
		if impl.CnfOk(c) != isCnf(c) {
			t.Errorf("CnfOk of %s", writeCnf(c))
		}
		for _, vals := range [][]bool{vals, s.truths(many)} {
			so := impl.CnfIs(c, vals)
			if so != (isCnf(c) && isTrueCnf(c, vals)) {
				t.Errorf("CnfIs(%s, %v) = %v", writeCnf(c), vals, so)
			}
			found["is "+strconv.FormatBool(so)]++
		}
		found["valid "+strconv.FormatBool(isCnf(c))]++
		found["conflict "+strconv.FormatBool(conflict)]++
		found["derived "+strconv.Itoa(min(3, (max(0, len(trail)-len(put))+4)/5))]++
	}
	for what, least := range map[string]int{"rup true": 2000, "rup false": 5000, "is true": 1000, "is false": 5000, "valid false": 200, "valid true": 4000, "conflict true": 1000, "conflict false": 2000, "derived 0": 500, "derived 1": 500, "derived 2": 200, "derived 3": 200} {
		if found[what] < least {
			t.Errorf("the clauses miss the case %s: %v", what, found)
		}
	}
}

// TestCnfUnitsDerivesConsequences holds the second half of promise 10 for made-up clauses.
func TestCnfUnitsDerivesConsequences(t *testing.T) {
	s := numbers(100)
	some, none := 0, 0
	for range 3000 {
		many := 1 + s.below(7)
		c := s.cnf(many, s.below(2+2*many), 1+s.below(3))
		if count := checkConsequences(t, c, s.put(many, s.below(4))); count > 0 {
			some++
		} else {
			none++
		}
	}
	if some < 500 || none < 500 {
		t.Error(some, none)
	}
}

// TestCnfUnitsOfLongChains derives as many literals as there may be variables, from as many clauses as there may be.
func TestCnfUnitsOfLongChains(t *testing.T) {
	s := numbers(1000)
	for _, many := range []int{2, 59, markLimit} {
		for range 8 {
			// Each literal of the chain follows of the one before, and of all before.
			order := s.put(many, 50*many)
			if len(order) != many {
				t.Fatal(order)
			}
			var list [][]int
			for i, n := range order {
				pair, all := ints(n), ints(n)
				for at, before := range order[:i] {
					all = append(all, -before)
					if at == i-1 {
						pair = append(pair, -before)
					}
				}
				for _, clause := range [][]int{pair, all} {
					clause, _ = clauseFrom(clause)
					list = append(list, clause)
				}
			}
			for i := range list {
				j := s.below(i + 1)
				list[i], list[j] = list[j], list[i]
			}
			for _, extra := range [][][]int{nil, {nil}, slices.Repeat([][]int{ints(order[many-1])}, clauseLimit-len(list)), slices.Repeat([][]int{ints(-order[many-1])}, clauseLimit-len(list))} {
				c := cnfOf(many, slices.Concat(list, extra)...)
				checkUnits(t, c, nil)
				checkUnits(t, c, order[:many/2])
				checkUnits(t, c, ints(-order[many-1]))
				checkUnits(t, c, ints(-order[0]))
				checkRup(t, c, ints(order[many-1]))
				checkRup(t, c, ints(-order[many-1]))
				checkRup(t, c, nil)
				if trail, conflict := impl.CnfUnits(c, nil); len(extra) == 0 && (!slices.Equal(trail, order) || conflict) {
					t.Errorf("%v, %v; want %v", trail, conflict, order)
				}
			}
		}
	}
	if trail, conflict := impl.CnfUnits(cnfOf(markLimit), slices.Repeat(ints(1, 2, 3), 1000000)); len(trail) > 0 || conflict {
		t.Error("a long list is put", len(trail), conflict)
	}
}

// readForms reads formulas that the test itself needs.
func readForms(t *testing.T, text string) []impl.Form {
	t.Helper()
	var list []impl.Form
	for _, part := range strings.Split(text, "; ") {
		if part != "" {
			list = append(list, readForm(t, part))
		}
	}
	return list
}

func writeForms(list []impl.Form) string {
	var texts []string
	for _, f := range list {
		texts = append(texts, writeForm(f))
	}
	return strings.Join(texts, "; ")
}

// atomsOf is the atoms of formulas with an end.
func atomsOf(list []impl.Form) []impl.Atom {
	var atoms []impl.Atom
	for _, f := range list {
		atoms = atomsIn(f, atoms)
	}
	return atoms
}

// areForms is what the document asks of formulas, whatever the signature is.
func areForms(list []impl.Form) bool {
	return len(list) <= formsLimit && !slices.ContainsFunc(list, func(f impl.Form) bool { return !isForm(f) }) && len(atomsOf(list)) <= atomsLimit
}

// pairClauses is the table of the document.
var pairClauses = map[int]string{
	formAnd: "-v a; -v b; v -a -b",
	formOr:  "v -a; v -b; -v a b",
	formImp: "v a; v -b; -v -a b",
	formIff: "-v -a b; -v a -b; v a b; v -a -b",
}

// cnfBuilder translates formulas by the words of the document.
type cnfBuilder struct {
	atoms []impl.Atom
	cnf   impl.Cnf
	pairs []impl.Form // of which each has a variable of its own
}

// literal is that of a formula.
func (b *cnfBuilder) literal(f impl.Form) int {
	switch f.Kind {
	case formLit:
		n := placeOf(b.atoms, f.Lit.Atom) + 1
		if f.Lit.No {
			return -n
		}
		return n
	case formNot:
		return -b.literal(f.Kids[0])
	}
	values := map[string]int{}
	values["a"] = b.literal(f.Kids[0])
	values["b"] = b.literal(f.Kids[1])
	b.cnf.Many++
	values["v"] = b.cnf.Many
	b.pairs = append(b.pairs, f)
	for _, part := range strings.Split(pairClauses[f.Kind], "; ") {
		var list []int
		for _, word := range strings.Fields(part) {
			if name, isNo := strings.CutPrefix(word, "-"); isNo {
				list = append(list, -values[name])
			} else {
				list = append(list, values[name])
			}
		}
		b.add(list)
	}
	return values["v"]
}

func (b *cnfBuilder) add(list []int) {
	if c, ok := clauseFrom(list); ok {
		b.cnf.List = append(b.cnf.List, c)
	}
}

func builtFrom(list []impl.Form) *cnfBuilder {
	b := &cnfBuilder{atoms: atomsOf(list)}
	b.cnf.Many = len(b.atoms)
	for _, f := range list {
		b.add(ints(b.literal(f)))
	}
	return b
}

// checkForms checks what is so of formulas with an end under each signature: their atoms, their clauses and what is true with each truth value of the atoms.
func checkForms(t *testing.T, list []impl.Form) {
	t.Helper()
	if !areForms(list) {
		checkNoForms(t, "invalid ones", 0, list)
		return
	}
	b := builtFrom(list)
	text, atoms := writeForms(list), impl.FormsAtoms(list)
	if !slices.EqualFunc(atoms, b.atoms, equalAtom) {
		t.Errorf("FormsAtoms of %s is %s; want %s", text, writeAtoms(atoms), writeAtoms(b.atoms))
	}
	c := impl.CnfOf(list)
	if !equalCnf(c, b.cnf) {
		t.Errorf("CnfOf of %s is %s; want %s", text, writeCnf(c), writeCnf(b.cnf))
	}
	if !impl.CnfOk(c) || !isCnf(c) {
		t.Errorf("CnfOf of %s is %s, which is not valid", text, writeCnf(c))
	}
	for _, vals := range allVals(len(b.atoms)) {
		want := slices.Clone(vals)
		for _, f := range b.pairs {
			want = append(want, isSo(f, b.atoms, vals))
		}
		got := impl.CnfVals(list, vals)
		if !slices.Equal(got, want) || len(got) != c.Many {
			t.Errorf("CnfVals(%s, %v) = %v; want %v", text, vals, got, want)
		}
		// This is the first half of promise 10, for these truth values alone.
		if impl.CnfIs(c, got) != areSo(list, b.atoms, vals) {
			t.Errorf("%s of %s is true with %v: %v", writeCnf(c), text, got, impl.CnfIs(c, got))
		}
	}
	for _, count := range []int{0, 1, 2, 3, 4, 5, 6, 7, 8, 60, 61, c.Many, len(b.atoms) + 1<<8} {
		for _, val := range []bool{false, true} {
			if got := impl.CnfVals(list, slices.Repeat([]bool{val}, count)); count != len(b.atoms) && len(got) > 0 {
				t.Errorf("CnfVals of %s and %d truth values: %v", text, count, got)
			}
		}
	}
}

// areSo tells whether all formulas are true.
func areSo(list []impl.Form, atoms []impl.Atom, vals []bool) bool {
	return !slices.ContainsFunc(list, func(f impl.Form) bool { return !isSo(f, atoms, vals) })
}

// checkNoForms checks that no function takes a list of formulas, which may have no end.
func checkNoForms(t *testing.T, what string, i int, list []impl.Form) {
	t.Helper()
	if atoms := impl.FormsAtoms(list); len(atoms) != 0 {
		t.Errorf("%s, %d: FormsAtoms is %d atoms; want none", what, i, len(atoms))
	}
	if c := impl.CnfOf(list); !isZeroCnf(c) {
		t.Errorf("%s, %d: CnfOf is %.300s; want the zero value", what, i, writeCnf(c))
	}
	for count := range atomsLimit + 3 {
		for _, val := range []bool{false, true} {
			if got := impl.CnfVals(list, slices.Repeat([]bool{val}, count)); len(got) != 0 {
				t.Errorf("%s, %d: CnfVals of %d truth values is %v", what, i, count, got)
			}
		}
	}
	for _, text := range []string{"", "a - 0\nb - 0\nf 0 0\nx - 1\ny - 1\n", "a - 1\nb - 1\nx - 1\nzz 1 1\n"} {
		checkFormsOk(t, readSig(t, text), list, false)
	}
}

func checkFormsOk(t *testing.T, s impl.Sig, list []impl.Form, want bool) {
	t.Helper()
	if got := impl.FormsOk(s, list); got != want {
		t.Errorf("FormsOk of %d formulas is %v", len(list), got)
	}
}

// formsCases are formulas with their clauses.
func formsCases() [][2]string {
	return [][2]string{
		{"", "0: "},
		// Literals and negations have no variable of their own.
		{"{a=b}", "1: 1"}, {"{not a=b}", "1: -1"}, {"!({a=b})", "1: -1"}, {"!({not a=b})", "1: 1"}, {"!(!({a=b}))", "1: 1"}, {"!(!({not a=b}))", "1: -1"}, {"!(!(!({a=b})))", "1: -1"}, {"!(!(!(!({a=b}))))", "1: 1"}, {"!(!(!(!({not a=b}))))", "1: -1"},
		// Each kind, with literals that are negated or not.
		{"&({a=b},{a=c})", "3: 1 -3; 2 -3; -1 -2 3; 3"}, {"|({a=b},{a=c})", "3: -1 3; -2 3; 1 2 -3; 3"}, {">({a=b},{a=c})", "3: 1 3; -2 3; -1 2 -3; 3"}, {"~({a=b},{a=c})", "3: -1 2 -3; 1 -2 -3; 1 2 3; -1 -2 3; 3"},
		{"&({not a=b},{a=c})", "3: -1 -3; 2 -3; 1 -2 3; 3"}, {"|({not a=b},{a=c})", "3: 1 3; -2 3; -1 2 -3; 3"}, {">({not a=b},{a=c})", "3: -1 3; -2 3; 1 2 -3; 3"}, {"~({not a=b},{a=c})", "3: 1 2 -3; -1 -2 -3; -1 2 3; 1 -2 3; 3"},
		{"&({a=b},!({a=c}))", "3: 1 -3; -2 -3; -1 2 3; 3"}, {"|({a=b},!({a=c}))", "3: -1 3; 2 3; 1 -2 -3; 3"}, {">({a=b},!({a=c}))", "3: 1 3; 2 3; -1 -2 -3; 3"}, {"~({a=b},!({a=c}))", "3: -1 -2 -3; 1 2 -3; 1 -2 3; -1 2 3; 3"},
		{"!(&({a=b},{a=c}))", "3: 1 -3; 2 -3; -1 -2 3; -3"}, {"!(|({a=b},{a=c}))", "3: -1 3; -2 3; 1 2 -3; -3"}, {"!(>({a=b},{a=c}))", "3: 1 3; -2 3; -1 2 -3; -3"}, {"!(~({a=b},{a=c}))", "3: -1 2 -3; 1 -2 -3; 1 2 3; -1 -2 3; -3"}, {"!(!(&({a=b},{a=c})))", "3: 1 -3; 2 -3; -1 -2 3; 3"},
		// Both kids are one, or one is the negation of the other.
		{"&({a=b},{a=b})", "2: 1 -2; 1 -2; -1 2; 2"}, {"|({a=b},{a=b})", "2: -1 2; -1 2; 1 -2; 2"}, {">({a=b},{a=b})", "2: 1 2; -1 2; 2"}, {"~({a=b},{a=b})", "2: 1 2; -1 2; 2"},
		{"&({not a=b},{not a=b})", "2: -1 -2; -1 -2; 1 2; 2"}, {"|({not a=b},{not a=b})", "2: 1 2; 1 2; -1 -2; 2"}, {">({not a=b},{not a=b})", "2: -1 2; 1 2; 2"}, {"~({not a=b},{not a=b})", "2: -1 2; 1 2; 2"},
		{"&({a=b},{not a=b})", "2: 1 -2; -1 -2; 2"}, {"|({a=b},{not a=b})", "2: -1 2; 1 2; 2"}, {">({a=b},{not a=b})", "2: 1 2; 1 2; -1 -2; 2"}, {"~({a=b},{not a=b})", "2: -1 -2; 1 -2; 2"},
		{"&(!({a=b}),{a=b})", "2: -1 -2; 1 -2; 2"}, {"|(!({a=b}),{a=b})", "2: 1 2; -1 2; 2"}, {">(!({a=b}),{a=b})", "2: -1 2; -1 2; 1 -2; 2"}, {"~(!({a=b}),{a=b})", "2: 1 -2; -1 -2; 2"}, {"~(!({a=b}),!({a=b}))", "2: -1 2; 1 2; 2"}, {"!(~({a=b},{a=b}))", "2: 1 2; -1 2; -2"},
		// The kids come first, the first one's first.
		{"&(|({a=b},{a=c}),>({a=c},{a=d}))", "6: -1 4; -2 4; 1 2 -4; 2 5; -3 5; -2 3 -5; 4 -6; 5 -6; -4 -5 6; 6"}, {">({a=b},|({a=c},{a=d}))", "5: -2 4; -3 4; 2 3 -4; 1 5; -4 5; -1 4 -5; 5"}, {">(|({a=c},{a=d}),{a=b})", "5: -1 4; -2 4; 1 2 -4; 4 5; -3 5; 3 -4 -5; 5"}, {"|(!(&({a=b},{a=c})),{a=b})", "4: 1 -3; 2 -3; -1 -2 3; 3 4; -1 4; 1 -3 -4; 4"}, {"!(&(!(|({a=b},{a=c})),{a=b}))", "4: -1 3; -2 3; 1 2 -3; -3 -4; 1 -4; -1 3 4; -4"},
		{"|({a=b},&({a=c},|({a=d},{a=e})))", "7: -3 5; -4 5; 3 4 -5; 2 -6; 5 -6; -2 -5 6; -1 7; -6 7; 1 6 -7; 7"}, {"|(&(|({a=b},{a=c}),{a=d}),{a=e})", "7: -1 5; -2 5; 1 2 -5; 5 -6; 3 -6; -3 -5 6; -6 7; -4 7; 4 6 -7; 7"},
		// One formula in two places, whose variables differ.
		{"&(&({a=b},{a=c}),&({a=b},{a=c}))", "5: 1 -3; 2 -3; -1 -2 3; 1 -4; 2 -4; -1 -2 4; 3 -5; 4 -5; -3 -4 5; 5"}, {"~(&({a=b},{a=b}),&({a=b},{a=b}))", "4: 1 -2; 1 -2; -1 2; 1 -3; 1 -3; -1 3; -2 3 -4; 2 -3 -4; 2 3 4; -2 -3 4; 4"}, {">(!(|({a=b},{a=b})),|({a=b},{a=b}))", "4: -1 2; -1 2; 1 -2; -1 3; -1 3; 1 -3; -2 4; -3 4; 2 3 -4; 4"},
		// More than one formula: the atoms of all come first.
		{"{a=b}; {a=b}", "1: 1; 1"}, {"{a=b}; {not a=b}", "1: 1; -1"}, {"{a=b}; {a=c}", "2: 1; 2"}, {"{a=c}; {a=b}", "2: 1; 2"}, {"{a=b}; {a=c}; !({a=b})", "2: 1; 2; -1"}, {"|({a=b},{a=c}); {a=d}", "4: -1 4; -2 4; 1 2 -4; 4; 3"}, {"{a=d}; |({a=b},{a=c})", "4: 1; -2 4; -3 4; 2 3 -4; 4"}, {"|({a=b},!({c=b})); {not a=b}", "3: -1 3; 2 3; 1 -2 -3; 3; -1"}, {"|({a=b},{a=c}); &({a=c},{a=d})", "5: -1 4; -2 4; 1 2 -4; 4; 2 -5; 3 -5; -2 -3 5; 5"},
		{"|({a=b},{a=c}); |({a=b},{a=c})", "4: -1 3; -2 3; 1 2 -3; 3; -1 4; -2 4; 1 2 -4; 4"}, {"|({a=b},{a=c}); |({a=c},{a=b})", "4: -1 3; -2 3; 1 2 -3; 3; -2 4; -1 4; 1 2 -4; 4"}, {"&({a=b},{a=b}); !(&({a=b},{a=b})); {a=b}", "3: 1 -2; 1 -2; -1 2; 2; 1 -3; 1 -3; -1 3; -3; 1"}, {"{a=b}; {a=b}; {a=b}; {a=b}; {a=b}", "1: 1; 1; 1; 1; 1"}, {"{a=b}; !(~({a=c},{a=c})); {a=b}", "3: 1; 2 3; -2 3; -3; 1"},
	}
}

func TestCnfOf(t *testing.T) {
	for _, c := range formsCases() {
		list := readForms(t, c[0])
		if got := impl.CnfOf(list); writeCnf(got) != c[1] {
			t.Errorf("CnfOf of %s: %s; want %s", c[0], writeCnf(got), c[1])
		}
		if !areForms(list) {
			t.Fatal(c[0])
		}
		checkForms(t, list)
	}
}

// TestCnfOfEachShape has each kind at the top, within each other one and there in each place, alone and beside others.
func TestCnfOfEachShape(t *testing.T) {
	p, q := eqOf(app("a"), app("b")), sumOf(2, ints(1), app("x"))
	for _, ends := range [][]impl.Form{{leaf(p), noLeaf(q)}, {leaf(p), noLeaf(p)}} {
		for i, f := range shapesOf(3, ends) {
			checkForms(t, []impl.Form{f})
			if i%7 == 0 {
				checkForms(t, []impl.Form{f, f})
				checkForms(t, []impl.Form{leaf(q), f, not(f)})
			}
		}
	}
	for _, f := range sampleForms() {
		checkForms(t, []impl.Form{f})
		checkForms(t, []impl.Form{f, f, f, f, f})
		checkForms(t, []impl.Form{noLeaf(p), f})
		checkForms(t, []impl.Form{f, formOf(formIff, leaf(p), f)})
	}
}

func TestCnfVals(t *testing.T) {
	for _, c := range [][3]string{
		{"", "", ""}, {"{a=b}", "0", "0"}, {"{a=b}", "1", "1"}, {"{not a=b}", "1", "1"}, {"!(!({a=b}))", "0", "0"}, {"{a=b}; {a=b}; {a=c}", "01", "01"},
		{"&({a=b},{a=c})", "00", "000"}, {"&({a=b},{a=c})", "01", "010"}, {"&({a=b},{a=c})", "10", "100"}, {"&({a=b},{a=c})", "11", "111"}, {"|({a=b},{a=c})", "00", "000"}, {"|({a=b},{a=c})", "01", "011"}, {"|({a=b},{a=c})", "10", "101"}, {"|({a=b},{a=c})", "11", "111"},
		{">({a=b},{a=c})", "00", "001"}, {">({a=b},{a=c})", "01", "011"}, {">({a=b},{a=c})", "10", "100"}, {">({a=b},{a=c})", "11", "111"}, {"~({a=b},{a=c})", "00", "001"}, {"~({a=b},{a=c})", "01", "010"}, {"~({a=b},{a=c})", "10", "100"}, {"~({a=b},{a=c})", "11", "111"},
		// The value of a new variable is that of its formula, not of the negation above it.
		{"!(&({a=b},{a=c}))", "11", "111"}, {"!(|({a=b},{a=c}))", "00", "000"}, {"!(!(>({a=b},{a=c})))", "10", "100"}, {"&({not a=b},{a=c})", "01", "011"}, {"|({a=b},!({a=c}))", "00", "001"},
		{"&(|({a=b},{a=c}),>({a=c},{a=d}))", "010", "010100"}, {"&(|({a=b},{a=c}),>({a=c},{a=d}))", "100", "100111"}, {"&(|({a=b},{a=c}),>({a=c},{a=d}))", "000", "000010"}, {"|(!(&({a=b},{a=c})),{a=b})", "11", "1111"}, {"|(!(&({a=b},{a=c})),{not a=b})", "11", "1110"},
		{"|({a=b},{a=c}); &({a=c},{a=d})", "010", "01010"}, {"&({a=c},{a=d}); |({a=b},{a=c})", "100", "10001"}, {"|({a=b},{a=c}); {a=d}; ~({a=d},{a=b})", "010", "01011"}, {"~({a=b},{a=c}); ~({a=b},{a=c})", "00", "0011"}, {"{a=d}; !(~({a=b},{a=c})); >({a=d},{a=b})", "101", "10100"},
		// Too many, and too few.
		{"", "0", "-"}, {"{a=b}", "", "-"}, {"{a=b}", "00", "-"}, {"&({a=b},{a=c})", "", "-"}, {"&({a=b},{a=c})", "1", "-"}, {"&({a=b},{a=c})", "111", "-"}, {"&({a=b},{a=b})", "11", "-"}, {"{a=b}; {a=b}", "11", "-"}, {"{a=b}; {a=c}", "1", "-"}, {"{a=b}; {a=c}", "111", "-"}, {"|({a=b},{a=c}); &({a=c},{a=d})", "01", "-"}, {"|({a=b},{a=c}); &({a=c},{a=d})", "01010", "-"},
	} {
		list := readForms(t, c[0])
		var vals []bool
		for _, val := range c[1] {
			vals = append(vals, val == '1')
		}
		got := ""
		for _, val := range impl.CnfVals(list, vals) {
			got += map[bool]string{false: "0", true: "1"}[val]
		}
		if got != strings.Trim(c[2], "-") {
			t.Errorf("CnfVals(%s, %s) = %s; want %s", c[0], c[1], got, c[2])
		}
		checkForms(t, list)
	}
}

func TestFormsAtoms(t *testing.T) {
	for _, c := range [][2]string{
		{"", ""}, {"{a=b}", "a=b"}, {"{not a=b}", "a=b"}, {"{a=b}; {a=b}", "a=b"}, {"{a=b}; {not a=b}; !({a=b})", "a=b"}, {"{a=b}; {b=a}", "a=b; b=a"}, {"{b=a}; {a=b}", "b=a; a=b"}, {"{z=z}; {1*x < 0}; {a=a}; {z=z}", "z=z; 1*x < 0; a=a"}, {"&({a=b},{b=a}); &({b=a},{c=c})", "a=b; b=a; c=c"}, {"&({c=c},{b=a}); &({a=b},{c=c}); {d=d}", "c=c; b=a; a=b; d=d"}, {"{1*x < 0}; {1*x <= 0}; {not 1*x < 0}; {2*x < 0}", "1*x < 0; 1*x <= 0; 2*x < 0"},
		{"&({a=b},&({b=a},{a=a})); &({b=b},&({c=c},{d=d}))", "a=b; b=a; a=a; b=b; c=c; d=d"}, {"{f=f}; {e=e}; &({d=d},{c=c}); &({b=b},{a=a}); {c=c}", "f=f; e=e; d=d; c=c; b=b; a=a"},
		// One atom too many, at once or by the last formula.
		{"&({a=b},&({b=a},{a=a})); &({b=b},&({c=c},&({d=d},{e=e})))", ""}, {"{f=f}; {e=e}; &({d=d},{c=c}); &({b=b},{a=a}); {g=g}", ""}, {"{f=f}; {e=e}; &({d=d},{c=c}); &({b=b},&({a=a},{g=g})); {c=c}", ""},
		// One formula too many.
		{"{a=b}; {a=b}; {a=b}; {a=b}; {a=b}", "a=b"}, {"{a=b}; {a=b}; {a=b}; {a=b}; {a=b}; {a=b}", ""}, {"{a=b}; {b=a}; {a=a}; {b=b}; {c=c}", "a=b; b=a; a=a; b=b; c=c"}, {"{a=b}; {b=a}; {a=a}; {b=b}; {c=c}; {d=d}", ""},
	} {
		list := readForms(t, c[0])
		if got := writeAtoms(impl.FormsAtoms(list)); got != c[1] {
			t.Errorf("FormsAtoms of %s: %s; want %s", c[0], got, c[1])
		}
		checkForms(t, list)
	}
}

// TestFormsLimits has as many formulas, and atoms, as there may be, and one more; and formulas with as many variables and clauses as can be.
func TestFormsLimits(t *testing.T) {
	var ends []impl.Form
	for _, name := range []string{"a", "b", "c", "d", "e", "f", "g", "h"} {
		ends = append(ends, leaf(eqOf(app(name), app("x"))))
	}
	for atoms := 1; atoms <= len(ends); atoms++ {
		for count := range formsLimit + 3 {
			// The atoms are dealt out, so that only the last ones are too many.
			list := slices.Repeat([]impl.Form{ends[0]}, count)
			for i := range atoms {
				if count > 0 {
					at := i * count / atoms
					list[at] = formOf(formOr, list[at], ends[i])
				}
			}
			if areForms(list) != (count <= formsLimit && (count == 0 || atoms <= atomsLimit && !slices.ContainsFunc(list, func(f impl.Form) bool { return !isForm(f) }))) {
				t.Errorf("%d atoms in %d formulas", atoms, count)
			}
			checkForms(t, list)
			slices.Reverse(list)
			checkForms(t, list)
		}
	}
	for _, count := range []int{256, 257, 261, 65536, 1000000} {
		checkNoForms(t, "many", count, slices.Repeat(ends[:1], count))
	}
	great := func(i int) impl.Form {
		p, q, r := ends[i], ends[(i+1)%6], ends[(i+2)%6]
		return formOf(formIff, formOf(formIff, formOf(formIff, p, q), formOf(formIff, r, p)), q)
	}
	list := []impl.Form{great(0), not(great(1)), great(2), great(3), not(great(4))}
	checkForms(t, list)
	if c := impl.CnfOf(list); c.Many != 6+5*4 || len(c.List) != 5*(4*4+1) {
		t.Errorf("%d variables, %d clauses", c.Many, len(c.List))
	}
}

// TestFormsRefuse has formulas that are not well-formed, in each place beside others.
func TestFormsRefuse(t *testing.T) {
	p, q := leaf(eqOf(app("a"), app("b"))), noLeaf(sumOf(2, ints(1), app("x")))
	bad, atoms := badForms(), 2*len(badAtoms())
	for i, f := range bad {
		if isForm(f) {
			t.Fatalf("the test's own %v is well-formed", f)
		}
		// Of the atoms, that are many, some will do.
		if i < len(bad)-atoms || i%7 == 0 {
			checkNoForms(t, "bad", i, []impl.Form{f})
		}
		if i < len(bad)-atoms || i%41 == 0 {
			for _, list := range [][]impl.Form{{f, p}, {p, f}, {p, q, f}, {formOf(formOr, p, q), f, p}, {p, p, p, p, f}, {f, p, p, p, p}, {f, f}} {
				checkNoForms(t, "beside others, bad", i, list)
			}
		}
	}
	for i, f := range endlessForms() {
		for _, list := range [][]impl.Form{{f}, {p, f}, {f, q}, {p, q, p, q, f}, {f, f, f, f, f}, {f, f, f, f, f, f}} {
			checkNoForms(t, "endless", i, list)
		}
	}
	for _, list := range [][]impl.Form{{{}}, {{}, p}, {p, {}}, {{}, {}, {}, {}, {}}, {{}, {}, {}, {}, {}, {}}, slices.Repeat([]impl.Form{{}}, 1000000)} {
		checkNoForms(t, "empty", len(list), list)
	}
	for _, f := range formsWith(p) {
		checkForms(t, []impl.Form{q, f})
	}
}

func TestFormsOk(t *testing.T) {
	for _, c := range []struct {
		sig, text string
		want      bool
	}{
		{"", "", true}, {formSig, "", true}, {formSig, "{a=b}", true}, {formSig, "{a=b}; {not 1*h(a) -2*x <= 5}", true}, {formSig, "&({a=b},!({1*x < 0})); {a=b}; {x=y}", true}, {"a - 1\nb - 1\n", "{a=b}; {1*a 1*b < 0}", true},
		// Atoms that are not valid, in each place.
		{"", "{a=b}", false}, {"a - 0\n", "{a=a}; {a=b}", false}, {"a - 0\n", "{a=b}; {a=a}", false}, {formSig, "{a=x}", false}, {formSig, "{a=b}; {a=x}", false}, {formSig, "{a=x}; {a=b}", false}, {formSig, "{a=b}; &({x=y},{not a=x}); {x=x}", false}, {formSig, "{a=b}; {1*a < 0}", false}, {formSig, "{z=z}; {a=b}", false}, {formSig, "{x=x}; {not h(x)=x}", false}, {formSig, "{a=b}; {a=b}; {a=b}; {a=b}; {b=x}", false}, {formSig, "{a=b}; {a=b}; {a=b}; {a=b}; {b=a}", true},
		// Numbers, where each formula alone has less.
		{formSig, "{1*h(a) 1*w <= 0}; {1*x 1*y < 0}", true}, {formSig, "{1*h(a) 1*w <= 0}; {1*x 1*y < 0}; {not h(a)=y}", true}, {formSig, "{1*h(a) 1*w <= 0}; {1*x 1*y < 0}; {not h(b)=y}", false}, {formSig, "{h(b)=h(b)}; {1*h(a) 1*w <= 0}; {1*x 1*y < 0}", false}, {formSig, "{h(b)=x}; {w=y}", true}, {formSig, "{h(b)=x}; {w=y}; {h(f(b))=x}", false}, {formSig, "{w=w}; {x=x}; {y=y}; {h(a)=h(a)}; {h(b)=h(b)}", false}, {formSig, "{w=w}; {x=x}; {y=y}; {h(a)=h(a)}; {a=b}", true},
		// Terms: as many as there may be, and one more.
		{twentyFourSig, "{f(f(f(a)))=f(f(f(b)))}; {h(h(h(a)))=h(h(h(b)))}; {i(i(i(a)))=i(i(i(b)))}; &({not f(h(a))=f(h(b))},{c=c})", true}, {twentyFourSig, "{f(f(f(a)))=f(f(f(b)))}; {h(h(h(a)))=h(h(h(b)))}; {i(i(i(a)))=i(i(i(b)))}; &({not f(h(a))=f(h(b))},{h(f(a))=h(f(b))})", true}, {twentyFourSig, "{f(f(f(a)))=f(f(f(b)))}; {h(h(h(a)))=h(h(h(b)))}; {i(i(i(a)))=i(i(i(b)))}; &({not f(h(a))=f(h(b))},{h(f(a))=h(f(b))}); {h(i(a))=a}", false}, {twentyFourSig, "{f(f(f(a)))=f(f(f(b)))}; {h(h(h(a)))=h(h(h(b)))}; {i(i(i(a)))=i(i(i(b)))}; &({not f(h(a))=f(h(b))},{h(f(a))=h(f(b))}); {c=c}", false}, {twentyFourSig, "{f(f(f(a)))=f(f(f(b)))}; {h(h(h(a)))=h(h(h(b)))}; {i(i(i(a)))=i(i(i(b)))}; &({not f(h(a))=f(h(b))},{h(f(a))=h(f(b))}); &({c=c},{f(c)=c})", false},
		// Atoms: as many as there may be, and one more, where all are valid.
		{twentyFourSig, "{a=a}; {a=b}; {a=c}; {b=a}; &({b=b},{b=c})", true}, {twentyFourSig, "{a=a}; {a=b}; {a=c}; {b=a}; &({b=b},&({b=c},{c=a}))", false}, {twentyFourSig, "|({a=a},{a=b}); |({a=c},{b=a}); |({b=b},{b=c})", true}, {twentyFourSig, "|({a=a},{a=b}); |({a=c},{b=a}); |({b=b},{b=c}); {c=a}", false}, {twentyFourSig, "|({a=a},{a=b}); |({a=c},{b=a}); |({b=b},{b=c}); {not a=c}", true},
		// Formulas: as many as there may be, and one more.
		{formSig, "{a=b}; {a=b}; {a=b}; {a=b}; {a=b}", true}, {formSig, "{a=b}; {a=b}; {a=b}; {a=b}; {a=b}; {a=b}", false},
	} {
		s, list := readSig(t, c.sig), readForms(t, c.text)
		if (areForms(list) && isBoth(s, litsOf(atomsOf(list)))) != c.want {
			t.Errorf("the test's own %s is valid: %v", c.text, !c.want)
		}
		checkFormsOk(t, s, list, c.want)
		checkForms(t, list)
	}
	for _, s := range append(invalidSigs(), sigOf(sym("a", 0), sym("b", 2)), sigOf(sym("a", 0), sym("c", 0), sym("b", 0)), sigOf(sym("a", 0), sym("b", 0, 0, 0, 0)), sigOf(sym("a", 0), sym("a", 0)), sigOf(sym("A", 0), sym("a", 0), sym("b", 0))) {
		for _, text := range []string{"", "{a=a}", "{a=a}; {a=b}", "&({a=a},{a=a}); {a=a}"} {
			checkFormsOk(t, s, readForms(t, text), false)
		}
	}
}

// TestCnfOfIsAsDefined compares made-up formulas with the chapter by its words.
func TestCnfOfIsAsDefined(t *testing.T) {
	s := numbers(10000)
	found := map[string]int{}
	for range 2500 {
		under := readSig(t, madeUpBothSigs()[s.below(len(madeUpBothSigs()))])
		pool := s.atomsUnder(under, 1+s.below(7))
		var list []impl.Form
		for range s.below(formsLimit+2) - s.below(2) {
			f := s.smallForm(pool)
			if g := s.smallForm(pool); formSize(f) < formSize(g) && s.below(3) > 0 {
				f = g
			}
			list = append(list, f)
		}
		if len(list) > 1 && s.below(4) == 0 {
			list[0] = list[len(list)-1]
		}
		if len(list) > 0 && s.below(8) == 0 {
			at := s.below(len(list))
			list[at] = copyForm(list[at])
			s.spoilForm(&list[at])
		}
		checkForms(t, list)
		valid := areForms(list)
		if s.below(4) == 0 {
			under = readSig(t, madeUpBothSigs()[s.below(len(madeUpBothSigs()))])
		}
		both := valid && isBoth(under, litsOf(atomsOf(list)))
		checkFormsOk(t, under, list, both)
		found["valid "+strconv.FormatBool(valid)]++
		found["together "+strconv.FormatBool(both)]++
		if valid {
			found["many "+strconv.Itoa(impl.CnfOf(list).Many/5)]++
			found["atoms "+strconv.Itoa(len(atomsOf(list)))]++
		}
	}
	for what, least := range map[string]int{"valid false": 200, "valid true": 1500, "together true": 500, "together false": 500, "many 0": 300, "many 1": 300, "many 2": 100, "many 3": 10, "atoms 0": 50, "atoms 1": 100, "atoms 2": 100, "atoms 3": 100, "atoms 4": 100, "atoms 5": 50, "atoms 6": 10} {
		if found[what] < least {
			t.Errorf("the formulas miss the case %s: %v", what, found)
		}
	}
}

// TestCnfOfIsSatisfiedExactly is the first half of promise 10: of all truth values of all variables, just those satisfy the clauses that CnfVals returns for truth values of the atoms with which FormIs is true for each formula.
func TestCnfOfIsSatisfiedExactly(t *testing.T) {
	s := numbers(100000)
	some, none := 0, 0
	for range 600 {
		pool := s.atomsUnder(readSig(t, madeUpBothSigs()[s.below(7)]), 1+s.below(4))
		var list []impl.Form
		for range s.below(4) {
			list = append(list, s.smallForm(pool))
		}
		c, atoms := impl.CnfOf(list), impl.FormsAtoms(list)
		if c.Many > 12 {
			continue
		}
		// What satisfies the formulas is noted as the text of its extension.
		right := map[string]bool{}
		for _, vals := range allVals(len(atoms)) {
			so := true
			for _, f := range list {
				var own []bool
				for _, a := range impl.FormAtoms(f) {
					own = append(own, vals[placeOf(atoms, a)])
				}
				is, ok := impl.FormIs(f, own)
				if !ok {
					t.Fatalf("FormIs(%s, %v) is not ok", writeForm(f), own)
				}
				so = so && is
			}
			if so {
				right[fmt.Sprint(impl.CnfVals(list, vals))] = true
			}
		}
		count := 0
		for _, vals := range allVals(c.Many) {
			want := right[fmt.Sprint(vals)]
			if got := impl.CnfIs(c, vals); got != want {
				t.Fatalf("CnfIs(%s, %v) = %v; the formulas are %s", writeCnf(c), vals, got, writeForms(list))
			}
			if want {
				count++
			}
		}
		if count != len(right) {
			t.Fatalf("of %d extended truth values, %d satisfy %s", len(right), count, writeCnf(c))
		}
		if count > 0 {
			some++
		} else {
			none++
		}
	}
	if some < 200 || none < 50 {
		t.Error(some, none)
	}
}

// cnfsApart are clauses of which each differs from all others; the ones that are not valid too.
func cnfsApart() []impl.Cnf {
	list := []impl.Cnf{cnfOf(0), cnfOf(1), cnfOf(-1), cnfOf(60), cnfOf(61), cnfOf(256), cnfOf(1 << 32), cnfOf(math.MaxInt), cnfOf(math.MinInt), cnfOf(0, nil), cnfOf(1, nil), cnfOf(0, nil, nil), cnfOf(0, make([][]int, 257)...), cnfOf(0, make([][]int, 1000)...)}
	for _, n := range append(strangeInts(), 0, 1, -1, 2, 61, 257, 1<<32+61) {
		list = append(list, cnfOf(2, ints(n)), cnfOf(3, ints(n)), cnfOf(2, ints(n, n)), cnfOf(2, ints(n), ints(n)), cnfOf(2, ints(n), nil), cnfOf(2, nil, ints(n)), cnfOf(2, ints(3, n)), cnfOf(2, ints(n, 3)), cnfOf(2, ints(3), ints(n)), cnfOf(2, ints(n), ints(3)), cnfOf(2, ints(1, 5, n), ints(3)), cnfOf(2, ints(1, 5), ints(n, 3)), cnfOf(2, ints(1, 5), ints(3), ints(n)))
	}
	return list
}

func TestCnfSame(t *testing.T) {
	list := cnfsApart()
	for i, a := range list {
		for j, b := range list {
			if impl.CnfSame(a, copyCnf(b)) != (i == j) || impl.CnfSame(a, b) != (i == j) {
				t.Errorf("CnfSame(%.300s, %.300s) is not %v", writeCnf(a), writeCnf(b), i == j)
			}
		}
	}
	if !impl.CnfSame(impl.Cnf{}, impl.Cnf{List: [][]int{}}) || !impl.CnfSame(impl.Cnf{List: make([][]int, 0, 3)}, impl.Cnf{}) || !impl.CnfSame(cnfOf(1, nil), cnfOf(1, []int{})) || !impl.CnfSame(cnfOf(1, make([]int, 0, 3), ints(1)), cnfOf(1, nil, ints(1))) {
		t.Error("no elements are the same as nil")
	}
	// What differs stands behind the end of a slice.
	row := ints(1, 2, 1, 3)
	rows := [][]int{row[:1], row[2:3], row[:2], row[2:]}
	for _, c := range []struct {
		a, b impl.Cnf
		same bool
	}{{cnfOf(3, row[:1]), cnfOf(3, row[2:3]), true}, {cnfOf(3, row[:2]), cnfOf(3, row[2:]), false}, {cnfOf(3, row[:1]), cnfOf(3, row[:2]), false}, {cnfOf(3, rows[:1]...), cnfOf(3, rows[1:2]...), true}, {cnfOf(3, rows[:2]...), cnfOf(3, rows[1:3]...), false}, {cnfOf(3, rows[:2]...), cnfOf(3, rows[:3]...), false}} {
		if impl.CnfSame(c.a, c.b) != c.same || impl.CnfSame(c.b, c.a) != c.same {
			t.Errorf("CnfSame(%s, %s) is not %v", writeCnf(c.a), writeCnf(c.b), c.same)
		}
	}
	great := cnfOf(7, slices.Repeat([][]int{slices.Repeat(ints(1), 3000)}, 3000)...)
	other := copyCnf(great)
	if !impl.CnfSame(great, great) || !impl.CnfSame(great, other) {
		t.Error("great ones are not the same")
	}
	other.List[2999][2999] = 2
	if impl.CnfSame(great, other) || impl.CnfSame(other, great) {
		t.Error("great ones are the same")
	}
}

// intCells notes each place in the memory of numbers, also the unused ones; it reports whether one was noted before, or an unused one is not new.
func intCells(list []int, known map[*int]bool) bool {
	bad := false
	all := list[:cap(list)]
	for i := range all {
		bad = bad || known[&all[i]] || i >= len(list) && all[i] != 0
		known[&all[i]] = true
	}
	return bad
}

// TestClauseMemory checks that each result is new memory at every level, and that nothing writes to an argument, also beyond its length.
func TestClauseMemory(t *testing.T) {
	// The clauses share memory with one another, and the lists have room beyond their lengths.
	row := ints(-1, 2, 3, -4, 5, 6, 7, -8)
	rows := [][]int{row[:2], row[1:3], row[:3], row[4:5], row[2:6], row[3:4]}
	put := ints(1, -6, 9, 9)
	c := cnfOf(6, rows[:5]...)
	vals := []bool{true, false, true, true, false, true, true, true}
	state := func() string {
		return writeInts(row) + writeCnf(cnfOf(6, rows...)) + writeInts(put) + strconv.FormatBool(vals[6]) + strconv.FormatBool(vals[7])
	}
	before := state()
	known := map[*int]bool{}
	intCells(row, known)
	intCells(put, known)
	for range 2 {
		for _, list := range append(rows, put[:2], put[:1], nil) {
			got, ok := impl.ClauseOf(list)
			if !ok || intCells(got, known) {
				t.Errorf("ClauseOf(%v) shares memory", list)
			}
			impl.ClauseOk(list, 60)
			impl.ClauseIs(list, vals[:6])
			impl.CnfRup(c, list)
		}
		for _, list := range [][]int{nil, put[:1], put[:2], row[:1], row[4:5]} {
			got, _ := impl.CnfUnits(c, list)
			if len(got) < len(list) || intCells(got, known) {
				t.Errorf("CnfUnits of %v shares memory", list)
			}
		}
		if !impl.CnfOk(c) || !impl.CnfSame(c, c) || impl.CnfIs(c, vals[:6]) != isTrueCnf(c, vals[:6]) {
			t.Error("not valid")
		}
	}
	if state() != before {
		t.Errorf("an argument has changed: %s; was %s", state(), before)
	}
}

// TestFormsMemory checks the same of the functions that take formulas.
func TestFormsMemory(t *testing.T) {
	things, times := []impl.Term{app("a"), app("b"), app("sp")}, []int{1, -1, 7}
	kids := []impl.Form{leaf(eqOf(things[0], things[1])), noLeaf(sumOf(0, times[:2], app("x"), app("y"))), leaf(eqOf(app("x"), app("y")))}
	forms := []impl.Form{formOf(formAnd, kids[:2]...), formOf(formIff, kids[1:]...), formOf(formNot, kids[2:]...), formOf(formAnd, kids[0], kids[0]), kids[1], kids[2]}
	s := readSig(t, "a - 0\nb - 0\nx - 1\ny - 1\n")
	vals := []bool{true, false, true, true, false, true, true, true}
	state := func() string {
		text := writeForms(forms) + writeForms(kids) + termTexts(things) + writeInts(times) + impl.SigText(s)
		for _, val := range vals {
			text += strconv.FormatBool(val)
		}
		return text
	}
	before := state()
	formsSeen, terms, known, cells := map[*impl.Form]bool{}, map[*impl.Term]bool{}, map[*int]bool{}, map[*bool]bool{}
	formCells(forms, formsSeen, terms, known)
	for i := range vals {
		cells[&vals[i]] = true
	}
	lists := map[*[]int]bool{}
	for range 2 {
		for count := range 6 {
			list := forms[:count]
			atoms := impl.FormsAtoms(list)
			for i, a := range atoms[:cap(atoms)] {
				if atomCells(a, terms, known) || i >= len(atoms) && !isZeroAtom(a) {
					t.Errorf("FormsAtoms of %s shares memory", writeForms(list))
				}
			}
			c := impl.CnfOf(list)
			all := c.List[:cap(c.List)]
			for i := range all {
				if lists[&all[i]] || intCells(all[i], known) || i >= len(c.List) && len(all[i]) > 0 {
					t.Errorf("CnfOf of %s shares memory", writeForms(list))
				}
				lists[&all[i]] = true
			}
			got := impl.CnfVals(list, vals[:len(atoms)])
			if len(got) != c.Many {
				t.Errorf("CnfVals of %s is %v", writeForms(list), got)
			}
			got = got[:cap(got)]
			for i := range got {
				if cells[&got[i]] || i >= c.Many && got[i] {
					t.Errorf("CnfVals of %s shares memory", writeForms(list))
				}
				cells[&got[i]] = true
			}
			if !impl.FormsOk(s, list) {
				t.Errorf("%s is not valid", writeForms(list))
			}
		}
	}
	if state() != before {
		t.Errorf("an argument has changed: %s; was %s", state(), before)
	}
}
