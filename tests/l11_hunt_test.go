package tests

import (
	"fmt"
	"math"
	"regexp"
	"runtime"
	"slices"
	"strconv"
	"strings"
	"sync"
	"testing"
	"time"

	"loop.example/compurgator/impl"
)

// This repeats the document's number, so that a wrong constant of impl fails too.
const logLimit = 130

func TestHuntConstants(t *testing.T) {
	if impl.LogMost != logLimit {
		t.Error(impl.LogMost)
	}
}

// writeLog writes any list of clauses, as writeCnf does.
func writeLog(log [][]int) string {
	_, text, _ := strings.Cut(writeCnf(cnfOf(0, log...)), ": ")
	return text
}

func readLog(t *testing.T, text string) [][]int {
	t.Helper()
	return readCnf(t, "0: "+text).List
}

func equalLogs(a [][]int, b [][]int) bool { return slices.EqualFunc(a, b, slices.Equal[[]int]) }

func writeVals(vals []bool) string {
	text := ""
	for _, val := range vals {
		if val {
			text += "1"
		} else {
			text += "0"
		}
	}
	return text
}

// hunter is a search by the words of the document.
type hunter struct {
	c     impl.Cnf
	calls int
	log   [][]int
	found bool
	over  bool // found, or too many calls
	vals  []bool
}

// call is one call of the search; it goes no further than one call past LogMost.
func (h *hunter) call(decisions []int) {
	h.calls++
	if h.calls > logLimit+1 {
		h.over = true
		return
	}
	assigned, conflict := propagated(h.c, decisions)
	next := 0
	for v := h.c.Many; v > 0; v-- {
		if !slices.Contains(assigned, v) && !slices.Contains(assigned, -v) {
			next = v
		}
	}
	switch {
	case conflict:
	case next == 0:
		h.found, h.over = true, true
		for v := 1; v <= h.c.Many; v++ {
			h.vals = append(h.vals, slices.Contains(assigned, v))
		}
		return
	default:
		for _, n := range ints(-next, next) {
			h.call(append(slices.Clone(decisions), n))
			if h.over {
				return
			}
		}
	}
	clause, _ := clauseFrom(negations(decisions))
	h.log = append(h.log, clause)
}

// hunted is a search of valid clauses.
func hunted(c impl.Cnf) *hunter {
	h := &hunter{c: c}
	if isCnf(c) {
		h.call(nil)
	}
	return h
}

// succeeds reports whether the document lets HuntRun succeed with so much fuel.
func (h *hunter) succeeds(fuel int) bool {
	return isCnf(h.c) && 0 <= fuel && fuel <= logLimit && h.calls <= fuel && (h.found || len(h.c.List)+len(h.log) <= clauseLimit)
}

// huntText is a result of HuntRun.
func huntText(vals []bool, log [][]int, ok bool) string {
	switch {
	case !ok && len(vals) == 0 && len(log) == 0:
		return "fails"
	case ok && len(log) == 0:
		return "vals " + writeVals(vals)
	case ok && len(vals) == 0:
		return "log " + writeLog(log)
	}
	return fmt.Sprint(vals, log, ok)
}

// checkHuntWith checks HuntRun with so much fuel, by a search by the document's words, and promise 11 for what it returns.
func checkHuntWith(t *testing.T, h *hunter, fuel int) bool {
	t.Helper()
	vals, log, ok := impl.HuntRun(h.c, fuel)
	want := "fails"
	if h.succeeds(fuel) && h.found {
		want = huntText(h.vals, nil, true)
	} else if h.succeeds(fuel) {
		want = huntText(nil, h.log, true)
	}
	if got := huntText(vals, log, ok); got != want {
		t.Errorf("HuntRun(%.300s, %d) = %.300s; want %.300s", writeCnf(h.c), fuel, got, want)
	}
	if ok && len(log) == 0 && !impl.CnfIs(h.c, vals) {
		t.Errorf("HuntRun(%.300s, %d): its values %s do not satisfy it", writeCnf(h.c), fuel, writeVals(vals))
	}
	if ok && len(log) > 0 && (!impl.LogOk(h.c, log) || !impl.LogEnds(log)) {
		t.Errorf("HuntRun(%.300s, %d): its log %.300s is no proof", writeCnf(h.c), fuel, writeLog(log))
	}
	return ok
}

// checkHunt checks HuntRun with too little fuel, just enough, and more, and with fuel that may not be.
func checkHunt(t *testing.T, c impl.Cnf) *hunter {
	t.Helper()
	h := hunted(c)
	for _, fuel := range []int{-1, 0, 1, h.calls - 2, h.calls - 1, h.calls, h.calls + 1, logLimit - 1, logLimit, logLimit + 1} {
		checkHuntWith(t, h, fuel)
	}
	return h
}

func huntCases() [][2]string {
	return [][2]string{
		// No variables.
		{"0: ", "1 vals "}, {"0: ()", "1 log ()"}, {"0: (); ()", "1 log ()"},
		// An empty clause, alone and among others.
		{"1: ()", "1 log ()"}, {"3: ()", "1 log ()"}, {"60: ()", "1 log ()"}, {"2: (); 1", "1 log ()"}, {"2: 1; ()", "1 log ()"}, {"2: 1 2; (); -1 -2", "1 log ()"}, {"2: 1 2; 1 -2; -1 2; -1 -2; ()", "1 log ()"},
		// No clauses: each variable is decided, and is false.
		{"1: ", "2 vals 0"}, {"2: ", "3 vals 00"}, {"3: ", "4 vals 000"}, {"60: ", "61 vals " + strings.Repeat("0", 60)},
		// A conflict before the first decision.
		{"1: 1; -1", "1 log ()"}, {"1: -1; 1", "1 log ()"}, {"3: 1; -1 2; -2 3; -3", "1 log ()"}, {"3: -2 3; -1; 1 2; -3", "1 log ()"}, {"60: 60; -60", "1 log ()"}, {"60: -60; 59 60; -59", "1 log ()"},
		// Truth values without a decision.
		{"1: 1", "1 vals 1"}, {"1: -1", "1 vals 0"}, {"1: 1; 1", "1 vals 1"}, {"2: 1; -2", "1 vals 10"}, {"3: 3; -1 -3; 1 2", "1 vals 011"},
		// The smallest unassigned variable, its negation first.
		{"2: 1", "2 vals 10"}, {"2: -1", "2 vals 00"}, {"2: 2", "2 vals 01"}, {"2: 1 2", "2 vals 01"}, {"2: -1 -2", "3 vals 00"}, {"2: 1 -2", "2 vals 00"}, {"2: -1 2", "3 vals 00"}, {"3: 1; 2 3", "2 vals 101"}, {"3: 2; 1 3", "2 vals 011"}, {"3: 1 2 3", "3 vals 001"}, {"3: 3", "3 vals 001"}, {"4: 1 2; 3 4", "3 vals 0101"}, {"4: 1 4; 2 3", "3 vals 0011"}, {"60: 60", "60 vals " + strings.Repeat("0", 59) + "1"}, {"5: 2; -2 4; 1 3 5", "3 vals 01011"},
		// The variable itself, when its negation has found nothing.
		{"2: 1 2; 1 -2", "4 vals 10"}, {"2: 1 2; 1 -2; -1 2", "3 vals 11"}, {"2: 1 2; 1 -2; -1 -2", "3 vals 10"}, {"3: 1 2 3; 1 2 -3; 1 -2", "5 vals 100"}, {"3: 1 2; 1 -2; -1 2 3; -1 2 -3", "6 vals 110"}, {"3: 2 3; 2 -3", "5 vals 010"},
		// Nothing, in the order in which the calls end.
		{"2: 1 2; 1 -2; -1 2; -1 -2", "3 log 1; -1; ()"}, {"2: -1 -2; 1 -2; 1 2; -1 2", "3 log 1; -1; ()"}, {"3: 1 2; 1 -2; -1 3; -1 -3", "3 log 1; -1; ()"}, {"3: 2 3; 2 -3; -2 3; -2 -3", "7 log 1 2; 1 -2; 1; -1 2; -1 -2; -1; ()"}, {"3: -1; 2 3; 2 -3; -2 3; -2 -3", "3 log 2; -2; ()"}, {"3: 1; 2 3; 2 -3; -2 3; -2 -3", "3 log 2; -2; ()"}, {"3: 2; 1 3; 1 -3; -1 3; -1 -3", "3 log 1; -1; ()"}, {"60: 59 60; 59 -60; -59 60; -59 -60", "132"},
		{"3: 1 2 3; 1 2 -3; 1 -2 3; 1 -2 -3; -1 2 3; -1 2 -3; -1 -2 3; -1 -2 -3", "7 log 1 2; 1 -2; 1; -1 2; -1 -2; -1; ()"}, {"3: 1 2; 1 -2; -1 2 3; -1 2 -3; -1 -2 3; -1 -2 -3", "5 log 1; -1 2; -1 -2; -1; ()"}, {"3: 1 2 3; 1 2 -3; 1 -2 3; 1 -2 -3; -1 2; -1 -2", "5 log 1 2; 1 -2; 1; -1; ()"}, {"4: -1 3; 1 3; 2 4; 2 -4; -2 4; -2 -4", "7 log 1 2; 1 -2; 1; -1 2; -1 -2; -1; ()"}, {"4: 1 3; 1 -3 4; 1 -3 -4; -1 2 3; -1 2 -3; -1 -2 4; -1 -2 -4", "5 log 1; -1 2; -1 -2; -1; ()"},
	}
}

func TestHuntRun(t *testing.T) {
	for _, c := range huntCases() {
		cnf := readCnf(t, c[0])
		h := checkHunt(t, cnf)
		text, want, some := strings.Cut(c[1], " ")
		if strconv.Itoa(h.calls) != text {
			t.Errorf("%s takes %d calls; want %s", c[0], h.calls, text)
		}
		got := huntText(impl.HuntRun(cnf, logLimit))
		if some && got != want || !some && got != "fails" {
			t.Errorf("HuntRun(%s) = %s; want %s", c[0], got, c[1])
		}
		for fuel := range h.calls + 2 {
			if ok := checkHuntWith(t, h, fuel); ok != (some && fuel >= h.calls) {
				t.Errorf("HuntRun(%s, %d) succeeds: %v", c[0], fuel, ok)
			}
		}
	}
}

func TestHuntRefuses(t *testing.T) {
	for _, text := range []string{"-1: ", "61: ", "-1: ()", "61: ()", "0: 1", "0: (); 1", "1: 2", "1: -2", "1: 0", "2: 2 1", "2: 1 1", "2: 1 -1", "2: 1; 1 0", "2: (); 3", "2: 3; ()", "60: 61", "61: 61", "2: 1; -1; 2 1", "256: ", "-60: "} {
		c := readCnf(t, text)
		if isCnf(c) {
			t.Fatal(text)
		}
		for fuel := -2; fuel < 140; fuel++ {
			checkHuntWith(t, hunted(c), fuel)
		}
	}
	strange := append(strangeInts(), -logLimit, -2, -1, logLimit+1, logLimit+2, 255, 256, 257, 258, 386, -256, -255, -129, -128, -127, -126, math.MinInt+1, math.MinInt+logLimit, math.MaxInt-1, 1<<32+logLimit, -1<<32+logLimit)
	for _, text := range []string{"0: ", "0: ()", "2: 1; -1", "2: 1 2", "3: ", "60: 60", "2: 1 2; 1 -2; -1 2; -1 -2"} {
		for _, fuel := range strange {
			vals, log, ok := impl.HuntRun(readCnf(t, text), fuel)
			if got := huntText(vals, log, ok); got != "fails" {
				t.Errorf("HuntRun(%s, %d) = %s", text, fuel, got)
			}
		}
	}
	for _, n := range strangeMarks() {
		for _, c := range []impl.Cnf{{Many: n}, {Many: n, List: [][]int{nil}}, cnfOf(60, ints(n)), cnfOf(60, ints(1), ints(-1), ints(2, n)), cnfOf(60, nil, ints(n, 60))} {
			if c.Many == n && isCnf(c) {
				continue
			}
			vals, log, ok := impl.HuntRun(c, logLimit)
			if got := huntText(vals, log, ok); got != "fails" {
				t.Errorf("HuntRun(%s) = %s", writeCnf(c), got)
			}
		}
	}
	great := cnfOf(60, slices.Repeat([][]int{nil}, 1000000)...)
	if got := huntText(impl.HuntRun(great, logLimit)); got != "fails" || impl.LogOk(great, nil) {
		t.Error("a million clauses:", got)
	}
	long := cnfOf(60, slices.Repeat(ints(1, 2), 1000000))
	if got := huntText(impl.HuntRun(long, logLimit)); got != "fails" || impl.LogOk(long, nil) {
		t.Error("a clause of two million numbers:", got)
	}
}

// treeOf is clauses whose search has just so many conflicts, one at each leaf of a tree that is as flat as can be, or else has one leaf at each level. If it is open, there are truth values in place of the last conflict.
func treeOf(many int, leaves int, flat bool, open bool) impl.Cnf {
	list := [][]int{nil}
	for len(list) < leaves {
		at := len(list) - 1
		if flat {
			for i, leaf := range list {
				if len(leaf) < len(list[at]) {
					at = i
				}
			}
		}
		next := len(list[at]) + 1
		list = slices.Concat(list[:at], [][]int{append(slices.Clone(list[at]), -next), append(slices.Clone(list[at]), next)}, list[at+1:])
	}
	if open {
		list = list[:leaves-1]
	}
	c := impl.Cnf{Many: many}
	for _, leaf := range list {
		next := len(leaf) + 1
		c.List = append(c.List, append(negations(leaf), next), append(negations(leaf), -next))
	}
	return c
}

// TestHuntRunAtTheEndOfTheFuel has searches that take as much fuel as there may be, one more or less, and half of it.
func TestHuntRunAtTheEndOfTheFuel(t *testing.T) {
	nothing, found := map[int]int{}, map[int]int{}
	for _, leaves := range []int{1, 2, 3, 5, 8, 31, 32, 33, 58, 59, 63, 64, 65, 66} {
		for _, flat := range []bool{true, false} {
			least := 8
			if !flat {
				least = leaves
			}
			if least >= markLimit {
				continue
			}
			h := checkHunt(t, treeOf(least, leaves, flat, false))
			if h.found || h.calls != 2*leaves-1 {
				t.Fatal(leaves, h.calls, h.found)
			}
			nothing[h.calls]++
			for _, many := range []int{least, least + 1, least + 2, least + 3, markLimit} {
				if many > markLimit || !flat && many > least+1 {
					continue
				}
				h := checkHunt(t, treeOf(many, leaves, flat, true))
				if !h.found && h.calls <= logLimit {
					t.Fatal(leaves, many, h.calls)
				}
				found[h.calls]++
			}
		}
	}
	for _, calls := range []int{1, 3, 63, 65, 125, 127, 129, 131} {
		if nothing[calls] == 0 {
			t.Errorf("no search that takes %d calls and finds nothing", calls)
		}
	}
	for _, calls := range []int{9, 66, 127, 128, 129, 130, 131} {
		if found[calls] == 0 {
			t.Errorf("no search that takes %d calls and finds truth values", calls)
		}
	}
}

// TestHuntRunWithMostClauses has as many clauses as there may be, together with the log or without it.
func TestHuntRunWithMostClauses(t *testing.T) {
	for _, leaves := range []int{1, 2, 17, 64, 65} {
		for _, open := range []bool{false, true} {
			if leaves == 65 && open {
				continue
			}
			tree := treeOf(8, leaves, true, open)
			log := 2*leaves - 1
			for _, count := range []int{clauseLimit - log - 1, clauseLimit - log, clauseLimit - log + 1, clauseLimit - 1, clauseLimit, clauseLimit + 1} {
				// What is added changes nothing: where it is false but for 8, so is another clause.
				more := slices.Repeat([][]int{ints(1, 2, 3, 4, 5, 6, 7, 8)}, count-len(tree.List))
				at := count % (len(tree.List) + 1)
				h := hunted(cnfOf(8, slices.Concat(tree.List[:at], more, tree.List[at:])...))
				want := count+log <= clauseLimit || open && count <= clauseLimit
				if got := checkHuntWith(t, h, logLimit); got != want || h.succeeds(logLimit) != want || isCnf(h.c) && h.found != open {
					t.Errorf("%d clauses, with %d leaves, open %v: %v", count, leaves, open, got)
				}
				if isCnf(h.c) && !open && impl.LogOk(h.c, h.log) != want {
					t.Errorf("%d clauses and a log of %d: LogOk is not %v", count, log, want)
				}
			}
		}
	}
}

// TestHuntOfEachList has all lists of at most three clauses of two variables, and what no log may refute.
func TestHuntOfEachList(t *testing.T) {
	logs := twoVariableLists()
	some, none := 0, 0
	for i, list := range logs {
		c := cnfOf(2, list...)
		h := checkHunt(t, c)
		if so := slices.ContainsFunc(allVals(2), func(vals []bool) bool { return isTrueCnf(c, vals) }); so != h.found {
			t.Errorf("HuntRun of %s finds %v", writeCnf(c), h.found)
		}
		for j, log := range logs {
			// Of the logs of three clauses, some are enough.
			if len(log) == 3 && (i+j)%5 > 0 {
				continue
			}
			ok, ends := impl.LogOk(c, log), impl.LogEnds(log)
			if h.found && ok && ends {
				t.Errorf("%s has values %v and the proof %s", writeCnf(c), h.vals, writeLog(log))
			}
			if ok && ends {
				some++
			} else {
				none++
			}
			if (i+j)%3 == 0 {
				checkLog(t, c, log)
			}
		}
	}
	if some < 5000 || none < 5000 {
		t.Error(some, none)
	}
}

// isLog is what the document says of LogOk.
func isLog(c impl.Cnf, log [][]int) bool {
	if !isCnf(c) || len(log) > logLimit || len(c.List)+len(log) > clauseLimit {
		return false
	}
	for i, clause := range log {
		if !isRup(cnfOf(c.Many, slices.Concat(c.List, log[:i])...), clause) {
			return false
		}
	}
	return true
}

func endsEmpty(log [][]int) bool {
	for i, clause := range log {
		if i == len(log)-1 {
			return len(clause) == 0
		}
	}
	return false
}

// trimmed is what the document says of LogTrim.
func trimmed(c impl.Cnf, log [][]int) ([][]int, bool) {
	if !isLog(c, log) || !endsEmpty(log) {
		return nil, false
	}
	removed := map[int]bool{}
	rest := func() [][]int {
		var rest [][]int
		for i, clause := range log {
			if !removed[i] {
				rest = append(rest, clause)
			}
		}
		return rest
	}
	for i := len(log) - 2; i >= 0; i-- {
		removed[i] = true
		removed[i] = isLog(c, rest())
	}
	return rest(), true
}

// checkLog checks LogOk, LogEnds and LogTrim of any clauses and log. It tells how many clauses LogTrim leaves.
func checkLog(t *testing.T, c impl.Cnf, log [][]int) int {
	t.Helper()
	what := fmt.Sprintf("(%.300s, %.300s)", writeCnf(c), writeLog(log))
	ok, ends := impl.LogOk(c, log), impl.LogEnds(log)
	if ok != isLog(c, log) {
		t.Errorf("LogOk%s = %v", what, ok)
	}
	if ends != endsEmpty(log) {
		t.Errorf("LogEnds of %s = %v", what, ends)
	}
	want, wantOk := trimmed(c, log)
	got, gotOk := impl.LogTrim(c, log)
	if gotOk != wantOk || !equalLogs(got, want) {
		t.Errorf("LogTrim%s = %.300s, %v; want %.300s, %v", what, writeLog(got), gotOk, writeLog(want), wantOk)
	}
	if gotOk && (!impl.LogOk(c, got) || !impl.LogEnds(got)) {
		t.Errorf("LogTrim%s = %.300s, which is no proof", what, writeLog(got))
	}
	if gotOk != (ok && ends) || !gotOk && len(got) > 0 {
		t.Errorf("LogTrim%s = %v, %v", what, got, gotOk)
	}
	return len(got)
}

const (
	fourPairs   = "2: 1 2; 1 -2; -1 2; -1 -2"
	eightTrips  = "3: 1 2 3; 1 2 -3; 1 -2 3; 1 -2 -3; -1 2 3; -1 2 -3; -1 -2 3; -1 -2 -3"
	chainOfFive = "5: 1 2; -2 3; -3 4; -4 5; 1 -5"
)

func TestLogOk(t *testing.T) {
	for _, c := range []struct {
		cnf, log string
		ok, ends bool
	}{
		// No log, and a log of one clause.
		{"0: ", "", true, false}, {"60: ", "", true, false}, {fourPairs, "", true, false}, {"0: ()", "", true, false}, {"0: ", "()", false, true}, {"0: ()", "()", true, true}, {"2: 1; -1", "()", true, true}, {"2: 1", "()", false, true}, {fourPairs, "()", false, true}, {fourPairs, "1", true, false}, {fourPairs, "-2", true, false}, {"2: 1 2", "1", false, false}, {"2: 1 2", "1 2", true, false}, {"2: ", "1", false, false}, {"2: 1", "1 2", true, false}, {"60: 60", "60", true, false},
		// An empty clause that is given, alone and among others: each clause follows.
		{"2: ()", "1", true, false}, {"2: ()", "1; -2; 1 2; ()", true, true}, {"2: 1 2; ()", "-1; ()", true, true}, {"2: (); 1", "2; 1; ()", true, true}, {"2: ()", "3", false, false}, {"2: ()", "2 1; ()", false, true},
		// Of the ones before.
		{fourPairs, "1; -1; ()", true, true}, {fourPairs, "1; ()", true, true}, {fourPairs, "-1; ()", true, true}, {fourPairs, "2; ()", true, true}, {fourPairs, "(); 1", false, false}, {fourPairs, "1 2; ()", false, true}, {fourPairs, "1; (); 2", true, false}, {fourPairs, "1; (); ()", true, true}, {eightTrips, "1", false, false}, {eightTrips, "1 2; 1", true, false}, {eightTrips, "1 -2; 1", true, false}, {eightTrips, "1; 1 2", false, false}, {eightTrips, "1 2; -1 2; ()", false, true}, {eightTrips, "1 2; 1; -1 2; ()", true, true}, {eightTrips, "1 2; 1; ()", false, true}, {eightTrips, "1 2; -1 2; 2; ()", false, true}, {eightTrips, "1 2; -1 2; 2; 1 -2; ()", true, true}, {eightTrips, "-1 2; 2; 1 2; 1 -2; ()", true, true}, {eightTrips, "2; -1 2; 1 2; 1 -2; ()", false, true}, {eightTrips, "2; 1 2; -1 2; ()", false, true}, {eightTrips, "1 2; -1 2; (); 2", false, false}, {chainOfFive, "1", true, false}, {chainOfFive, "5; 1", false, false}, {chainOfFive, "1; 5", false, false}, {chainOfFive, "1 5; 1 4; 1", true, false},
		// Of themselves, or of the ones behind, nothing follows.
		{"2: ", "1; 1", false, false}, {"2: 1 2", "1; 1; 1", false, false}, {"2: ", "(); ()", false, true}, {"2: 1 2", "1; 2; ()", false, true}, {eightTrips, "1; 1 2; 1 -2", false, false},
		// What does not follow, at each place.
		{"3: 1 2; 1 -2", "1; 3; 1", false, false}, {"3: 1 2; 1 -2", "3; 1", false, false}, {"3: 1 2; 1 -2", "1; 1; 3", false, false}, {"3: 1 2; 1 -2", "1; 1 3; 1 -3", true, false}, {"3: 1 2; 1 -2", "1; 1 3; 1 -3; ()", false, true},
		// A clause of a log that is none.
		{fourPairs, "1; 0; ()", false, true}, {fourPairs, "1; 3; ()", false, true}, {fourPairs, "1; -3; ()", false, true}, {fourPairs, "2 1; 1; ()", false, true}, {fourPairs, "1; 1 1; ()", false, true}, {fourPairs, "1; 1 -1; ()", false, true}, {fourPairs, "1; 1 2 0; ()", false, true}, {fourPairs, "1; (); 3", false, false}, {fourPairs, "1; (); 2 1", false, false}, {"0: ()", "1", false, false}, {"60: ()", "61", false, false}, {"2: ()", "0; ()", false, true}, {"2: ()", "-1 1; ()", false, true},
		// Clauses that are not valid.
		{"-1: ", "", false, false}, {"61: ", "", false, false}, {"61: ()", "()", false, true}, {"-1: ()", "()", false, true}, {"2: 1; 3", "1", false, false}, {"2: 2 1; 1", "1", false, false}, {"2: (); 0", "()", false, true}, {"2: 1; -1; 1 1", "()", false, true}, {"0: (); 1", "()", false, true}, {"1: 2", "", false, false},
	} {
		cnf, log := readCnf(t, c.cnf), readLog(t, c.log)
		if ok, ends := impl.LogOk(cnf, log), impl.LogEnds(log); ok != c.ok || ends != c.ends {
			t.Errorf("(%s, %s): LogOk %v, LogEnds %v", c.cnf, c.log, ok, ends)
		}
		checkLog(t, cnf, log)
	}
	for _, n := range strangeMarks() {
		for _, list := range [][]int{ints(n), ints(1, n), ints(n, 1), ints(1, n, 2)} {
			for _, log := range [][][]int{{list}, {list, nil}, {ints(1), list, nil}, {nil, list}} {
				checkLog(t, cnfOf(60, nil), log)
				checkLog(t, cnfOf(60, list), log)
				if impl.LogOk(cnfOf(60, nil), log) {
					t.Errorf("%s is a log", writeLog(log))
				}
			}
		}
		if c := (impl.Cnf{Many: n, List: [][]int{nil}}); !isCnf(c) {
			checkLog(t, c, [][]int{nil})
			checkLog(t, c, nil)
		}
	}
}

func TestLogEnds(t *testing.T) {
	if impl.LogEnds(nil) || impl.LogEnds([][]int{}) {
		t.Error("no clauses")
	}
	// It is asked of the last clause alone.
	for _, count := range []int{0, 1, 129, 130, 131, 256, 400, 100000} {
		for _, clause := range [][]int{nil, {}, {1}, {0}, {61, 1}} {
			before := slices.Repeat([][]int{clause}, count)
			if !impl.LogEnds(append(before, nil)) || !impl.LogEnds(append(before, []int{})) || impl.LogEnds(append(before, ints(1))) || impl.LogEnds(append(before, ints(0))) || impl.LogEnds(append(before, ints(-1, math.MinInt))) {
				t.Error(count, clause)
			}
		}
	}
	// Room beyond the length of a clause, and of the log.
	row := ints(1, 2)
	log := [][]int{row, row[:0], row[1:]}
	if !impl.LogEnds(log[:2]) || impl.LogEnds(log[:1]) || impl.LogEnds(log) || impl.LogEnds(log[:0]) {
		t.Error("room")
	}
}

// TestLogLimits has logs of LogMost clauses, and logs and clauses that have ClauseMost together, and one more.
func TestLogLimits(t *testing.T) {
	pair := [][]int{ints(59, 60)}
	for _, given := range []int{1, 2, 269, 270, 271, 398, 399, 400, 401} {
		for _, count := range []int{0, 1, 2, 128, 129, 130, 131, 132, 256, 400} {
			c := cnfOf(60, slices.Repeat(pair, given)...)
			log := slices.Repeat(pair, count)
			want := given <= 400 && count <= 130 && given+count <= 400
			if got := impl.LogOk(c, log); got != want {
				t.Errorf("%d clauses and a log of %d: %v", given, count, got)
			}
			if rest, ok := impl.LogTrim(c, log); ok || len(rest) > 0 {
				t.Errorf("%d clauses and a log of %d are trimmed", given, count)
			}
			if count == 0 {
				continue
			}
			// One that ends.
			c.List[given/2] = nil
			log[count-1] = nil
			if got := impl.LogOk(c, log); got != want {
				t.Errorf("%d clauses and a log of %d: %v", given, count, got)
			}
			if rest, ok := impl.LogTrim(c, log); ok != want || ok && (len(rest) != 1 || len(rest[0]) > 0) || !ok && len(rest) > 0 {
				t.Errorf("%d clauses and a log of %d are trimmed: %v, %v", given, count, rest, ok)
			}
		}
	}
	if great := slices.Repeat([][]int{nil}, 1000000); impl.LogOk(cnfOf(1, nil), great) || !impl.LogEnds(great) || impl.LogText(great) != "" {
		t.Error("a log of a million clauses")
	} else if _, ok := impl.LogTrim(cnfOf(1, nil), great); ok {
		t.Error("a log of a million clauses is trimmed")
	}
	if long := [][]int{slices.Repeat(ints(1), 1000000), nil}; impl.LogOk(cnfOf(1, nil), long) || impl.LogText(long) != "" {
		t.Error("a clause of a million numbers")
	}
	// The longest clauses.
	var all []int
	for v := 1; v <= markLimit; v++ {
		all = append(all, v)
	}
	given := [][]int{all}
	var log [][]int
	for v := markLimit; v > 0; v-- {
		log = append(log, all[:v-1])
		given = append(given, append(slices.Clone(all[:v-1]), -v))
	}
	if c := cnfOf(60, given...); !impl.LogOk(c, log) || impl.LogOk(c, append(log, ints(-60, 1))) || impl.LogOk(cnfOf(60, given[:60]...), log) {
		t.Error("the longest clauses")
	} else if rest, ok := impl.LogTrim(c, log); !ok || len(rest) != 1 || len(rest[0]) > 0 {
		t.Error("what unit propagation finds at once is not removed", len(rest), ok)
	}
}

func TestLogTrim(t *testing.T) {
	for _, c := range [][3]string{
		// A log of one clause, and the chapter's example.
		{"0: ()", "()", "()"}, {"2: 1; -1", "()", "()"}, {"2: 1 2; ()", "()", "()"}, {fourPairs, "1; -1; ()", "1; ()"}, {fourPairs, "1; ()", "1; ()"}, {fourPairs, "-2; ()", "-2; ()"},
		// The last is removed first: one can go only because another stays.
		{fourPairs, "1; 2; ()", "1; ()"}, {fourPairs, "2; 1; ()", "2; ()"}, {fourPairs, "-1; 2; 1; -2; ()", "-1; ()"}, {"4: 1 2; 1 -2; -1 2; -1 -2; 3 4", "1; 3 4; 1 3; 2; ()", "1; ()"},
		// One that is needed only for another that is removed.
		{eightTrips, "1 2; 1 -2; 1; -1 2; -1 -2; -1; ()", "1 2; 1; -1 2; ()"}, {eightTrips, "1 2; -1 2; 2; 1; ()", "1 2; -1 2; 1; ()"}, {eightTrips, "1 2; -1 2; 2; 1 -2; ()", "1 2; 2; 1 -2; ()"}, {eightTrips, "1 2; 1; -1 -2; -1 2; -1; ()", "1 2; 1; -1 -2; ()"},
		// There twice, or more often.
		{fourPairs, "1; 1; ()", "1; ()"}, {fourPairs, "1; 1; 1; 1; ()", "1; ()"}, {eightTrips, "1 2; 1 2; 1; 1; -1 2; -1 2; ()", "1 2; 1; -1 2; ()"}, {eightTrips, "1 2; 1; 1 2; -1 2; 1; ()", "1 2; 1; -1 2; ()"},
		// Given already, or weaker.
		{fourPairs, "1 2; -1 -2; 1; 1 -2; ()", "1; ()"}, {fourPairs, "1; 1 2; ()", "1; ()"},
		// An empty clause before the last one.
		{fourPairs, "1; (); ()", "1; ()"}, {fourPairs, "1; (); 2; ()", "1; ()"}, {fourPairs, "1; (); -1; 2; (); ()", "1; ()"}, {"0: ()", "(); (); ()", "()"}, {"2: 1; -1", "(); 1; 2; ()", "()"},
		// All but the last.
		{"2: ()", "1; 2; -1; -2; 1 2; ()", "()"}, {"2: 1; -1 2; -2", "2; 1; ()", "()"}, {"2: 1 2; (); 1", "2; -1; ()", "()"},
		// None.
		{"3: 2 3; 2 -3; -2 3; -2 -3", "2; ()", "2; ()"}, {eightTrips, "1 2; 1; -1 2; ()", "1 2; 1; -1 2; ()"}, {eightTrips, "1 2; 2; 1 -2; ()", "1 2; 2; 1 -2; ()"},
		// Where there is nothing to trim: no last clause that is empty, or no log.
		{fourPairs, "", "-"}, {fourPairs, "1", "-"}, {fourPairs, "1; -1", "-"}, {fourPairs, "1; (); 1", "-"}, {fourPairs, "()", "-"}, {fourPairs, "1 2; ()", "-"}, {fourPairs, "(); 1; ()", "-"}, {"2: 1 2", "1; 2; ()", "-"}, {"2: ", "()", "-"}, {"0: ", "", "-"}, {"0: ", "()", "-"}, {"0: ()", "", "-"}, {fourPairs, "1; 2 1; ()", "-"}, {fourPairs, "1; 0; ()", "-"}, {fourPairs, "3; 1; ()", "-"}, {fourPairs, "1; 0", "-"}, {"61: ()", "()", "-"}, {"-1: ()", "()", "-"}, {"2: (); 3", "()", "-"}, {"2: (); 2 1", "1; ()", "-"},
	} {
		cnf, log := readCnf(t, c[0]), readLog(t, c[1])
		checkLog(t, cnf, log)
		got, ok := impl.LogTrim(cnf, log)
		if ok != (c[2] != "-") || ok && writeLog(got) != c[2] || !ok && len(got) > 0 {
			t.Errorf("LogTrim(%s, %s) = %s, %v; want %s", c[0], c[1], writeLog(got), ok, c[2])
		}
	}
}

// longer makes up a log that has more than it needs: clauses of the log again, given ones, weaker ones, and others.
func (s *numbers) longer(c impl.Cnf, log [][]int, more int) [][]int {
	log = slices.Clone(log)
	for range more {
		at := s.below(len(log))
		clause := s.clause(c.Many, s.below(4))
		switch s.below(4) {
		case 0:
			clause = log[s.below(at+1)]
		case 1:
			clause, _ = clauseFrom(slices.Concat(log[s.below(at+1)], clause))
		case 2:
			if len(c.List) > 0 {
				clause = c.List[s.below(len(c.List))]
			}
		}
		// Most of the time, one that follows there.
		if s.below(30) == 0 || isRup(cnfOf(c.Many, slices.Concat(c.List, log[:at])...), clause) {
			log = slices.Insert(log, at, clause)
		}
	}
	return log
}

// hard makes up clauses of just so many literals, or one more. There are about as many as are needed to have no truth values, where the search takes longest.
func (s *numbers) hard(many int, long int) impl.Cnf {
	c := impl.Cnf{Many: many}
	count := many << long * (60 + s.below(50)) / 100
	for len(c.List) < count {
		if clause := s.clause(many, 2*long); len(clause) == long || len(clause) == long+1 && s.below(4) == 0 {
			c.List = append(c.List, clause)
		}
	}
	return c
}

// TestHuntIsAsDefined compares made-up clauses, and logs that are changed a little, with the chapter by its words.
func TestHuntIsAsDefined(t *testing.T) {
	s := numbers(11)
	found := map[string]int{}
	for range 1200 {
		many := []int{s.below(6), 3 + s.below(6), 6 + s.below(8), s.below(markLimit + 1)}[s.below(4)]
		long := 1 + s.below(3)
		c := s.cnf(many, s.below(1+5*many), long)
		if s.below(2) == 0 {
			long = 2 + s.below(3)
			many = 5 + s.below(20-4*long)
			c = s.hard(many, long)
		}
		if s.below(3) == 0 {
			s.satisfied(c, s.truths(many))
		}
		if s.below(20) == 0 && len(c.List) > 0 {
			at := s.below(len(c.List))
			c.List[at] = s.spoilMarks(c.List[at], many)
		}
		h := checkHunt(t, c)
		checkHuntWith(t, h, s.below(h.calls+3))
		found[fmt.Sprintf("valid %v", isCnf(c))]++
		found[fmt.Sprintf("found %v, enough %v, calls %d", h.found, h.calls <= logLimit, min(3, (h.calls+7)/8))]++
		if len(h.log) == 0 || h.found || h.calls > logLimit {
			continue
		}
		log := h.log
		rest := checkLog(t, c, log)
		found[fmt.Sprintf("less %d", min(3, (len(log)-rest+2)/3))]++
		if log = s.longer(c, log, s.below(8)); s.below(3) == 0 {
			at := s.below(len(log))
			log[at] = s.spoilMarks(log[at], many)
		}
		if s.below(4) == 0 {
			i, j := s.below(len(log)), s.below(len(log))
			log[i], log[j] = log[j], log[i]
		}
		if s.below(6) == 0 {
			log = slices.Delete(log, len(log)/2, len(log)/2+1)
		}
		rest = checkLog(t, c, log)
		found[fmt.Sprintf("log %v %v", isLog(c, log), endsEmpty(log))]++
		found[fmt.Sprintf("rest %d", min(3, (rest+2)/3))]++
	}
	for what, least := range map[string]int{
		"valid true": 1000, "valid false": 30, "found true, enough true, calls 1": 300, "found true, enough true, calls 2": 80, "found true, enough true, calls 3": 30, "found false, enough true, calls 1": 200, "found false, enough true, calls 2": 40, "found false, enough true, calls 3": 50,
		"less 0": 200, "less 1": 50, "less 2": 20, "less 3": 50, "log true true": 200, "log true false": 20, "log false true": 50, "log false false": 20, "rest 0": 50, "rest 1": 100, "rest 2": 20, "rest 3": 50,
	} {
		if found[what] < least {
			t.Errorf("the clauses miss the case %s: %v", what, found)
		}
	}
}

// TestNoClausesHaveBoth is promise 11: what HuntRun returns is right, and clauses that have truth values have no proof, neither one that HuntRun returns for more clauses nor one that is made up.
func TestNoClausesHaveBoth(t *testing.T) {
	s := numbers(111)
	with, without, proofs := 0, 0, 0
	for range 1500 {
		many := s.below(8)
		c := s.cnf(many, s.below(2+4*many), 1+s.below(3))
		if many > 3 && s.below(2) == 0 {
			c = s.hard(many, 2+s.below(2))
		}
		if s.below(2) == 0 {
			s.satisfied(c, s.truths(many))
		}
		so := slices.ContainsFunc(allVals(many), func(vals []bool) bool { return impl.CnfIs(c, vals) })
		vals, log, ok := impl.HuntRun(c, logLimit)
		if !ok {
			t.Fatalf("HuntRun of %s fails", writeCnf(c))
		}
		if !so {
			without++
			if len(vals) > 0 || !impl.LogOk(c, log) || !impl.LogEnds(log) {
				t.Errorf("HuntRun of %s, which nothing satisfies: %s", writeCnf(c), huntText(vals, log, ok))
			}
			continue
		}
		with++
		if len(log) > 0 || !impl.CnfIs(c, vals) {
			t.Errorf("HuntRun of %s, which something satisfies: %s", writeCnf(c), huntText(vals, log, ok))
		}
		for range 6 {
			// A proof that more clauses have no truth values, and what is left of it.
			more := cnfOf(many, slices.Concat(c.List, s.cnf(many, 1+2*many, 1+s.below(2)).List)...)
			_, log, _ := impl.HuntRun(more, logLimit)
			if len(log) == 0 {
				log = append(s.cnf(many, s.below(5), 2).List, nil)
			} else {
				proofs++
			}
			trimmed, _ := impl.LogTrim(more, log)
			given := slices.Concat(more.List[len(c.List):], log)
			for _, log := range [][][]int{log, trimmed, given[:min(len(given), logLimit)], {nil}, {ints(1), ints(-1), nil}} {
				if impl.LogOk(c, log) && impl.LogEnds(log) {
					t.Errorf("%s has the values %s and the proof %s", writeCnf(c), writeVals(vals), writeLog(log))
				}
				if rest, ok := impl.LogTrim(c, log); ok {
					t.Errorf("%s has the values %s and the proof %s", writeCnf(c), writeVals(vals), writeLog(rest))
				}
			}
		}
	}
	if with < 300 || without < 300 || proofs < 1000 {
		t.Error(with, without, proofs)
	}
}

// TestLogTrimLeavesWhatIsNeeded removes each clause of a trimmed log in turn, after which it must be none.
func TestLogTrimLeavesWhatIsNeeded(t *testing.T) {
	s := numbers(1111)
	count := 0
	for range 600 {
		long := 2 + s.below(3)
		many := 5 + s.below(16-3*long)
		c := s.hard(many, long)
		_, log, _ := impl.HuntRun(c, logLimit)
		if len(log) == 0 {
			continue
		}
		rest, ok := impl.LogTrim(c, s.longer(c, log, s.below(10)))
		for i := range rest {
			count++
			if without := slices.Concat(rest[:i], rest[i+1:]); impl.LogOk(c, without) && impl.LogEnds(without) {
				t.Errorf("LogTrim of a log of %s leaves %s; clause %d is not needed", writeCnf(c), writeLog(rest), i)
			}
		}
		if again, againOk := impl.LogTrim(c, rest); againOk != ok || !equalLogs(again, rest) {
			t.Errorf("%s is trimmed again to %s", writeLog(rest), writeLog(again))
		}
	}
	if count < 1000 {
		t.Error(count)
	}
}

// textOf is what the document says of LogText.
func textOf(log [][]int) string {
	if len(log) > logLimit || slices.ContainsFunc(log, func(clause []int) bool { return !isClause(clause, markLimit) }) {
		return ""
	}
	var text strings.Builder
	for _, clause := range log {
		for _, n := range clause {
			fmt.Fprintf(&text, "%d ", n)
		}
		fmt.Fprintln(&text, 0)
	}
	return text.String()
}

// checkLogText checks LogText of any log, and what is read of its text.
func checkLogText(t *testing.T, log [][]int) string {
	t.Helper()
	text := impl.LogText(log)
	if text != textOf(log) {
		t.Errorf("LogText(%.300s) = %.300q; want %.300q", writeLog(log), text, textOf(log))
	}
	if got, ok := impl.LogRead(text); !ok || text != "" && !equalLogs(got, log) || text == "" && len(got) > 0 {
		t.Errorf("LogRead(LogText(%.300s)) = %.300s, %v", writeLog(log), writeLog(got), ok)
	}
	checkLogRead(t, text)
	return text
}

// logPattern is the texts of logs, but for the limits and the order of the variables.
var logPattern = regexp.MustCompile(`^((-?[1-9][0-9]? )*0\n)*$`)

// logFrom is the log whose text it is, if there is one.
func logFrom(text string) ([][]int, bool) {
	if !logPattern.MatchString(text) || strings.Count(text, "\n") > logLimit {
		return nil, false
	}
	var log [][]int
	for _, line := range strings.SplitAfter(text, "\n") {
		words := strings.Fields(line)
		if len(words) == 0 {
			continue
		}
		var clause []int
		for _, word := range words[:len(words)-1] {
			n, err := strconv.Atoi(word)
			if err != nil {
				return nil, false
			}
			clause = append(clause, n)
		}
		if !isClause(clause, markLimit) {
			return nil, false
		}
		log = append(log, clause)
	}
	return log, true
}

// checkLogRead checks what is read of any text.
func checkLogRead(t *testing.T, text string) bool {
	t.Helper()
	want, wantOk := logFrom(text)
	log, ok := impl.LogRead(text)
	if ok != wantOk || !equalLogs(log, want) {
		t.Errorf("LogRead(%.100q) = %.300s, %v; want %v", text, writeLog(log), ok, wantOk)
	}
	if ok && impl.LogText(log) != text {
		t.Errorf("LogRead(%.100q) = %.300s", text, writeLog(log))
	}
	return ok
}

// mostText is the longest text of a log: LogMost clauses with MarkMost literals.
func mostText() string {
	line := ""
	for v := 1; v <= markLimit; v++ {
		line += strconv.Itoa(-v) + " "
	}
	return strings.Repeat(line+"0\n", logLimit)
}

func TestLogText(t *testing.T) {
	for _, c := range [][2]string{
		{"", ""}, {"()", "0\n"}, {"(); ()", "0\n0\n"}, {"1; -1; ()", "1 0\n-1 0\n0\n"}, {"1", "1 0\n"}, {"-1", "-1 0\n"}, {"1 2", "1 2 0\n"}, {"1 -2 3", "1 -2 3 0\n"}, {"(); 1", "0\n1 0\n"}, {"1; (); 2", "1 0\n0\n2 0\n"}, {"9 -10 11; -60; 60", "9 -10 11 0\n-60 0\n60 0\n"}, {"-1 -2 -3; 59 60", "-1 -2 -3 0\n59 60 0\n"}, {"1; 1; 1", "1 0\n1 0\n1 0\n"},
		// What has no text.
		{"0", ""}, {"1 0", ""}, {"0 1", ""}, {"61", ""}, {"-61", ""}, {"1 61", ""}, {"2 1", ""}, {"1 1", ""}, {"1 -1", ""}, {"-1 1", ""}, {"1; 2 1", ""}, {"2 1; 1", ""}, {"(); 0; ()", ""}, {"1; 61; ()", ""}, {"1 2; -1 -1", ""},
	} {
		log := readLog(t, c[0])
		if text := checkLogText(t, log); text != c[1] {
			t.Errorf("LogText(%s) = %q", c[0], text)
		}
		if ok := checkLogRead(t, c[1]); !ok {
			t.Errorf("LogRead(%q) is refused", c[1])
		}
	}
	for _, n := range strangeMarks() {
		for _, list := range [][]int{ints(n), ints(1, n), ints(n, 1), ints(-1, n, 60)} {
			for _, log := range [][][]int{{list}, {list, nil}, {nil, list}, {ints(1), list, ints(2)}} {
				if text := checkLogText(t, log); text != "" {
					t.Errorf("LogText(%s) = %q", writeLog(log), text)
				}
			}
		}
	}
	for _, list := range listsOf(3, ints(0, 1, -1, 2, -2, 60, -60, 61)) {
		checkLogText(t, [][]int{list})
		checkLogText(t, [][]int{{3}, list})
	}
	for _, count := range []int{0, 1, 2, 129, 130, 131, 132, 256, 257, 386, 1000} {
		for _, clause := range [][]int{nil, ints(1), ints(-59, 60)} {
			text := checkLogText(t, slices.Repeat([][]int{clause}, count))
			if lines := strings.Count(text, "\n"); count <= 130 && lines != count || count > 130 && lines != 0 {
				t.Errorf("%d clauses have %d lines", count, lines)
			}
		}
	}
	most, ok := impl.LogRead(mostText())
	if text := checkLogText(t, most); !ok || len(most) != logLimit || len(most[129]) != markLimit || text != mostText() {
		t.Error("the longest text", len(most), ok)
	}
}

func TestLogReadRefuses(t *testing.T) {
	for _, text := range []string{
		// The end of a line, or of the text.
		"0", "1 0", "1", "1 ", "1\n", "1 \n", "-1\n", "0\n0", "1 0\n-1 0\n0", "1 0\n-1", "1 0\n-1 ", "0\n1", "0\n\n", "\n0\n", "\n", "\n\n", "1 0\n\n0\n", "1 0\n\n", " ", " \n", "0\n ", "0\n \n", "0\r\n", "0\r", "0\n\r", "\r\n", "1 0\r\n", "1\r 0\n", "1 0\n0\r\n", "0\v", "0\f\n", "0\u0085", "0\u2028", "0\x00\n", "0\n\x00", "0\x00",
		// A line that does not end with 0, or goes on behind it.
		"1 2\n", "1 2\n0\n", "0\n1 2\n", "1 -2 \n", "1\n0\n", "1 0 0\n", "0 0\n", "0 1 0\n", "1 0 2 0\n", "0 1\n", "1 0 2\n", "0 \n", "1 0 \n", "1 0 1\n", "1 10\n", "10\n", "20\n", "1 00\n", "00\n", "000\n", "-0\n", "+0\n", "1 -0\n", "1 0\n1 -0\n", "0.\n", "0,\n", ".0\n", "0x0\n", "0x\n", "0b0\n", "0_0\n", "0_\n", "0e0\n", "o\n", "O\n", "zero\n",
		// A space too many, too few, or another one.
		" 0\n", "  0\n", " 1 0\n", "1  0\n", "1 2  0\n", "1  2 0\n", "1 0  \n", "\t0\n", "1\t0\n", "1\t2 0\n", "1 2\t0\n", "0\t\n", "1 0\t\n", "1 \t0\n", "1\u00a00\n", "1\u20030\n", "1,0\n", "1, 0\n", "1,2 0\n", "1;0\n", "1\n 0\n", "1 \n0\n", "- 1 0\n", "-\t1 0\n", "1 - 2 0\n", "1-2 0\n", "1 -20\n", "1 2-0\n", "1\x000\n", "1 0\n 0\n", "0\n 1 0\n",
		// Another number, or another way to write it.
		"+1 0\n", "1 +2 0\n", "01 0\n", "1 02 0\n", "-01 0\n", "001 0\n", "--1 0\n", "-+1 0\n", "+-1 0\n", "-0 0\n", "0 0\n", "1 -0 0\n", "1 0 -2 0\n", "00 0\n", "1.0 0\n", "1. 0\n", "1e0 0\n", "0x1 0\n", "0b1 0\n", "0o1 0\n", "1_0 0\n", "1_ 0\n", "_1 0\n", "a 0\n", "1a 0\n", "a1 0\n", "x1 0\n", "not 1 0\n", "!1 0\n", "~1 0\n", "¬1 0\n", "−1 0\n", "–1 0\n", "１ 0\n", "1 ０\n", "١ 0\n", "² 0\n", "- 0\n", "-\n", "+ 0\n", "1 - 0\n", "\"1\" 0\n", "'1' 0\n", "(1) 0\n", "() 0\n", "()\n", "1/1 0\n", "nil\n", "\xff 0\n", "\xff1 0\n", "1\xff 0\n", "\xff", "0\xff\n", "\ufeff0\n", "# 0\n", "c 1 0\n", "p cnf 1 1\n1 0\n", "d 1 0\n",
		// A number past the last variable, or past every int.
		"61 0\n", "-61 0\n", "1 61 0\n", "60 61 0\n", "99 0\n", "100 0\n", "-100 0\n", "256 0\n", "257 0\n", "317 0\n", "65537 0\n", "4294967297 0\n", "9223372036854775807 0\n", "9223372036854775808 0\n", "-9223372036854775808 0\n", "-9223372036854775809 0\n", "18446744073709551615 0\n", "18446744073709551616 0\n", "18446744073709551617 0\n", "-18446744073709551615 0\n", "340282366920938463463374607431768211457 0\n", "1 18446744073709551618 0\n", "1 18446744073709551616\n", "1 0\n61 0\n", "61 0\n0\n", strings.Repeat("1", 1000) + " 0\n", "1" + strings.Repeat("0", 1000) + " 0\n", strings.Repeat("0", 1000) + "1 0\n", strings.Repeat("0", 1000) + "\n",
		// Variables that do not ascend.
		"2 1 0\n", "1 1 0\n", "1 -1 0\n", "-1 1 0\n", "-1 -1 0\n", "2 -1 0\n", "-2 1 0\n", "-2 -1 0\n", "1 3 2 0\n", "1 2 2 0\n", "1 2 -2 0\n", "1 2 1 0\n", "60 59 0\n", "60 60 0\n", "60 1 0\n", "10 9 0\n", "1 0\n2 1 0\n", "2 1 0\n1 0\n", "0\n1 1 0\n0\n",
		// Too many lines.
		strings.Repeat("0\n", 131), strings.Repeat("1 0\n", 131), strings.Repeat("0\n", 130) + "0", strings.Repeat("0\n", 130) + "\n", strings.Repeat("0\n", 130) + "1 0\n", strings.Repeat("0\n", 256), strings.Repeat("0\n", 386), mostText() + "0\n", mostText() + "0", mostText() + " ", mostText() + "\n",
		// Long ones.
		strings.Repeat("0\n", 1000000), strings.Repeat("0", 1000000), strings.Repeat("0 ", 1000000), strings.Repeat("1 ", 1000000), strings.Repeat("1 ", 1000000) + "0\n", strings.Repeat("1 2 ", 500000) + "0\n", strings.Repeat(" ", 1000000), strings.Repeat(" ", 1000000) + "0\n", strings.Repeat("\n", 1000000), strings.Repeat("-", 1000000), strings.Repeat("-", 1000000) + "1 0\n", strings.Repeat("1", 1000000) + " 0\n", "0\n" + strings.Repeat("\x00", 1000000), "1 0" + strings.Repeat("\n", 1000000),
	} {
		if _, ok := logFrom(text); ok {
			t.Errorf("%.40q is the text of a log", text)
		}
		checkLogRead(t, text)
	}
}

// TestLogReadTakesJustTheTexts tries the texts that differ from a right one by a byte or two, and all short ones.
func TestLogReadTakesJustTheTexts(t *testing.T) {
	read := 0
	try := func(text string) {
		if checkLogRead(t, text) {
			read++
		}
	}
	for _, text := range []string{"", "0\n", "0\n0\n", "1 0\n-1 0\n0\n", "1 -2 3 0\n", "-9 10 -11 0\n0\n60 0\n", "-60 0\n", "5 6 59 -60 0\n"} {
		for _, changed := range changedBytes(text, "0123569- +\n\r\tx\x00") {
			try(changed)
			if len(text) > 9 {
				continue
			}
			for _, twice := range changedBytes(changed, "0126- \n") {
				try(twice)
			}
		}
	}
	for _, text := range []string{"0\n", "-1 0\n", "1 2 0\n"} {
		for _, changed := range changedBytes(text, everyByte()) {
			try(changed)
		}
	}
	texts := []string{""}
	for from := 0; len(texts[from]) < 6; from++ {
		for _, some := range "012-\n " {
			texts = append(texts, texts[from]+string(some))
		}
	}
	for _, text := range texts {
		try(text)
	}
	if read < 500 {
		t.Error(read)
	}
}

// TestHuntMemory checks that each result is new memory at every level, and that nothing writes to an argument, also beyond its length.
func TestHuntMemory(t *testing.T) {
	// The clauses share memory with one another, and the lists have room beyond their lengths.
	row := ints(-1, 2, 3, -4, 5, 6, 7)
	rows := [][]int{row[1:2], row[:2], row[1:3], row[2:4], row[3:5], row[:0], row[6:7], row[5:6]}
	log := [][]int{row[:0], row[1:2], row[1:3], row[1:2], row[:0], row[:1], row[4:5]}
	state := func() string { return writeInts(row) + writeCnf(cnfOf(7, rows...)) + writeLog(log) }
	before := state()
	known, lists, cells := map[*int]bool{}, map[*[]int]bool{}, map[*bool]bool{}
	intCells(row, known)
	for _, list := range [][][]int{rows, log} {
		for i := range list {
			lists[&list[i]] = true
		}
	}
	isNew := func(list [][]int) bool {
		fine := true
		all := list[:cap(list)]
		for i := range all {
			fine = fine && !lists[&all[i]] && !intCells(all[i], known) && (i < len(list) || len(all[i]) == 0)
			lists[&all[i]] = true
		}
		return fine
	}
	for range 2 {
		for count := range 7 {
			c := cnfOf(7, rows[:count]...)
			vals, made, ok := impl.HuntRun(c, 100)
			if all := vals[:cap(vals)]; ok != (len(vals) == 7 || len(made) > 0) {
				t.Errorf("HuntRun(%s) = %v, %v, %v", writeCnf(c), vals, made, ok)
			} else {
				for i := range all {
					if cells[&all[i]] || i >= len(vals) && all[i] {
						t.Errorf("the values of %s share memory", writeCnf(c))
					}
					cells[&all[i]] = true
				}
			}
			if !isNew(made) {
				t.Errorf("the log of %s shares memory", writeCnf(c))
			}
		}
		c := cnfOf(7, rows[:6]...)
		_, made, _ := impl.HuntRun(cnfOf(7, ints(2, 7), ints(2, -7), ints(-2, 7), ints(-2, -7)), 100)
		if len(made) < 5 || !isNew(made) {
			t.Errorf("a longer log %v shares memory", made)
		}
		for from := range 4 {
			rest, ok := impl.LogTrim(c, log[from:5])
			if !impl.LogOk(c, log[from:5]) || !impl.LogEnds(log[from:5]) || !ok || !isNew(rest) {
				t.Errorf("LogTrim(%s, %s) = %v, %v shares memory", writeCnf(c), writeLog(log[from:5]), rest, ok)
			}
		}
		// Clauses of which none can be removed; one place in memory is there twice.
		eight := readCnf(t, eightTrips)
		needed := readLog(t, "1 2; 1; -1 2; ()")
		needed[1] = needed[0][:1]
		for i := range needed {
			lists[&needed[i]] = true
		}
		intCells(needed[0], known)
		intCells(needed[2], known)
		if rest, ok := impl.LogTrim(eight, needed); !ok || len(rest) != 4 || !isNew(rest) {
			t.Errorf("LogTrim shares memory: %v, %v", rest, ok)
		}
		if text := impl.LogText(log); text != textOf(log) {
			t.Errorf("LogText(%s) = %q", writeLog(log), text)
		}
		if got, ok := impl.LogRead(textOf(log)); !ok || !isNew(got) {
			t.Errorf("LogRead(%q) shares memory", textOf(log))
		}
	}
	if state() != before {
		t.Errorf("an argument has changed: %s; was %s", state(), before)
	}
}

// TestHuntLeavesNothingRunning checks that no goroutine of a search is left behind, also where its fuel ends.
func TestHuntLeavesNothingRunning(t *testing.T) {
	before := runtime.NumGoroutine()
	for _, text := range []string{"3: ", "0: ()", eightTrips, fourPairs, "60: 59 60; 59 -60; -59 60; -59 -60", "2: 3"} {
		for fuel := -1; fuel <= logLimit+1; fuel += 3 {
			impl.HuntRun(readCnf(t, text), fuel)
		}
	}
	// One that has just ended may still be counted for a while.
	for range 200 {
		if runtime.NumGoroutine() <= before {
			return
		}
		time.Sleep(10 * time.Millisecond)
	}
	t.Error(before, runtime.NumGoroutine())
}

// TestHuntsAtTheSameTime checks that searches that run at the same time do not share anything.
func TestHuntsAtTheSameTime(t *testing.T) {
	var hunts []*hunter
	s := numbers(11111)
	for range 40 {
		many := 4 + s.below(6)
		hunts = append(hunts, hunted(s.hard(many, 3)))
	}
	var group sync.WaitGroup
	for at := range 8 {
		group.Go(func() {
			for i := range hunts {
				checkHuntWith(t, hunts[(i+5*at)%len(hunts)], logLimit-i)
			}
		})
	}
	group.Wait()
}
