package tests

import (
	"math"
	"regexp"
	"slices"
	"strconv"
	"strings"
	"testing"

	"loop.example/compurgator/impl"
)

// These repeat the document's numbers, so that wrong constants of impl fail too.
const (
	atomEq     = 1
	atomSum    = 2
	timesLimit = 50
	boundLimit = 1000
	sumLimit   = 4
)

func TestAtomConstants(t *testing.T) {
	if impl.AtomEq != atomEq || impl.AtomSum != atomSum || impl.TimesMost != timesLimit || impl.BoundMost != boundLimit {
		t.Error(impl.AtomEq, impl.AtomSum, impl.TimesMost, impl.BoundMost)
	}
}

// eqOf and sumOf write atoms shorter; they may be invalid.
func eqOf(a impl.Term, b impl.Term) impl.Atom { return impl.Atom{Kind: atomEq, A: a, B: b} }

func sumOf(bound int, times []int, nums ...impl.Term) impl.Atom {
	return impl.Atom{Kind: atomSum, Nums: nums, Times: times, Bound: bound}
}

// below is the same atom with Strict set.
func below(a impl.Atom) impl.Atom {
	a.Strict = true
	return a
}

// ints writes coefficients shorter.
func ints(list ...int) []int { return list }

// writeAtom writes any atom whose terms have an end, without the function under test.
func writeAtom(a impl.Atom) string {
	if a.Kind == atomEq {
		return writeTerm(a.A) + "=" + writeTerm(a.B)
	}
	text := ""
	for i, num := range a.Nums {
		text += strconv.Itoa(a.Times[i]) + "*" + writeTerm(num) + " "
	}
	sign := "<= "
	if a.Strict {
		sign = "< "
	}
	return text + sign + strconv.Itoa(a.Bound)
}

// equalAtom compares field by field, without the function under test. The terms have an end.
func equalAtom(a impl.Atom, b impl.Atom) bool {
	return a.Kind == b.Kind && equalTerm(a.A, b.A) && equalTerm(a.B, b.B) && slices.EqualFunc(a.Nums, b.Nums, equalTerm) &&
		slices.Equal(a.Times, b.Times) && a.Bound == b.Bound && a.Strict == b.Strict
}

func isZeroAtom(a impl.Atom) bool { return equalAtom(a, impl.Atom{}) }

func isZeroLit(l impl.Lit) bool { return isZeroAtom(l.Atom) && !l.No }

// copyAtom is an atom in other memory. Its terms have an end.
func copyAtom(a impl.Atom) impl.Atom {
	other := a
	other.A, other.B, other.Nums, other.Times = copyTerm(a.A), copyTerm(a.B), nil, slices.Clone(a.Times)
	for _, num := range a.Nums {
		other.Nums = append(other.Nums, copyTerm(num))
	}
	return other
}

// isTerm is what the document says of a term with an end that is well-formed.
func isTerm(x impl.Term) bool {
	return sizeOf(x) <= termLimit && deepOf(x) <= deepLimit && widthOf(x) <= argLimit && hasNames(x)
}

var nameShape = regexp.MustCompile(`\A[a-z]{1,2}\z`)

// hasNames reports whether each name in a term with an end is one.
func hasNames(x impl.Term) bool {
	return nameShape.MatchString(x.Name) && !slices.ContainsFunc(x.Kids, func(kid impl.Term) bool { return !hasNames(kid) })
}

// isAtom is what the document says of an atom that is well-formed. Its terms have an end.
func isAtom(a impl.Atom) bool {
	switch a.Kind {
	case atomEq:
		return isTerm(a.A) && isTerm(a.B) && len(a.Nums) == 0 && len(a.Times) == 0 && a.Bound == 0 && !a.Strict
	case atomSum:
		if !isZeroTerm(a.A) || !isZeroTerm(a.B) || len(a.Nums) < 1 || len(a.Nums) > sumLimit || len(a.Times) != len(a.Nums) || a.Bound < -boundLimit || a.Bound > boundLimit {
			return false
		}
		for i, num := range a.Nums {
			if !isTerm(num) || a.Times[i] == 0 || a.Times[i] < -timesLimit || a.Times[i] > timesLimit || i > 0 && writeTerm(a.Nums[i-1]) >= writeTerm(num) {
				return false
			}
		}
		return true
	}
	return false
}

// sampleAtoms are well-formed atoms with their texts; some are at the limits.
func sampleAtoms() map[string]impl.Atom {
	a, b, x, y := app("a"), app("b"), app("x"), app("y")
	h, f := app("h", a), app("f", a, b)
	deep := app("f", app("g", app("h", a)))
	big := sampleTerms()["f(g(h(a,b),h(c,d)),g(h(x),y))"]
	full := sampleTerms()["f(f(f(a,a),f(a,a)),f(f(a,a)))"]
	return map[string]impl.Atom{
		"a=b":         eqOf(a, b),
		"b=a":         eqOf(b, a),
		"a=a":         eqOf(a, a),
		"zz=h(a)":     eqOf(app("zz"), h),
		"f(a,b)=h(a)": eqOf(f, h),
		"f(g(h(a)))=f(f(f(a,a),f(a,a)),f(f(a,a)))":                    eqOf(deep, full),
		"f(g(h(a,b),h(c,d)),g(h(x),y))=f(g(h(a,b),h(c,d)),g(h(x),y))": eqOf(big, big),
		"1*x <= 0":                        sumOf(0, ints(1), x),
		"1*x < 0":                         below(sumOf(0, ints(1), x)),
		"-1*x <= 1":                       sumOf(1, ints(-1), x),
		"-1*x < -1":                       below(sumOf(-1, ints(-1), x)),
		"50*x <= 1000":                    sumOf(1000, ints(50), x),
		"-50*x < -1000":                   below(sumOf(-1000, ints(-50), x)),
		"2*h(a) -1*x < 3":                 below(sumOf(3, ints(2, -1), h, x)),
		"1*h(a) -2*x <= 5":                sumOf(5, ints(1, -2), h, x),
		"1*a 1*a(a) <= 10":                sumOf(10, ints(1, 1), a, app("a", a)),
		"1*f(a) 1*f(a,a) 1*fa 1*g <= -10": sumOf(-10, ints(1, 1, 1, 1), app("f", a), app("f", a, a), app("fa"), app("g")),
		"10*a -10*b 49*x -49*y < 999":     below(sumOf(999, ints(10, -10, 49, -49), a, b, x, y)),
		"50*a 50*aa 50*ab 50*b <= -1000":  sumOf(-1000, ints(50, 50, 50, 50), a, app("aa"), app("ab"), b),
		"7*f(f(f(a,a),f(a,a)),f(f(a,a))) -8*f(g(h(a))) 9*zz <= 100":     sumOf(100, ints(7, -8, 9), full, deep, app("zz")),
		"-20*f(g(h(a))) 30*f(g(h(a,b),h(c,d)),g(h(x),y)) 40*y < 0":      below(sumOf(0, ints(-20, 30, 40), deep, big, y)),
		"1*f(a(a)) -1*f(a) 1*f(a,a(a)) -1*f(a,a) <= 1":                  sumOf(1, ints(1, -1, 1, -1), app("f", app("a", a)), app("f", a), app("f", a, app("a", a)), app("f", a, a)),
		"5*a -5*f(a,b) 5*h(a) -5*zz <= 5":                               sumOf(5, ints(5, -5, 5, -5), a, f, h, app("zz")),
		"1*f(f(f(a,a),f(a,a)),a) 1*f(f(f(a,a),f(a,a)),f(f(a,a))) <= 20": sumOf(20, ints(1, 1), app("f", app("f", app("f", a, a), app("f", a, a)), a), full),
	}
}

// strangeInts are neither a kind, nor a coefficient, nor a bound.
func strangeInts() []int {
	return []int{1001, -1001, 1 << 16, 1<<16 + 1, 1 << 32, 1<<32 + 1, 1<<32 + 2, math.MaxInt32, math.MinInt32, math.MaxInt, math.MinInt}
}

// badAtoms break one condition of a well-formed atom, or more. Their terms have an end.
func badAtoms() []impl.Atom {
	a, b, x, y := app("a"), app("b"), app("x"), app("y")
	list := []impl.Atom{
		{}, {A: a, B: b}, {Nums: []impl.Term{x}, Times: ints(1)},
		// A field that has to be zero.
		{Kind: atomEq, A: a, B: b, Nums: []impl.Term{x}}, {Kind: atomEq, A: a, B: b, Nums: []impl.Term{{}}}, {Kind: atomEq, A: a, B: b, Times: ints(1)}, {Kind: atomEq, A: a, B: b, Times: ints(0)}, {Kind: atomEq, A: a, B: b, Nums: []impl.Term{x}, Times: ints(1)},
		{Kind: atomEq, A: a, B: b, Bound: 1}, {Kind: atomEq, A: a, B: b, Bound: -1}, {Kind: atomEq, A: a, B: b, Strict: true}, {Kind: atomEq, Nums: []impl.Term{x}, Times: ints(1)},
		{Kind: atomSum, A: a, Nums: []impl.Term{x}, Times: ints(1)}, {Kind: atomSum, B: b, Nums: []impl.Term{x}, Times: ints(1)}, {Kind: atomSum, A: impl.Term{Kids: []impl.Term{a}}, Nums: []impl.Term{x}, Times: ints(1)}, {Kind: atomSum, B: impl.Term{Kids: []impl.Term{{}}}, Nums: []impl.Term{x}, Times: ints(1)},
		{Kind: atomSum, A: a, B: a, Nums: []impl.Term{x}, Times: ints(1)}, {Kind: atomSum, A: a, B: b},
		// A term is missing, or the coefficients are not as many.
		{Kind: atomEq}, {Kind: atomEq, A: a}, {Kind: atomEq, B: b}, {Kind: atomSum}, sumOf(0, ints(1)), sumOf(0, nil, x), sumOf(0, ints(1, 1), x), sumOf(0, ints(1, 0), x), sumOf(0, ints(1), x, y), sumOf(0, ints(1, 1, 1), x, y), sumOf(0, ints(1, 1, 1), a, b, x, y), sumOf(0, ints(1, 1, 1, 1, 1), a, b, x, y),
		// Terms too many, also if less would remain.
		sumOf(0, ints(1, 1, 1, 1, 1), a, b, app("c"), x, y), sumOf(0, ints(1, 1, 1, 1, 1), a, a, b, x, y), sumOf(0, ints(1, -1, 1), a, a, b), sumOf(0, slices.Repeat(ints(1), 1000), slices.Repeat([]impl.Term{a}, 1000)...), sumOf(0, make([]int, 1000), make([]impl.Term, 1000)...),
		// A term twice, or terms that do not ascend, at each place.
		sumOf(0, ints(1, 1), x, x), sumOf(0, ints(1, -1), x, x), sumOf(0, ints(1, 2), x, x), sumOf(0, ints(50, -50), x, x), sumOf(0, ints(1, 1, 1), a, a, x), sumOf(0, ints(1, 1, 1), a, x, x), sumOf(0, ints(1, 1, 1), x, a, x), sumOf(0, ints(1, -1, 1), a, a, x), sumOf(0, ints(1, 1, -1), a, x, x),
		sumOf(0, ints(1, 1), y, x), sumOf(0, ints(1, 1, 1), b, a, x), sumOf(0, ints(1, 1, 1), a, x, b), sumOf(0, ints(1, 1, 1, 1), a, b, y, x), sumOf(0, ints(1, 1, 1, 1), b, x, y, a), sumOf(0, ints(1, 1), app("h", x), app("h", x)), sumOf(0, ints(math.MaxInt, math.MaxInt), x, x), sumOf(0, ints(math.MinInt, math.MinInt), x, x), sumOf(0, ints(math.MaxInt, math.MinInt), x, x), sumOf(0, ints(math.MinInt, math.MinInt, 1), x, x, y),
		// A coefficient or a bound that is out of range.
		sumOf(0, ints(0), x), sumOf(0, ints(51), x), sumOf(0, ints(-51), x), sumOf(0, ints(1, 0), x, y), sumOf(0, ints(0, 1), x, y), sumOf(0, ints(1, 51), x, y), sumOf(0, ints(1, 1, 1, -51), a, b, x, y), sumOf(0, ints(1, 1, 0, 1), a, b, x, y), sumOf(1001, ints(1), x), sumOf(-1001, ints(1), x), below(sumOf(1001, ints(1), x)), below(sumOf(-1001, ints(1), x)),
	}
	for _, n := range append(strangeInts(), -1, 0, 3, 4, 255, 256, 257, 258) {
		list = append(list, impl.Atom{Kind: n}, impl.Atom{Kind: n, A: a, B: b}, impl.Atom{Kind: n, Nums: []impl.Term{x}, Times: ints(1)}, impl.Atom{Kind: n, A: a, B: b, Nums: []impl.Term{x}, Times: ints(1)})
	}
	for _, n := range strangeInts() {
		list = append(list, sumOf(n, ints(1), x), sumOf(0, ints(n), x), sumOf(0, ints(1, n), x, y), sumOf(0, ints(n, n), x, x), impl.Atom{Kind: atomEq, A: a, B: b, Bound: n})
	}
	for _, bad := range badTerms() {
		list = append(list, atomsWith(bad)...)
	}
	return list
}

// atomsWith are atoms with a term that is not well-formed in each place, beside others that are well-formed, and before or behind it.
func atomsWith(bad impl.Term) []impl.Atom {
	a, z := app("a"), app("zz", app("zz"))
	list := []impl.Atom{
		eqOf(bad, a), eqOf(a, bad), eqOf(bad, bad), sumOf(0, ints(1), bad), below(sumOf(3, ints(-1), bad)), sumOf(0, ints(1, 1), a, bad), sumOf(0, ints(1, 1), bad, z), sumOf(0, ints(1, 1, 1), a, bad, z), sumOf(0, ints(1, 1), bad, bad), sumOf(0, ints(1, -1), bad, bad),
		sumOf(0, ints(1, -1, 1), bad, bad, z), {Kind: atomEq, A: a, B: a, Nums: []impl.Term{bad}}, {Kind: atomEq, A: a, B: a, Nums: []impl.Term{bad}, Times: ints(1)}, {A: bad, B: bad, Nums: []impl.Term{bad}, Times: ints(1)},
	}
	if bad.Name == "" && len(bad.Kids) == 0 {
		return list
	}
	return append(list, impl.Atom{Kind: atomSum, A: bad, Nums: []impl.Term{a}, Times: ints(1)}, impl.Atom{Kind: atomSum, B: bad, Nums: []impl.Term{a}, Times: ints(1)})
}

// endlessAtoms are not well-formed, as a term of theirs has no end or seems to have none; in some of them, only a term that has to be zero.
func endlessAtoms() []impl.Atom {
	var list []impl.Atom
	for _, bad := range endlessTerms() {
		list = append(list, atomsWith(bad)...)
	}
	return list
}

// TestAtomText and the next ones are promise 6.
func TestAtomText(t *testing.T) {
	for text, a := range sampleAtoms() {
		if writeAtom(a) != text || !isAtom(a) || !isAtomText(text) {
			t.Fatalf("the test's own %q is not the text of %v", text, a)
		}
		if got := impl.AtomText(a); got != text {
			t.Errorf("AtomText(%v) = %q; want %q", a, got, text)
		}
		for _, no := range []bool{false, true} {
			checkLitText(t, impl.Lit{Atom: a, No: no})
		}
		if back, ok := impl.AtomRead(text); !ok || !equalAtom(back, a) {
			t.Errorf("AtomRead(%q) = %v, %v; want %v", text, back, ok, a)
		}
	}
}

// checkLitText checks a literal that is well-formed: its text, and that it is read back from there.
func checkLitText(t *testing.T, l impl.Lit) {
	t.Helper()
	want := writeAtom(l.Atom)
	if l.No {
		want = "not " + want
	}
	if got := impl.LitText(l); got != want {
		t.Errorf("LitText(%v) = %q; want %q", l, got, want)
	}
	if back, ok := impl.LitRead(want); !ok || !equalAtom(back.Atom, l.Atom) || back.No != l.No {
		t.Errorf("LitRead(%q) = %v, %v; want %v", want, back, ok, l)
	}
}

// TestAtomRefuses tries what is no atom in each of the functions.
func TestAtomRefuses(t *testing.T) {
	for i, a := range badAtoms() {
		if isAtom(a) {
			t.Fatalf("the test's own %v is well-formed", a)
		}
		checkNoAtom(t, "bad", i, a)
	}
	for i, a := range endlessAtoms() {
		checkNoAtom(t, "endless", i, a)
	}
}

func checkNoAtom(t *testing.T, what string, i int, a impl.Atom) {
	t.Helper()
	for _, text := range []string{"", "a - 1\nb - 1\nf 11 1\ng 1 1\nx - 1\ny - 1\n", "a - 0\nb - 0\nf 00 0\nx - 1\ny - 1\n", "f 1 1\nzz 1 1\n"} {
		if impl.AtomOk(readSig(t, text), a) {
			t.Errorf("%s atom %d, kind %d: AtomOk under %q", what, i, a.Kind, text)
		}
	}
	if text := impl.AtomText(a); text != "" {
		t.Errorf("%s atom %d, kind %d: AtomText is %.100q; want the empty text", what, i, a.Kind, text)
	}
	for _, no := range []bool{false, true} {
		l := impl.Lit{Atom: a, No: no}
		if text := impl.LitText(l); text != "" {
			t.Errorf("%s atom %d, kind %d, %v: LitText is %.100q; want the empty text", what, i, a.Kind, no, text)
		}
		if not := impl.LitNot(l); !isZeroLit(not) {
			t.Errorf("%s atom %d, kind %d, %v: LitNot is %v; want the zero value", what, i, a.Kind, no, not)
		}
		if list := impl.LitTerms(l); len(list) != 0 {
			t.Errorf("%s atom %d, kind %d, %v: LitTerms is %d terms; want none", what, i, a.Kind, no, len(list))
		}
	}
}

// TestAtomNumbers tries each coefficient and bound in range, and some that are not.
func TestAtomNumbers(t *testing.T) {
	x := app("x")
	for n := -boundLimit - 20; n <= boundLimit+20; n++ {
		for _, strict := range []bool{false, true} {
			a := sumOf(n, ints(-7), x)
			a.Strict = strict
			checkMaybeAtom(t, a, -boundLimit <= n && n <= boundLimit)
		}
		checkMaybeAtom(t, sumOf(-7, ints(n), x), -timesLimit <= n && n <= timesLimit && n != 0)
		checkMaybeAtom(t, sumOf(-7, ints(1, n), app("h", x), x), -timesLimit <= n && n <= timesLimit && n != 0)
	}
}

// checkMaybeAtom checks all functions for an atom that may be well-formed, and whose terms have an end.
func checkMaybeAtom(t *testing.T, a impl.Atom, ok bool) {
	t.Helper()
	text := writeAtom(a)
	back, backOk := impl.AtomRead(text)
	if backOk != ok || ok && !equalAtom(back, a) || !ok && !isZeroAtom(back) {
		t.Errorf("AtomRead(%q) = %v, %v; want %v", text, back, backOk, ok)
	}
	for _, no := range []bool{false, true} {
		if ok {
			checkLitText(t, impl.Lit{Atom: a, No: no})
			checkLit(t, impl.Lit{Atom: a, No: no})
		} else {
			checkLitRead(t, map[bool]string{true: "not "}[no]+text)
		}
	}
	if !ok {
		checkNoAtom(t, text, 0, a)
	}
}

// checkLit checks the negation and the terms of a literal that is well-formed.
func checkLit(t *testing.T, l impl.Lit) {
	t.Helper()
	not := impl.LitNot(l)
	if !equalAtom(not.Atom, l.Atom) || not.No == l.No {
		t.Errorf("LitNot(%v) = %v", l, not)
	}
	if again := impl.LitNot(not); !equalAtom(again.Atom, l.Atom) || again.No != l.No {
		t.Errorf("LitNot of LitNot(%v) = %v", l, again)
	}
	want := l.Atom.Nums
	if l.Atom.Kind == atomEq {
		want = []impl.Term{l.Atom.A, l.Atom.B}
	}
	if got := impl.LitTerms(l); !slices.EqualFunc(got, want, equalTerm) {
		t.Errorf("LitTerms(%v) = %v; want %v", l, got, want)
	}
}

func TestLitNotAndLitTerms(t *testing.T) {
	for _, a := range sampleAtoms() {
		checkLit(t, impl.Lit{Atom: a})
		checkLit(t, impl.Lit{Atom: a, No: true})
	}
	for _, c := range [][3]string{
		{"a=b", "not a=b", "a b"}, {"not b=a", "b=a", "b a"}, {"a=a", "not a=a", "a a"}, {"not f(a)=f(f(a))", "f(a)=f(f(a))", "f(a) f(f(a))"},
		{"not 2*h(a) -1*x < 3", "2*h(a) -1*x < 3", "h(a) x"}, {"1*x <= 0", "not 1*x <= 0", "x"}, {"-1*x < 0", "not -1*x < 0", "x"}, {"1*a -2*b 3*c(a) -4*d <= 5", "not 1*a -2*b 3*c(a) -4*d <= 5", "a b c(a) d"},
	} {
		l := readLit(t, c[0])
		if not := impl.LitText(impl.LitNot(l)); not != c[1] {
			t.Errorf("LitNot of %s: %s; want %s", c[0], not, c[1])
		}
		if terms := termTexts(impl.LitTerms(l)); terms != c[2] {
			t.Errorf("LitTerms of %s: %s; want %s", c[0], terms, c[2])
		}
	}
}

// readLit reads a literal that the test itself needs, and checks that it has that text.
func readLit(t *testing.T, text string) impl.Lit {
	t.Helper()
	l, ok := impl.LitRead(text)
	if !ok || impl.LitText(l) != text || writeLit(l) != text {
		t.Fatalf("LitRead(%q) = %v, %v", text, l, ok)
	}
	return l
}

func writeLit(l impl.Lit) string {
	if l.No {
		return "not " + writeAtom(l.Atom)
	}
	return writeAtom(l.Atom)
}

// TestAtomOrder tries each two, and some three and four, of terms whose texts are compared byte by byte.
func TestAtomOrder(t *testing.T) {
	var list []impl.Term
	for _, text := range []string{
		"a", "a(a)", "a(a(a))", "a(a,a)", "a(a,a(a))", "a(a,aa)", "a(aa)", "a(aa,a)", "aa", "aa(a)", "ab", "az", "b", "b(a)", "ba", "f(a(b))", "f(a)", "f(a,b)", "f(ab)", "f(b)", "z", "z(a)", "zz", "f(f(f(a,a),f(a,a)),f(f(a,a)))", "f(f(f(a,a),f(a,a)),f(f(a)))", "f(f(f(a,a),f(a)))",
	} {
		list = append(list, readTerm(t, text))
	}
	for i, x := range list {
		for j, y := range list {
			checkMaybeAtom(t, sumOf(i, ints(1, -1), x, y), writeTerm(x) < writeTerm(y))
			checkMaybeAtom(t, sumOf(j, ints(2, -3), x, y), writeTerm(x) < writeTerm(y))
		}
	}
	s := numbers(66)
	ascending := 0
	for range 4000 {
		a := sumOf(0, nil)
		for range 3 + s.below(2) {
			a.Nums, a.Times = append(a.Nums, list[s.below(len(list))]), append(a.Times, 1)
		}
		if s.below(2) == 0 {
			slices.SortFunc(a.Nums, func(x impl.Term, y impl.Term) int { return strings.Compare(writeTerm(x), writeTerm(y)) })
		}
		checkMaybeAtom(t, a, isAtom(a))
		if isAtom(a) {
			ascending++
		}
	}
	if ascending < 1000 || ascending > 3000 {
		t.Errorf("%d of the sums ascend", ascending)
	}
}

var (
	eqShape  = regexp.MustCompile(`\A([^=]*)=([^=]*)\z`)
	sumShape = regexp.MustCompile(`\A((?:-?[1-9][0-9]?\*[a-z(,)]+ ){1,4})<=? (0|-?[1-9][0-9]{0,3})\z`)
)

// isAtomText is what the document says of the texts of atoms, without the functions under test.
func isAtomText(text string) bool {
	if sides := eqShape.FindStringSubmatch(text); sides != nil && isTermText(sides[1]) && isTermText(sides[2]) {
		return true
	}
	pieces := sumShape.FindStringSubmatch(text)
	if pieces == nil {
		return false
	}
	last := ""
	for _, word := range strings.Fields(pieces[1]) {
		times, num, _ := strings.Cut(word, "*")
		if n, _ := strconv.Atoi(times); n < -timesLimit || n > timesLimit || !isTermText(num) || num <= last {
			return false
		}
		last = num
	}
	bound, _ := strconv.Atoi(pieces[2])
	return -boundLimit <= bound && bound <= boundLimit
}

// checkLitRead checks what is read from any text: as a literal, and as an atom.
func checkLitRead(t *testing.T, text string) {
	t.Helper()
	a, ok := impl.AtomRead(text)
	if want := isAtomText(text); ok != want {
		t.Errorf("AtomRead(%.60q) = %v, %v; want %v", text, a, ok, want)
	}
	if ok && (impl.AtomText(a) != text || writeAtom(a) != text) || !ok && !isZeroAtom(a) {
		t.Errorf("AtomRead(%.60q) = %v, %v", text, a, ok)
	}
	l, ok := impl.LitRead(text)
	if want := isAtomText(strings.TrimPrefix(text, "not ")); ok != want {
		t.Errorf("LitRead(%.60q) = %v, %v; want %v", text, l, ok, want)
	}
	if ok && (impl.LitText(l) != text || writeLit(l) != text) || !ok && !isZeroLit(l) {
		t.Errorf("LitRead(%.60q) = %v, %v", text, l, ok)
	}
}

func TestAtomReadRefuses(t *testing.T) {
	for _, text := range []string{
		// Nothing, or a side, a sign or a bound too few or too many.
		"", "a", "=", "a=", "=a", "a==a", "a=b=c", "a=b=", "=a=b", "a=b a=b", "a b", "1*x", "1*x ", "1*x <=", "1*x <= ", "1*x <", "1*x < ", "1*x 0", "1*x  0", "<= 0", " <= 0", "< 0", "0", "*", "1*", "*x", "1* <= 0", "*x <= 0", "1*x <= 0 0", "1*x <= 0 <= 0", "1*x <= 1*y", "0 <= 1*x", "1*x <= 0 1*y <= 0", "1*x <= 0=0", "a=b <= 0",
		"x <= 0", "1x <= 0", "1*x y <= 0", "x 1*y <= 0", "1*x*y <= 0", "1**x <= 0", "1*1*x <= 0", "1*x 1 <= 0", "1 1*x <= 0", "1*x= 0", "1*x=0", "1*x=y", "x=1*y", "1*x=1*y",
		// Another sign.
		"1*x = 0", "1*x == 0", "1*x > 0", "1*x >= 0", "1*x =< 0", "1*x => 0", "1*x << 0", "1*x <== 0", "1*x <=> 0", "1*x != 0", "1*x <=< 0", "1*x ≤ 0", "1*x , 0", "1*x - 0", "1*x  0", "1*x x 0", "a<b", "a<=b", "a!=b", "a:b", "a=>b", "a<=>b",
		// Spaces too few or too many, or other ones.
		" a=b", "a=b ", "a =b", "a= b", "a = b", " 1*x <= 0", "1*x <= 0 ", "1 *x <= 0", "1* x <= 0", "1 * x <= 0", "1*x  <= 0", "1*x <=  0", "1*x<= 0", "1*x <=0", "1*x<=0", "1*x< 0", "1*x <0", "1*x < = 0", "1*x <= - 1", "- 1*x <= 0", "1*x  1*y <= 0", "1*x1*y <= 0", "1*x\t<= 0", "1*x <=\t0", "1*x\u00a0<= 0", "a=b\n", "\na=b", "1*x <= 0\n", "1*x\n<= 0", "1*f(a, b) <= 0", "f(a, b)=a", "f (a)=a", " ", "  ", "   ",
		// Numbers as they are not written.
		"01*x <= 0", "00*x <= 0", "+1*x <= 0", "--1*x <= 0", "-01*x <= 0", "1.0*x <= 0", "1/1*x <= 0", "0x1*x <= 0", "1e0*x <= 0", "1_0*x <= 0", "x*x <= 0", "-*x <= 0", "(1)*x <= 0", "1*x <= 00", "1*x <= -0", "1*x < -0", "1*x <= +0", "1*x <= +1", "1*x <= 01", "1*x <= -01", "1*x <= --1", "1*x <= 1.0", "1*x <= 1/1", "1*x <= 0x1", "1*x <= 1e3", "1*x <= 1_0", "1*x <= x", "1*x <= -", "1*x <= 1-", "1*x <= (1)", "\u0661*x <= 0", "1*x <= \u0660", "１*x <= 0", "1*x <= ０",
		// Numbers out of range.
		"0*x <= 0", "-0*x <= 0", "51*x < 0", "-51*x <= 0", "100*x <= 0", "1000*x <= 0", "1*x <= 1001", "1*x < -1001", "1*x <= 10000", "1*x <= -10000", "4294967297*x <= 0", "18446744073709551617*x <= 0", "-18446744073709551615*x <= 0", "1*x <= 4294967296", "1*x <= 18446744073709551616", "9223372036854775807*x <= 0", "9223372036854775808*x <= 0", "1*x <= -9223372036854775808", "257*x <= 0", "1*x <= 65536",
		"0*x 1*y <= 0", "1*x 0*y <= 0", "1*x 51*y <= 0", "-51*x 1*y <= 0",
		// A term twice, or terms out of order.
		"1*x 1*x <= 0", "1*x -1*x <= 0", "1*x 1*h(a) <= 0", "1*y 1*x <= 0", "1*a 1*x 1*b <= 0", "1*b 1*a 1*x <= 0", "1*a 1*b 1*y 1*x < 0", "1*x -1*x 1*y <= 0", "1*a 1*x -1*x <= 0", "1*aa 1*a <= 0", "1*a(a) 1*a <= 0", "1*aa 1*a(a) <= 0", "1*f(a,a) 1*f(a) <= 0", "1*f(a) 1*f(a(a)) <= 0", "9223372036854775807*x 9223372036854775807*x <= 0", "9223372036854775807*x -9223372036854775807*x 1*y <= 0", "1*x 1*x 1*x 1*x <= 0",
		// Terms too many, also if less would remain.
		"1*a 1*b 1*c 1*d 1*e <= 0", "1*a 1*b 1*c 1*d 1*e < 0", "1*a 1*a 1*b 1*c 1*d <= 0", "1*a -1*a 1*b 1*c 1*d <= 0", "1*a 1*b 1*c 1*d 0*e <= 0", "1*a 1*b 1*c 1*d e <= 0", "1*a 1*b 1*c 1*d  <= 0", "1*a 1*b 1*c 1*d 1 <= 0",
		// Terms that are not well-formed.
		"A=b", "a=B", "abc=a", "a=abc", "f()=a", "a=f()", "f(a=b", "f(a)=b)", "f(a=b)", "(a)=b", "(a=b)", "f(a,a,a)=a", "a=f(a,a,a)", "f(f(f(f(a))))=a", "a=f(f(f(f(a))))", "1*abc <= 0", "1*A <= 0", "1*f() <= 0", "1*f(a <= 0", "1*f(a)) <= 0", "1*1 <= 0", "1*f(1) <= 0", "1*f(a,a,a) <= 0", "1*f(f(f(f(a)))) <= 0", "1*a 1*abc <= 0", "1*A 1*a <= 0", "1*f(f(f(a,a),f(a,a)),f(f(a,a),a)) <= 0", "a=f(f(f(a,a),f(a,a)),f(f(a,a),a))", "1*x 1* <= 0", "1* 1*x <= 0", "1*=1* <= 0",
		// Bytes that are not ASCII, and others that are not written.
		"é=a", "a=é", "a＝b", "1*é <= 0", "1×x <= 0", "\xff=a", "a=\xff", "a=b\xff", "\xffa=b", "a\xff=b", "1*\xff <= 0", "1*x <= 0\xff", "1*x\xff <= 0", "1*x <= \xff", "\xff", "\x00", "a=b\x00", "a\x00=b", "\x00a=b", "1*x <= 0\x00", "1*x\x00<= 0", "1\x00*x <= 0", "1*x <= \x000",
		// `not`, where an atom has none, or in another way.
		"not", "not ", " not a=b", "not  a=b", "nota=b", "Not a=b", "NOT a=b", "not not a=b", "not not not a=b", "not not", "not not ", "no a=b", "not\ta=b", "not\na=b", "not(a=b)", "not, a=b", "a=b not", "a=b not ", "a=not b", "-a=b", "!a=b", "¬a=b", "not not 1*x <= 0", "1*x not <= 0", "1*x <= not 0", "1*not x <= 0", "not 1*x not 1*y <= 0", "not=a", "a=not", "not a", "not =", "not 0", "not <= 0",
		// Long ones.
		strings.Repeat("a", 100000), strings.Repeat("=", 1000000), strings.Repeat("*", 1000000), strings.Repeat(" ", 1000000), strings.Repeat("<", 100000), strings.Repeat("a=", 1000000), strings.Repeat("1*", 1000000), strings.Repeat("1*x ", 1000000), "1*x " + strings.Repeat("<= ", 1000000), strings.Repeat("1*x ", 100000) + "<= 0", strings.Repeat("1", 1000000) + "*x <= 0", "1*x <= " + strings.Repeat("1", 1000000), strings.Repeat("0", 100000) + "1*x <= 0", "1*x <= " + strings.Repeat("0", 100000),
		strings.Repeat("not ", 100000), strings.Repeat("not ", 100000) + "a=b", "not " + strings.Repeat(" ", 100000) + "a=b", "a=" + strings.Repeat("f(", 1000000) + "a", strings.Repeat("f(", 1000000) + "a=a", "1*" + strings.Repeat("f(", 1000000), "1*" + strings.Repeat("a", 100000) + " <= 0", "a=b" + strings.Repeat("\x00", 100000), "1*x <= 0" + strings.Repeat(" ", 100000), strings.Repeat("* ", 1000000), strings.Repeat("*=", 1000000),
	} {
		if isAtomText(text) {
			t.Errorf("%.40q is the text of an atom", text)
		}
		checkLitRead(t, text)
		checkLitRead(t, "not "+text)
	}
}

// TestAtomReadTakesJustTheTexts tries the texts that differ from a right one by a byte or two.
func TestAtomReadTakesJustTheTexts(t *testing.T) {
	const some = "ab(,)=*< 0159-+not\n\x00\xff"
	for text := range sampleAtoms() {
		for _, changed := range changedBytes(text, some) {
			checkLitRead(t, changed)
			checkLitRead(t, "not "+changed)
		}
	}
	for _, text := range []string{"", "a=b", "1*x <= 0", "-9*a 1*b < 10", "50*h(a) -1*x <= -999"} {
		for _, changed := range changedBytes(text, some) {
			for _, twice := range changedBytes(changed, "a=* <0-1") {
				checkLitRead(t, twice)
			}
		}
	}
	for _, text := range []string{"not a=b", "not 12*x < -34"} {
		for _, changed := range changedBytes(text, everyByte()) {
			checkLitRead(t, changed)
		}
		for _, changed := range changedBytes(text, "not ") {
			for _, twice := range changedBytes(changed, "not ") {
				checkLitRead(t, twice)
			}
		}
	}
}

// atom makes up an atom that is well-formed, but for the size of its terms.
func (s *numbers) atom() impl.Atom {
	if s.below(3) == 0 {
		return eqOf(s.term(1+s.below(deepLimit)), s.term(1+s.below(deepLimit)))
	}
	nums := map[string]impl.Term{}
	for range 1 + s.below(sumLimit) {
		num := s.term(1 + s.below(deepLimit))
		nums[writeTerm(num)] = num
	}
	a := sumOf(s.around(boundLimit), nil)
	a.Strict = s.below(2) == 0
	for _, num := range nums {
		a.Nums = append(a.Nums, num)
		a.Times = append(a.Times, (1+s.below(timesLimit))*(1-2*s.below(2)))
	}
	slices.SortFunc(a.Nums, func(x impl.Term, y impl.Term) int { return strings.Compare(writeTerm(x), writeTerm(y)) })
	return a
}

// spoilAtom changes something of an atom, and leaves as many coefficients as terms.
func (s *numbers) spoilAtom(a *impl.Atom) {
	switch s.below(9) {
	case 0:
		a.Kind = 1 + s.below(2)
	case 1:
		a.A = s.term(2)
	case 2:
		a.B = s.term(2)
	case 3:
		a.Nums, a.Times = append(a.Nums, s.term(2)), append(a.Times, s.around(3))
	case 4:
		a.Bound = s.around(2 * boundLimit)
	case 5:
		a.Strict = !a.Strict
	case 6:
		a.Nums, a.Times = nil, nil
	case 7:
		if len(a.Nums) > 0 {
			a.Nums[s.below(len(a.Nums))] = s.term(1 + s.below(2))
		}
	case 8:
		if len(a.Nums) > 0 {
			a.Times[s.below(len(a.Times))] = s.around(2 * timesLimit)
		}
	}
}

func TestAtomTextReadsBack(t *testing.T) {
	s := numbers(6)
	counts := map[string]int{}
	for range 20000 {
		a := s.atom()
		if s.below(3) == 0 {
			s.spoilAtom(&a)
		}
		ok := isAtom(a)
		if got := impl.AtomText(a); ok && got != writeAtom(a) || !ok && got != "" {
			t.Fatalf("AtomText(%v) = %q; it is well-formed: %v", a, got, ok)
		}
		if ok {
			checkMaybeAtom(t, a, true)
			counts[strconv.Itoa(a.Kind)+" "+strconv.Itoa(len(a.Nums))]++
		} else {
			checkNoAtom(t, "made-up", 0, a)
			counts["not"]++
		}
	}
	for _, what := range []string{"1 0", "2 1", "2 2", "2 3", "2 4", "not"} {
		if counts[what] < 200 {
			t.Errorf("the atoms miss a case: %v", counts)
		}
	}
}

func TestAtomOk(t *testing.T) {
	s := readSig(t, "a - 0\nf 0 0\nh 0 1\nn 11 1\nt 10 0\nx - 1\ny - 1\n")
	for _, c := range []struct {
		text string
		ok   bool
	}{
		// Equations of things, and of numbers.
		{"a=a", true}, {"a=f(a)", true}, {"f(a)=a", true}, {"t(x,a)=f(f(a))", true}, {"x=x", true}, {"x=y", true}, {"h(a)=x", true}, {"y=n(x,h(a))", true}, {"n(n(n(x,x),n(x,x)),n(h(a),x))=n(n(n(x,x),n(x,x)),n(h(a),x))", true},
		// Sums of one to four terms.
		{"1*x <= 0", true}, {"1*x < 0", true}, {"-50*h(a) < -1000", true}, {"1*h(a) -2*x <= 5", true}, {"1*h(a) 1*n(x,x) 1*x 1*y <= 0", true}, {"3*h(f(f(a))) 50*x 1*y < 1000", true}, {"1*h(t(h(a),a)) <= 0", true},
		// Sides of different sorts.
		{"a=x", false}, {"x=a", false}, {"f(a)=h(a)", false}, {"h(a)=f(a)", false}, {"a=h(a)", false}, {"t(x,a)=n(x,x)", false},
		// A thing in a sum, at each place.
		{"1*a <= 0", false}, {"1*f(a) < 0", false}, {"1*a 1*x <= 0", false}, {"1*h(a) 1*t(x,a) <= 0", false}, {"1*a 1*h(a) 1*x 1*y <= 0", false}, {"1*h(a) 1*t(x,a) 1*x 1*y <= 0", false}, {"1*h(a) 1*n(x,x) 1*t(x,a) 1*x <= 0", false}, {"1*a 1*f(a) <= 0", false},
		// Terms that are not well-sorted, in each place.
		{"b=a", false}, {"a=b", false}, {"b=b", false}, {"f=f", false}, {"f(x)=a", false}, {"a=f(x)", false}, {"f(x)=f(x)", false}, {"h(x)=x", false}, {"x=h(x)", false}, {"x=n(x)", false}, {"x=n(x,a)", false}, {"z=x", false}, {"x=z", false}, {"a(a)=a", false}, {"a=f(a,a)", false}, {"f(b)=f(a)", false}, {"h(a)=h(b)", false},
		{"1*z <= 0", false}, {"1*x 1*z <= 0", false}, {"1*b 1*x <= 0", false}, {"1*h(x) <= 0", false}, {"1*h(x) 1*x <= 0", false}, {"1*n(x,a) 1*x <= 0", false}, {"1*h <= 0", false}, {"1*x 1*x(x) <= 0", false}, {"1*n(x) <= 0", false}, {"1*h(a) 1*n(x,x) 1*x 1*z <= 0", false}, {"1*h(b) 1*n(x,x) 1*x 1*y <= 0", false},
	} {
		a := readLit(t, c.text).Atom
		if got := impl.AtomOk(s, a); got != c.ok {
			t.Errorf("AtomOk of %s is %v", c.text, got)
		}
		if impl.AtomOk(impl.Sig{}, a) {
			t.Errorf("AtomOk of %s without symbols", c.text)
		}
	}
}

// TestAtomOkRefusesSignatures tries signatures that are not valid, but declare the terms.
func TestAtomOkRefusesSignatures(t *testing.T) {
	a, f := app("a"), app("f", app("a"))
	list := []impl.Atom{eqOf(a, a), eqOf(a, f), eqOf(app("f"), app("f")), eqOf(app("f", a, a), a), sumOf(0, ints(1), a), sumOf(0, ints(1, 1), a, app("b")), sumOf(0, ints(1, 1), a, f), eqOf(app("b"), app("b")), sumOf(0, ints(1), app("g"))}
	for _, bad := range append(invalidSigs(), sigOf(sym("a", num), sym("b", 2)), sigOf(sym("a", num), sym("b", num, 2)), sigOf(sym("a", num), sym("f", num, num), sym("f", num)), sigOf(sym("a", num), sym("c", num), sym("b", num)), sigOf(sym("A", num), sym("a", num))) {
		for _, each := range list {
			if impl.AtomOk(bad, each) {
				t.Errorf("AtomOk of %s under %.200v", writeAtom(each), bad)
			}
		}
	}
	if !impl.AtomOk(sigOf(sym("a", num), sym("f", num, num)), sumOf(0, ints(1, 1), a, f)) {
		t.Error("the sum is valid where the signature is")
	}
}

// isSortedAtom is what the document says of the sorts of a well-formed atom.
func isSortedAtom(list impl.Sig, a impl.Atom) bool {
	if a.Kind == atomEq {
		return sortOf(list, a.A) >= 0 && sortOf(list, a.A) == sortOf(list, a.B)
	}
	for _, x := range a.Nums {
		if sortOf(list, x) != num {
			return false
		}
	}
	return true
}

func TestAtomOkIsAsDefined(t *testing.T) {
	s := numbers(666)
	found := map[string]int{}
	for range 40000 {
		list := sigOf(sym("a", thing), sym("aa", s.below(2)), sym("b", s.below(2)), sym("f", s.below(2)), sym("ff", s.below(2)), sym("g", s.below(2)), sym("x", num))
		for i, y := range list.Syms {
			if y.Name[0] != 'f' && y.Name != "g" {
				continue
			}
			for range 1 + s.below(argLimit) {
				list.Syms[i].Args = append(list.Syms[i].Args, s.below(2))
			}
		}
		a := eqOf(s.sortedTerm(list, s.below(2), 3), s.sortedTerm(list, s.below(2), 3))
		if s.below(2) == 0 {
			a = s.sumUnder(list)
		}
		if s.below(3) == 0 {
			s.spoilAtom(&a)
		}
		want := isAtom(a) && isSortedAtom(list, a)
		if impl.AtomOk(list, a) != want {
			t.Fatalf("AtomOk(%v, %s) is not %v", list, writeAtom(a), want)
		}
		found[strconv.Itoa(a.Kind)+" "+strconv.Itoa(len(a.Nums))+" "+strconv.FormatBool(want)]++
	}
	for _, what := range []string{"1 0 true", "1 0 false", "2 1 true", "2 1 false", "2 2 true", "2 2 false", "2 3 true", "2 3 false", "2 4 true", "2 4 false"} {
		if found[what] < 100 {
			t.Errorf("the atoms miss the case %s: %v", what, found)
		}
	}
}

// sumUnder makes up a sum whose terms are mostly well-sorted and ascend.
func (s *numbers) sumUnder(list impl.Sig) impl.Atom {
	a := sumOf(s.around(10), nil)
	for range 1 + s.below(sumLimit) {
		sort := num
		if s.below(12) == 0 {
			sort = thing
		}
		x := s.sortedTerm(list, sort, 1+s.below(3))
		if !slices.ContainsFunc(a.Nums, func(y impl.Term) bool { return writeTerm(x) == writeTerm(y) }) {
			a.Nums, a.Times = append(a.Nums, x), append(a.Times, 1+s.below(3))
		}
	}
	slices.SortFunc(a.Nums, func(x impl.Term, y impl.Term) int { return strings.Compare(writeTerm(x), writeTerm(y)) })
	return a
}

// atomsApart are atoms of which each differs from all others in a field; the ones that are not well-formed too.
func atomsApart() []impl.Atom {
	a, b, x, y := app("a"), app("b"), app("x"), app("y")
	bare := impl.Term{}
	return []impl.Atom{
		{}, {Kind: 1}, {Kind: 2}, {Kind: 3}, {Kind: -1}, {Kind: 257}, {Kind: 1 << 32}, {Kind: math.MinInt}, {Bound: 1}, {Bound: -1}, {Bound: math.MinInt}, {Bound: 1 << 32}, {Strict: true}, {A: a}, {B: a}, {A: a, B: a}, {A: a, B: b}, {A: b, B: a}, {A: app("", bare)}, {B: app("", bare)},
		{Nums: []impl.Term{a}}, {Nums: []impl.Term{bare}}, {Nums: []impl.Term{bare, bare}}, {Nums: []impl.Term{a, b}}, {Nums: []impl.Term{b, a}}, {A: a, Nums: []impl.Term{b}}, {B: a, Nums: []impl.Term{b}}, {A: a, B: b, Nums: []impl.Term{x}}, {A: a, B: x, Nums: []impl.Term{b}}, {Times: ints(0)}, {Times: ints(1)}, {Times: ints(0, 0)}, {Times: ints(1, 2)}, {Times: ints(2, 1)}, {Times: ints(math.MinInt)},
		eqOf(a, b), eqOf(b, a), eqOf(a, a), eqOf(app("f", a), b), eqOf(a, app("f", b)), eqOf(app("f", a, b), b), eqOf(app("f", b, a), b), {Kind: 1, A: a, B: b, Bound: 1}, {Kind: 1, A: a, B: b, Strict: true}, {Kind: 1, A: a, B: b, Nums: []impl.Term{x}}, {Kind: 1, A: a, B: b, Times: ints(1)},
		sumOf(0, ints(1), x), sumOf(0, ints(1), y), sumOf(0, ints(2), x), sumOf(0, ints(-1), x), sumOf(1, ints(1), x), sumOf(-1, ints(1), x), below(sumOf(0, ints(1), x)), below(sumOf(1, ints(1), x)), sumOf(0, ints(1, 1), x, y), sumOf(0, ints(1, 1), y, x), sumOf(0, ints(1, 2), x, y), sumOf(0, ints(2, 1), x, y), sumOf(0, ints(1, 1), x, x), sumOf(0, ints(1), x, y), sumOf(0, ints(1, 1), x), sumOf(0, nil, x), sumOf(0, ints(1)),
		sumOf(0, ints(1), app("h", a)), sumOf(0, ints(1), app("h", b)), sumOf(0, ints(1, 1, 1, 1, 1), a, b, app("c"), x, y), {Kind: 2, A: a, Nums: []impl.Term{x}, Times: ints(1)}, {Kind: 2, B: a, Nums: []impl.Term{x}, Times: ints(1)}, sumOf(0, ints(1, 1, 1), a, b, x), sumOf(0, ints(1, 1, 1), a, b, y),
	}
}

func TestAtomSame(t *testing.T) {
	list := atomsApart()
	for i, a := range list {
		for j, b := range list {
			if impl.AtomSame(a, copyAtom(b)) != (i == j) {
				t.Errorf("AtomSame(%v, %v) is not %v", a, b, i == j)
			}
			if impl.AtomSame(a, b) != (i == j) {
				t.Errorf("in the same memory, AtomSame(%v, %v) is not %v", a, b, i == j)
			}
		}
	}
	none := impl.Atom{A: impl.Term{Kids: []impl.Term{}}, B: impl.Term{Kids: make([]impl.Term, 0, 2)}, Nums: []impl.Term{}, Times: []int{}}
	if !impl.AtomSame(impl.Atom{}, none) || !impl.AtomSame(none, impl.Atom{}) {
		t.Error("no elements are the same as nil")
	}
	for i, a := range badAtoms() {
		if !impl.AtomSame(a, a) || !impl.AtomSame(a, copyAtom(a)) {
			t.Errorf("bad atom %d is not the same as itself", i)
		}
	}
	for text, a := range sampleAtoms() {
		if !impl.AtomSame(a, copyAtom(a)) || impl.AtomSame(a, impl.Atom{}) {
			t.Errorf("%s is not the same as itself, or the same as nothing", text)
		}
	}
}

// TestAtomNilAndEmpty takes empty slices for nil ones, also where a field has to be zero.
func TestAtomNilAndEmpty(t *testing.T) {
	empty := impl.Term{Kids: []impl.Term{}}
	a, x := impl.Term{Name: "a", Kids: []impl.Term{}}, impl.Term{Name: "x", Kids: make([]impl.Term, 0, 3)}
	for text, each := range map[string]impl.Atom{
		"a=x": {Kind: atomEq, A: a, B: x, Nums: []impl.Term{}, Times: make([]int, 0, 3)}, "1*x <= 0": {Kind: atomSum, A: empty, B: empty, Nums: []impl.Term{x}, Times: ints(1)},
	} {
		if got := impl.AtomText(each); got != text || !impl.AtomOk(sigOf(sym("a", num), sym("x", num)), each) {
			t.Errorf("%q; want %q", got, text)
		}
		checkLit(t, impl.Lit{Atom: each})
	}
}

// TestAtomSameOfSharedMemory compares atoms whose terms have no end or seem to have none.
func TestAtomSameOfSharedMemory(t *testing.T) {
	for i, a := range endlessAtoms() {
		more := a
		more.Nums = append(slices.Clone(a.Nums), app("q"))
		if !impl.AtomSame(a, a) || impl.AtomSame(a, more) || impl.AtomSame(a, impl.Atom{}) || impl.AtomSame(a, below(a)) != a.Strict {
			t.Errorf("endless atom %d is not the same as itself, or the same as another", i)
		}
	}
	for _, pair := range [][3]impl.Term{{ring(3, "f"), ring(4, "f"), ring(4, "a")}, {ring(997, "f"), ring(1009, "f"), ring(1009, "a")}, {bush(80, "a"), bush(80, "a"), bush(80, "b")}, {chain(100000, "a"), chain(100000, "a"), chain(100000, "b")}} {
		x, same, other := pair[0], pair[1], pair[2]
		for _, put := range []func(impl.Term) impl.Atom{
			func(y impl.Term) impl.Atom { return impl.Atom{A: y} }, func(y impl.Term) impl.Atom { return impl.Atom{B: y} }, func(y impl.Term) impl.Atom { return eqOf(y, y) }, func(y impl.Term) impl.Atom { return sumOf(0, ints(1), y) }, func(y impl.Term) impl.Atom { return sumOf(0, ints(1, 2), app("a"), y) },
		} {
			if !impl.AtomSame(put(x), put(same)) || impl.AtomSame(put(x), put(other)) || impl.AtomSame(put(other), put(x)) {
				t.Errorf("atoms of the terms %s", brief(x, 3))
			}
		}
	}
	// One deep term stands in a great many places of each atom.
	deep, other := chain(10000, "a"), chain(10000, "a")
	left, right := slices.Repeat([]impl.Term{deep}, 10000), slices.Repeat([]impl.Term{other}, 10000)
	if !impl.AtomSame(sumOf(0, nil, left...), sumOf(0, nil, right...)) || impl.AtomSame(sumOf(0, nil, left...), sumOf(0, nil, right[1:]...)) {
		t.Error("a term in a great many places")
	}
}

func TestAtomSameIsAsDefined(t *testing.T) {
	s := numbers(6666)
	same := 0
	for range 30000 {
		a := s.atom()
		b := copyAtom(a)
		if !impl.AtomSame(a, b) {
			t.Fatalf("%v is not the same as a copy", a)
		}
		s.spoilAtom(&b)
		if got := impl.AtomSame(a, b); got != equalAtom(a, b) || got != impl.AtomSame(b, a) {
			t.Fatalf("AtomSame(%v, %v) = %v", a, b, got)
		} else if got {
			same++
		}
	}
	if same < 500 {
		t.Errorf("only %d are the same", same)
	}
}

// atomCells notes each place in the memory of an atom, also the unused ones; it reports whether one was noted before.
func atomCells(a impl.Atom, terms map[*impl.Term]bool, numbers map[*int]bool) bool {
	twice := termCells(a.A.Kids, terms)
	twice = termCells(a.B.Kids, terms) || twice
	twice = termCells(a.Nums, terms) || twice
	times := a.Times[:cap(a.Times)]
	for i := range times {
		twice = twice || numbers[&times[i]]
		numbers[&times[i]] = true
	}
	return twice
}

// TestAtomMemory checks that each result is new memory at every level, and that nothing writes to an argument, also beyond its length.
func TestAtomMemory(t *testing.T) {
	// The terms share memory with one another, and the lists have room beyond their lengths.
	shared := []impl.Term{app("a"), app("b"), app("spare")}
	nums := []impl.Term{{Name: "f", Kids: shared[:1]}, {Name: "g", Kids: shared[:2]}, {Name: "spare", Kids: shared[:2]}}
	times := []int{1, -2, 3}
	list := []impl.Lit{
		{Atom: sumOf(5, times[:2], nums[:2]...), No: true}, {Atom: sumOf(5, times[1:2], nums[1:2]...)}, {Atom: eqOf(nums[0], nums[0])}, {Atom: eqOf(nums[1], nums[0]), No: true}, {Atom: impl.Atom{Kind: atomEq, A: shared[0], B: nums[1], Nums: nums[:0], Times: times[:0]}},
		{Atom: sumOf(5, times[:3], nums[:3]...)},
	}
	state := func() string { return termTexts(nums) + " / " + termTexts(shared) + " / " + writeInts(times) }
	before := state()
	terms, numbers := map[*impl.Term]bool{}, map[*int]bool{}
	for _, l := range list {
		atomCells(l.Atom, terms, numbers)
	}
	for _, l := range list[:5] {
		for range 2 {
			not := impl.LitNot(l)
			if not.No == l.No || writeAtom(not.Atom) != writeAtom(l.Atom) || atomCells(not.Atom, terms, numbers) {
				t.Errorf("LitNot of %s is %s, or shares memory", writeLit(l), writeLit(not))
			}
			if termCells(impl.LitTerms(l), terms) {
				t.Errorf("LitTerms of %s shares memory", writeLit(l))
			}
			back := readLit(t, writeLit(l))
			if a, ok := impl.AtomRead(writeAtom(l.Atom)); !ok || atomCells(a, terms, numbers) || atomCells(back.Atom, terms, numbers) {
				t.Errorf("%s is read into memory that is shared", writeLit(l))
			}
		}
	}
	s := readSig(t, "a - 1\nb - 1\nf 1 1\ng 11 1\nsp - 1\n")
	for i, l := range list {
		if impl.AtomOk(s, l.Atom) != (i < 5) || !impl.AtomSame(l.Atom, l.Atom) || (impl.AtomText(l.Atom) == "") != (i == 5) || (impl.LitText(l) == "") != (i == 5) {
			t.Errorf("literal %d", i)
		}
	}
	if state() != before {
		t.Errorf("an argument has changed: %s; was %s", state(), before)
	}
}

// TestAtomLimitsInTexts reads as many terms as there may be, and one more.
func TestAtomLimitsInTexts(t *testing.T) {
	text := ""
	for i := range sumLimit + 3 {
		for _, end := range []string{"<= 0", "< 0"} {
			if _, ok := impl.AtomRead(text + end); ok != (1 <= i && i <= sumLimit) {
				t.Errorf("%q: %v", text+end, ok)
			}
		}
		text += "1*" + string(rune('a'+i)) + " "
	}
	for deep := 1; deep <= deepLimit+3; deep++ {
		x := strings.Repeat("f(", deep-1) + "a" + strings.Repeat(")", deep-1)
		for _, text := range []string{x + "=a", "a=" + x, "1*" + x + " <= 0", "1*a 1*" + x + "z <= 0"} {
			text = strings.Replace(text, ")z", ",z)", 1)
			if _, ok := impl.LitRead("not " + text); ok != isAtomText(text) || ok != (deep <= deepLimit) && !strings.HasSuffix(text, "z <= 0") {
				t.Errorf("%q: %v", text, ok)
			}
		}
	}
	const full, more = "f(f(f(a,a),f(a,a)),f(f(a,a)))", "f(f(f(a,a),f(a,a)),f(f(a,a),a))"
	for _, c := range []struct {
		text string
		ok   bool
	}{
		{full + "=" + full, true}, {full + "=" + more, false}, {more + "=" + full, false}, {"1*" + full + " <= 0", true}, {"1*" + more + " <= 0", false}, {"1*a 1*" + full + " 1*g <= 0", true}, {"1*a 1*" + more + " 1*g <= 0", false},
	} {
		if _, ok := impl.AtomRead(c.text); ok != c.ok {
			t.Errorf("%q: %v", c.text, ok)
		}
	}
}
