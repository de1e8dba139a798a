package tests

import (
	"math"
	"slices"
	"strconv"
	"strings"
	"testing"

	"loop.example/compurgator/impl"
)

// These repeat the document's numbers, so that wrong constants of impl fail too.
const (
	whyRefl   = 1
	whyGiven  = 2
	whySym    = 3
	whyTrans  = 4
	whyCong   = 5
	eqsLimit  = 12
	partLimit = 24
	whyDeep   = 400
)

func TestSameConstants(t *testing.T) {
	if impl.WhyRefl != whyRefl || impl.WhyGiven != whyGiven || impl.WhySym != whySym || impl.WhyTrans != whyTrans || impl.WhyCong != whyCong {
		t.Error(impl.WhyRefl, impl.WhyGiven, impl.WhySym, impl.WhyTrans, impl.WhyCong)
	}
	if impl.EqsMost != eqsLimit || impl.PartMost != partLimit || impl.WhyDeep != whyDeep {
		t.Error(impl.EqsMost, impl.PartMost, impl.WhyDeep)
	}
}

// thingSig declares things and functions of them.
const thingSig = "a - 0\nb - 0\nc - 0\nd - 0\nf 0 0\ng 00 0\nq - 0\n"

// bothSig declares things and numbers.
const bothSig = "a - 0\nb - 0\nf 0 0\nh 0 1\nn 11 1\nx - 1\ny - 1\n"

// readTerms reads terms with spaces between them, and readEqs equations.
func readTerms(t *testing.T, text string) []impl.Term {
	t.Helper()
	var list []impl.Term
	for _, word := range strings.Fields(text) {
		list = append(list, readTerm(t, word))
	}
	return list
}

func readEqs(t *testing.T, text string) []impl.Eq {
	t.Helper()
	var list []impl.Eq
	for _, word := range strings.Fields(text) {
		left, right, _ := strings.Cut(word, "=")
		list = append(list, impl.Eq{A: readTerm(t, left), B: readTerm(t, right)})
	}
	return list
}

func writeEq(e impl.Eq) string { return writeTerm(e.A) + "=" + writeTerm(e.B) }

func writeEqs(eqs []impl.Eq) string {
	var texts []string
	for _, e := range eqs {
		texts = append(texts, writeEq(e))
	}
	return strings.Join(texts, " ")
}

func isZeroEq(e impl.Eq) bool { return isZeroTerm(e.A) && isZeroTerm(e.B) }

// writeSteps writes the two indices of each step, and its equation behind a #, if there is one.
func writeSteps(steps []impl.Step) string {
	var texts []string
	for _, y := range steps {
		text := strconv.Itoa(y.A) + "-" + strconv.Itoa(y.B)
		if y.Given != -1 {
			text += "#" + strconv.Itoa(y.Given)
		}
		texts = append(texts, text)
	}
	return strings.Join(texts, " ")
}

func writeInts(list []int) string {
	var texts []string
	for _, n := range list {
		texts = append(texts, strconv.Itoa(n))
	}
	return strings.Join(texts, " ")
}

// These make explanations, which may be wrong ones.
func refl(x impl.Term) impl.Why { return impl.Why{Rule: whyRefl, T: x} }

func given(n int) impl.Why { return impl.Why{Rule: whyGiven, N: n} }

func turned(w impl.Why) impl.Why { return impl.Why{Rule: whySym, Kids: []impl.Why{w}} }

func joined(v impl.Why, w impl.Why) impl.Why {
	return impl.Why{Rule: whyTrans, Kids: []impl.Why{v, w}}
}

func cong(name string, kids ...impl.Why) impl.Why {
	return impl.Why{Rule: whyCong, T: app(name), Kids: kids}
}

// writeWhy writes an explanation with an end: =a, #0, ~, (;) and f[,] for the rules 1 to 5. Where a field is not as the document describes it, it writes all fields.
func writeWhy(w impl.Why) string {
	var kids []string
	for _, kid := range w.Kids {
		kids = append(kids, writeWhy(kid))
	}
	list := strings.Join(kids, ";")
	noT := isZeroTerm(w.T)
	switch {
	case w.Rule == whyRefl && w.N == 0 && len(kids) == 0:
		return "=" + writeTerm(w.T)
	case w.Rule == whyGiven && noT && len(kids) == 0:
		return "#" + strconv.Itoa(w.N)
	case w.Rule == whySym && w.N == 0 && noT && len(kids) == 1:
		return "~" + list
	case w.Rule == whyTrans && w.N == 0 && noT && len(kids) == 2:
		return "(" + list + ")"
	case w.Rule == whyCong && w.N == 0 && len(w.T.Kids) == 0 && len(kids) > 0:
		return w.T.Name + "[" + list + "]"
	}
	return "{" + strconv.Itoa(w.Rule) + " " + strconv.Itoa(w.N) + " " + writeTerm(w.T) + " " + list + "}"
}

func isZeroWhy(w impl.Why) bool {
	return w.Rule == 0 && w.N == 0 && isZeroTerm(w.T) && len(w.Kids) == 0
}

// whySize counts the explanations in one with an end, and whyLevels its levels.
func whySize(w impl.Why) int {
	size := 1
	for _, kid := range w.Kids {
		size += whySize(kid)
	}
	return size
}

func whyLevels(w impl.Why) int {
	deep := 0
	for _, kid := range w.Kids {
		deep = max(deep, whyLevels(kid))
	}
	return deep + 1
}

// usedBy is the numbers of equations in an explanation with an end, without the function under test.
func usedBy(w impl.Why) []int {
	var list []int
	if w.Rule == whyGiven {
		list = append(list, w.N)
	}
	for _, kid := range w.Kids {
		list = append(list, usedBy(kid)...)
	}
	slices.Sort(list)
	return slices.Compact(list)
}

func copyWhy(w impl.Why) impl.Why {
	other := impl.Why{Rule: w.Rule, N: w.N, T: copyTerm(w.T)}
	for _, kid := range w.Kids {
		other.Kids = append(other.Kids, copyWhy(kid))
	}
	return other
}

// stepCases are the signature, the equations and the additional terms, and the parts, the steps and the classes.
func stepCases() [][6]string {
	return [][6]string{
		// No equations, and no terms.
		{thingSig, "", "", "", "", ""},
		{"", "", "", "", "", ""},
		{thingSig, "", "f(a) f(b)", "a f(a) b f(b)", "", "0 1 2 3"},
		{thingSig, "", "a a", "a", "", "0"},
		// An equation, in its direction.
		{thingSig, "a=b", "", "a b", "0-1#0", "0 0"},
		{thingSig, "f(a)=a", "", "a f(a)", "1-0#0", "0 0"},
		{thingSig, "a=f(a)", "", "a f(a)", "0-1#0", "0 0"},
		{bothSig, "x=y", "h(a)", "x y a h(a)", "0-1#0", "0 0 2 3"},
		{bothSig, "a=b x=h(a)", "", "a b x h(a)", "0-1#0 2-3#1", "0 0 2 2"},
		// An equation of a term and itself, and of two terms that are in one class already.
		{thingSig, "a=a", "", "a", "", "0"},
		{thingSig, "f(a)=f(a)", "", "a f(a)", "", "0 1"},
		{thingSig, "a=a a=b", "", "a b", "0-1#1", "0 0"},
		{thingSig, "a=b a=b", "", "a b", "0-1#0", "0 0"},
		{thingSig, "a=b b=a", "", "a b", "0-1#0", "0 0"},
		{thingSig, "a=b b=c c=a c=d", "", "a b c d", "0-1#0 1-2#1 2-3#3", "0 0 0 0"},
		{thingSig, "a=b c=d d=b a=c", "", "a b c d", "0-1#0 2-3#1 3-1#2", "0 0 0 0"},
		{thingSig, "c=d b=c a=b", "", "c d b a", "0-1#0 2-0#1 3-2#2", "0 0 0 0"},
		// All equations come ahead of the other steps, also where these would make one tell nothing new.
		{thingSig, "a=b f(a)=f(b)", "", "a b f(a) f(b)", "0-1#0 2-3#1", "0 0 2 2"},
		{thingSig, "f(a)=f(b) a=b", "", "a f(a) b f(b)", "1-3#0 0-2#1", "0 1 0 1"},
		// Two terms whose arguments are in one class each, also over several levels.
		{thingSig, "a=b", "f(a) f(b)", "a b f(a) f(b)", "0-1#0 2-3", "0 0 2 2"},
		{thingSig, "a=b", "f(b) f(a)", "a b f(b) f(a)", "0-1#0 2-3", "0 0 2 2"},
		{thingSig, "b=a", "f(a) f(b)", "b a f(a) f(b)", "0-1#0 2-3", "0 0 2 2"},
		{thingSig, "a=b", "f(f(f(a))) f(f(f(b)))", "a b f(a) f(f(a)) f(f(f(a))) f(b) f(f(b)) f(f(f(b)))", "0-1#0 2-5 3-6 4-7", "0 0 2 3 4 2 3 4"},
		{thingSig, "f(f(f(a)))=c f(f(f(b)))=d a=b", "", "a f(a) f(f(a)) f(f(f(a))) c b f(b) f(f(b)) f(f(f(b))) d", "3-4#0 8-9#1 0-5#2 1-6 2-7 3-8", "0 1 2 3 3 0 1 2 3 3"},
		{thingSig, "a=f(a)", "f(f(f(a)))", "a f(a) f(f(a)) f(f(f(a)))", "0-1#0 1-2 1-3", "0 0 0 0"},
		{thingSig, "f(f(f(a)))=a f(f(a))=a", "", "a f(a) f(f(a)) f(f(f(a)))", "3-0#0 2-0#1 1-3", "0 0 0 0"},
		// All arguments have to be, each with the one at its place.
		{thingSig, "a=b", "g(a,c) g(b,c) g(c,a) g(c,b) g(b,d)", "a b c g(a,c) g(b,c) g(c,a) g(c,b) d g(b,d)", "0-1#0 3-4 5-6", "0 0 2 3 3 5 5 7 8"},
		{thingSig, "a=b c=d", "g(a,c) g(b,d)", "a b c d g(a,c) g(b,d)", "0-1#0 2-3#1 4-5", "0 0 2 2 4 4"},
		{thingSig, "a=b", "g(a,b) g(b,a)", "a b g(a,b) g(b,a)", "0-1#0 2-3", "0 0 2 2"},
		{thingSig, "", "g(a,b) g(b,a)", "a b g(a,b) g(b,a)", "", "0 1 2 3"},
		{bothSig, "a=b", "n(h(a),x) n(h(b),x)", "a b h(a) x n(h(a),x) h(b) n(h(b),x)", "0-1#0 2-5 4-6", "0 0 2 3 4 2 4"},
		// Other symbols, and none with arguments.
		{bothSig, "a=b", "f(a) h(b) f(b)", "a b f(a) h(b) f(b)", "0-1#0 2-4", "0 0 2 3 2"},
		{thingSig, "f(a)=f(b)", "a b", "a f(a) b f(b)", "1-3#0", "0 1 2 1"},
		{thingSig, "f(a)=b", "c d", "a f(a) b c d", "1-2#0", "0 1 1 3 4"},
		// The pair with the first later part, and of these the one with the first earlier part.
		{thingSig, "a=b b=c", "f(a) f(b) f(c)", "a b c f(a) f(b) f(c)", "0-1#0 1-2#1 3-4 3-5", "0 0 0 3 3 3"},
		{thingSig, "c=b b=a", "f(a) f(b) f(c)", "c b a f(a) f(b) f(c)", "0-1#0 1-2#1 3-4 3-5", "0 0 0 3 3 3"},
		{thingSig, "a=b c=d", "f(a) f(c) f(b) f(d)", "a b c d f(a) f(c) f(b) f(d)", "0-1#0 2-3#1 4-6 5-7", "0 0 2 2 4 5 4 5"},
		{thingSig, "a=b c=d", "f(a) f(c) f(d) f(b)", "a b c d f(a) f(c) f(d) f(b)", "0-1#0 2-3#1 5-6 4-7", "0 0 2 2 4 5 5 4"},
		{thingSig, "a=b b=c f(a)=f(c)", "f(b)", "a b c f(a) f(c) f(b)", "0-1#0 1-2#1 3-4#2 3-5", "0 0 0 3 3 3"},
		{thingSig, "a=b b=c f(c)=d", "f(b) f(a)", "a b c f(c) d f(b) f(a)", "0-1#0 1-2#1 3-4#2 3-5 3-6", "0 0 0 3 3 3 3"},
		// A step makes a pair that comes ahead of another one, which was there before.
		{thingSig, "f(c)=f(c) f(d)=f(d) a=b c=g(a,a) d=g(b,b)", "f(a) f(b)", "c f(c) d f(d) a b g(a,a) g(b,b) f(a) f(b)", "4-5#2 0-6#3 2-7#4 6-7 1-3 8-9", "0 1 0 1 4 4 0 0 8 8"},
		{thingSig, "f(f(c))=f(f(c)) f(f(d))=f(f(d)) a=b c=g(a,q) d=g(b,q)", "", "c f(c) f(f(c)) d f(d) f(f(d)) a b q g(a,q) g(b,q)", "6-7#2 0-9#3 3-10#4 9-10 1-4 2-5", "0 1 2 0 1 2 6 6 8 0 0"},
		// Additional terms: parts already, twice, and new ones.
		{thingSig, "f(a)=b", "a f(a) b", "a f(a) b", "1-2#0", "0 1 1"},
		{thingSig, "a=b", "b c a c f(c) b", "a b c f(c)", "0-1#0", "0 0 2 3"},
		{thingSig, "f(b)=f(b)", "g(f(b),a) c", "b f(b) a g(f(b),a) c", "", "0 1 2 3 4"},
		// Sides that are parts of each other, and of other equations.
		{thingSig, "g(a,f(a))=f(a) f(a)=a", "g(a,a)", "a f(a) g(a,f(a)) g(a,a)", "2-1#0 1-0#1 2-3", "0 0 0 0"},
		{thingSig, "a=f(f(a)) f(a)=b", "f(b) f(f(b))", "a f(a) f(f(a)) b f(b) f(f(b))", "0-2#0 1-3#1 2-4 1-5", "0 1 0 1 0 1"},
	}
}

func TestSameSteps(t *testing.T) {
	for _, c := range stepCases() {
		s, eqs, more := readSig(t, c[0]), readEqs(t, c[1]), readTerms(t, c[2])
		parts, steps := impl.SameSteps(s, eqs, more)
		if termTexts(parts) != c[3] || writeSteps(steps) != c[4] {
			t.Errorf("%s with %q: SameSteps %s, %s; want %s, %s", c[1], c[2], termTexts(parts), writeSteps(steps), c[3], c[4])
		}
		if got := writeInts(impl.SameClass(s, eqs, more)); got != c[5] {
			t.Errorf("%s with %q: SameClass %s; want %s", c[1], c[2], got, c[5])
		}
		if !impl.EqsOk(s, eqs) {
			t.Errorf("EqsOk of %s is false", c[1])
		}
	}
}

// whyCases are equations, two terms and their explanation, or nothing if there is none.
func whyCases() [][4]string {
	return [][4]string{
		// A term and itself.
		{"", "a", "a", "=a"}, {"", "f(a)", "f(a)", "=f(a)"}, {"a=b", "a", "a", "=a"}, {"a=b", "g(a,c)", "g(a,c)", "=g(a,c)"}, {"a=a", "a", "a", "=a"}, {"b=c", "a", "a", "=a"},
		// No explanation.
		{"", "a", "b", ""}, {"", "f(a)", "f(b)", ""}, {"", "a", "f(a)", ""}, {"a=b", "a", "c", ""}, {"a=b", "c", "a", ""}, {"a=b c=d", "a", "d", ""}, {"f(a)=f(b)", "a", "b", ""}, {"a=b", "f(a)", "a", ""}, {"a=b", "f(a)", "f(c)", ""},
		{"a=b", "g(a,c)", "g(b,d)", ""}, {"a=b", "g(a,c)", "g(c,b)", ""}, {"a=a", "a", "b", ""}, {"f(a)=a", "f(b)", "b", ""},
		// An equation, in its direction and against it.
		{"a=b", "a", "b", "#0"}, {"a=b", "b", "a", "~#0"}, {"b=a", "a", "b", "~#0"}, {"c=d a=b", "a", "b", "#1"}, {"c=d a=b", "b", "a", "~#1"}, {"f(a)=g(b,c)", "f(a)", "g(b,c)", "#0"}, {"f(a)=g(b,c)", "g(b,c)", "f(a)", "~#0"},
		// Several equations, in all directions.
		{"a=b b=c", "a", "c", "(#0;#1)"}, {"a=b b=c", "c", "a", "(~#1;~#0)"}, {"a=b c=b", "a", "c", "(#0;~#1)"}, {"b=a b=c", "a", "c", "(~#0;#1)"}, {"b=a c=b", "a", "c", "(~#0;~#1)"}, {"b=c a=b", "a", "c", "(#1;#0)"},
		{"a=b b=c c=d", "a", "d", "((#0;#1);#2)"}, {"a=b b=c c=d", "d", "a", "((~#2;~#1);~#0)"}, {"a=b b=c c=d", "b", "d", "(#1;#2)"}, {"c=d a=b b=c", "a", "d", "((#1;#2);#0)"}, {"c=b a=b d=c", "a", "d", "((#1;~#0);~#2)"},
		{"a=b b=c c=d d=q", "a", "q", "(((#0;#1);#2);#3)"}, {"a=b b=c c=d d=q", "q", "a", "(((~#3;~#2);~#1);~#0)"}, {"a=b a=c a=d", "c", "d", "(~#1;#2)"}, {"a=b a=c a=d", "d", "b", "(~#2;#0)"},
		// An equation that tells nothing new is not used, also where the way by it would be shorter.
		{"a=b a=b", "a", "b", "#0"}, {"a=b b=a", "b", "a", "~#0"}, {"a=b b=c a=c", "a", "c", "(#0;#1)"}, {"a=b b=c c=d a=d", "a", "d", "((#0;#1);#2)"}, {"a=a a=b b=b b=c", "a", "c", "(#1;#3)"}, {"a=b b=c c=a", "c", "a", "(~#1;~#0)"},
		{"a=b f(a)=f(b)", "f(a)", "f(b)", "#1"}, {"f(a)=f(b) a=b", "f(b)", "f(a)", "~#0"},
		// One symbol of arguments that are in one class.
		{"a=b", "f(a)", "f(b)", "f[#0]"}, {"a=b", "f(b)", "f(a)", "f[~#0]"}, {"a=b f(a)=c", "f(b)", "c", "(~f[#0];#1)"}, {"a=b f(b)=c", "f(a)", "c", "(~f[~#0];#1)"}, {"a=b f(b)=c", "c", "f(a)", "(~#1;f[~#0])"},
		{"a=b b=c", "f(a)", "f(c)", "f[(#0;#1)]"}, {"a=b b=c", "f(c)", "f(a)", "f[(~#1;~#0)]"}, {"a=b", "g(a,c)", "g(b,c)", "g[#0;=c]"}, {"a=b", "g(c,a)", "g(c,b)", "g[=c;#0]"}, {"a=b c=d", "g(a,d)", "g(b,c)", "g[#0;~#1]"},
		{"a=b", "g(a,b)", "g(b,a)", "g[#0;~#0]"}, {"a=b", "g(a,a)", "g(b,b)", "g[#0;#0]"}, {"a=b", "g(f(c),a)", "g(f(c),b)", "g[=f(c);#0]"},
		{"f(a)=f(a) f(b)=f(b) a=b", "f(a)", "f(b)", "f[#2]"}, {"f(a)=f(a) f(b)=f(b) a=b", "f(b)", "f(a)", "~f[#2]"}, {"f(b)=f(b) f(a)=f(a) a=b", "f(b)", "f(a)", "f[~#2]"},
		// Over several levels.
		{"a=b", "f(f(a))", "f(f(b))", "f[f[#0]]"}, {"a=b", "f(f(f(b)))", "f(f(f(a)))", "f[f[f[~#0]]]"}, {"a=b f(f(f(a)))=c f(f(f(b)))=d", "c", "d", "((~#1;f[f[f[#0]]]);#2)"}, {"a=b f(f(f(a)))=c f(f(f(b)))=d", "d", "c", "((~#2;~f[f[f[#0]]]);#1)"},
		{"f(a)=b", "f(f(a))", "f(b)", "f[#0]"}, {"f(a)=b f(b)=c", "f(f(a))", "c", "(~f[~#0];#1)"}, {"a=f(a)", "a", "f(f(f(a)))", "(#0;f[(#0;f[#0])])"}, {"a=f(a)", "f(f(f(a)))", "f(f(a))", "(~f[(#0;f[#0])];f[#0])"},
		{"f(f(f(a)))=a f(f(a))=a", "f(a)", "a", "(f[~#1];#0)"}, {"f(f(f(a)))=a f(f(a))=a", "a", "f(a)", "(~#0;~f[~#1])"}, {"f(f(f(a)))=a f(f(a))=a", "f(f(a))", "f(a)", "((#1;~#0);~f[~#1])"},
		{"a=b c=d", "g(f(a),g(c,b))", "g(f(b),g(d,a))", "g[f[#0];g[#1;~#0]]"},
		// A way between arguments that leads through another such step.
		{"a=b f(a)=c f(b)=d", "f(c)", "f(d)", "f[((~#1;f[#0]);#2)]"}, {"a=b f(a)=c f(b)=d", "d", "c", "((~#2;~f[#0]);#1)"}, {"a=b b=c f(a)=d", "f(c)", "f(b)", "(~f[(#0;#1)];f[#0])"},
		{"a=b b=c", "g(f(a),f(b))", "g(f(b),f(c))", "g[f[#0];(~f[#0];f[(#0;#1)])]"},
	}
}

func TestSameWhy(t *testing.T) {
	s := readSig(t, thingSig)
	for _, c := range whyCases() {
		eqs, a, b := readEqs(t, c[0]), readTerm(t, c[1]), readTerm(t, c[2])
		w, ok := impl.SameWhy(s, eqs, a, b)
		if same := impl.SameIs(s, eqs, a, b); same != (c[3] != "") || ok != same {
			t.Errorf("%s: SameIs(%s, %s) is %v, SameWhy %v", c[0], c[1], c[2], same, ok)
		}
		if !ok {
			if !isZeroWhy(w) {
				t.Errorf("%s: without an explanation of %s = %s, SameWhy returns %s", c[0], c[1], c[2], writeWhy(w))
			}
			continue
		}
		if got := writeWhy(w); got != c[3] {
			t.Errorf("%s: SameWhy(%s, %s) is %s; want %s", c[0], c[1], c[2], got, c[3])
		}
		checkWhy(t, s, eqs, a, b, w)
	}
}

// checkWhy is promise 5 for an explanation that SameWhy returned: it derives exactly a = b, from the equations that WhyUses names and from no others. It returns how many equations it found to be used, and not to be, by leaving them out.
func checkWhy(t *testing.T, s impl.Sig, eqs []impl.Eq, a impl.Term, b impl.Term, w impl.Why) (used int, unused int) {
	t.Helper()
	want := writeTerm(a) + "=" + writeTerm(b)
	checkTells(t, s, eqs, w, want)
	uses := impl.WhyUses(w)
	if !slices.Equal(uses, usedBy(w)) {
		t.Errorf("%s: WhyUses of %.1000s is %v", writeEqs(eqs), writeWhy(w), uses)
	}
	left, ok := constantOutside(s, writeEqs(eqs)+" "+want)
	for at := range eqs {
		// Without this equation, which is exchanged for one of another thing, w does not derive a = b if and only if it uses it.
		others := slices.Clone(eqs)
		others[at] = impl.Eq{A: left, B: left}
		if !ok || !impl.EqsOk(s, others) {
			continue
		}
		e, ok := impl.WhyTells(s, others, w)
		isUsed := !ok || writeEq(e) != want
		if isUsed != slices.Contains(uses, at) {
			t.Errorf("%s: WhyUses of %.1000s is %v, but without equation %d it tells %s, %v", writeEqs(eqs), writeWhy(w), uses, at, writeEq(e), ok)
		}
		if isUsed {
			used++
		} else {
			unused++
		}
	}
	return used, unused
}

// constantOutside is a constant that is not in some texts of terms, if there is one.
func constantOutside(s impl.Sig, texts string) (impl.Term, bool) {
	names := letters.FindAllString(texts, -1)
	for _, y := range s.Syms {
		if len(y.Args) == 0 && !slices.Contains(names, y.Name) {
			return app(y.Name), true
		}
	}
	return impl.Term{}, false
}

// checkTells checks that w derives the equation with this text, or none.
func checkTells(t *testing.T, s impl.Sig, eqs []impl.Eq, w impl.Why, want string) {
	t.Helper()
	e, ok := impl.WhyTells(s, eqs, w)
	if ok != (want != "") || ok && writeEq(e) != want || !ok && !isZeroEq(e) {
		t.Errorf("%.1000s: WhyTells is %s, %v; want %q", writeEqs(eqs), writeEq(e), ok, want)
	}
}

func TestWhyTells(t *testing.T) {
	s := readSig(t, thingSig)
	eqs := readEqs(t, "a=b b=c f(b)=c g(a,f(a))=d a=a d=d")
	a, fa := app("a"), app("f", app("a"))
	for _, c := range []struct {
		w    impl.Why
		want string
	}{
		{refl(a), "a=a"}, {refl(fa), "f(a)=f(a)"}, {refl(app("q")), "q=q"}, {refl(app("g", fa, app("g", a, fa))), "g(f(a),g(a,f(a)))=g(f(a),g(a,f(a)))"}, {impl.Why{Rule: whyRefl, T: impl.Term{Name: "a", Kids: []impl.Term{}}, Kids: []impl.Why{}}, "a=a"},
		{given(0), "a=b"}, {given(1), "b=c"}, {given(2), "f(b)=c"}, {given(3), "g(a,f(a))=d"}, {given(4), "a=a"}, {given(5), "d=d"},
		{turned(given(0)), "b=a"}, {turned(turned(given(0))), "a=b"}, {turned(refl(a)), "a=a"}, {turned(given(3)), "d=g(a,f(a))"}, {turned(turned(turned(given(2)))), "c=f(b)"},
		{joined(given(0), given(1)), "a=c"}, {joined(turned(given(1)), turned(given(0))), "c=a"}, {joined(given(0), turned(given(0))), "a=a"}, {joined(turned(given(0)), given(0)), "b=b"}, {joined(given(4), given(0)), "a=b"}, {joined(given(4), given(4)), "a=a"},
		{joined(refl(a), given(0)), "a=b"}, {joined(given(0), refl(app("b"))), "a=b"}, {joined(refl(a), refl(a)), "a=a"}, {joined(given(2), turned(given(1))), "f(b)=b"}, {turned(joined(given(0), given(1))), "c=a"},
		{joined(given(0), joined(given(1), turned(given(2)))), "a=f(b)"}, {joined(joined(given(0), given(1)), turned(given(2))), "a=f(b)"}, {joined(joined(given(0), given(1)), joined(turned(given(1)), turned(given(0)))), "a=a"},
		{cong("f", given(0)), "f(a)=f(b)"}, {cong("f", turned(given(0))), "f(b)=f(a)"}, {cong("f", refl(a)), "f(a)=f(a)"}, {cong("g", given(0), given(1)), "g(a,b)=g(b,c)"}, {cong("g", given(1), given(0)), "g(b,a)=g(c,b)"}, {cong("g", refl(a), given(2)), "g(a,f(b))=g(a,c)"},
		{cong("f", cong("f", given(0))), "f(f(a))=f(f(b))"}, {cong("f", cong("f", cong("f", given(0)))), "f(f(f(a)))=f(f(f(b)))"}, {cong("f", given(2)), "f(f(b))=f(c)"}, {cong("f", cong("f", turned(given(2)))), "f(f(c))=f(f(f(b)))"}, {cong("f", joined(given(0), given(1))), "f(a)=f(c)"},
		{joined(cong("f", given(0)), given(2)), "f(a)=c"}, {joined(given(2), turned(given(2))), "f(b)=f(b)"}, {joined(cong("g", refl(a), cong("f", turned(given(0)))), given(3)), "g(a,f(b))=d"}, {cong("g", cong("g", given(0), given(1)), cong("f", given(0))), "g(g(a,b),f(a))=g(g(b,c),f(b))"},
		// As many terms as there may be: on both sides, and on one of them.
		{cong("g", cong("g", refl(app("g", a, a)), refl(app("g", a, a))), cong("g", refl(fa), given(0))), "g(g(g(a,a),g(a,a)),g(f(a),a))=g(g(g(a,a),g(a,a)),g(f(a),b))"},
		{cong("g", cong("g", refl(app("g", a, a)), refl(app("g", a, a))), cong("f", cong("f", given(0)))), "g(g(g(a,a),g(a,a)),f(f(a)))=g(g(g(a,a),g(a,a)),f(f(b)))"},
		{cong("g", cong("g", refl(app("g", a, a)), refl(app("g", a, a))), refl(app("g", fa, a))), "g(g(g(a,a),g(a,a)),g(f(a),a))=g(g(g(a,a),g(a,a)),g(f(a),a))"},
		{cong("g", cong("g", refl(app("g", a, a)), refl(app("g", a, a))), cong("g", given(2), refl(a))), "g(g(g(a,a),g(a,a)),g(f(b),a))=g(g(g(a,a),g(a,a)),g(c,a))"},
		{cong("g", cong("g", refl(app("g", a, a)), refl(app("g", a, a))), cong("g", given(2), refl(fa))), ""},
		{cong("g", cong("g", refl(app("g", a, a)), refl(app("g", a, a))), cong("g", turned(given(2)), refl(fa))), ""},
		// Too deep terms: on both sides, on one, and at a lower level.
		{cong("f", cong("f", cong("f", cong("f", given(0))))), ""}, {cong("f", cong("f", cong("f", given(2)))), ""}, {cong("f", cong("f", cong("f", turned(given(2))))), ""}, {turned(cong("f", cong("f", cong("f", given(2))))), ""}, {cong("f", refl(app("f", app("f", fa)))), ""},
		{joined(turned(cong("f", cong("f", cong("f", given(2))))), cong("f", cong("f", cong("f", given(2))))), ""}, {joined(cong("f", cong("f", cong("f", given(2)))), turned(cong("f", cong("f", cong("f", given(2)))))), ""}, {cong("g", refl(a), cong("f", cong("f", cong("f", refl(fa))))), ""},
		{joined(given(0), joined(given(1), joined(turned(cong("f", cong("f", cong("f", given(2))))), refl(a)))), ""},
		// Steps that do not meet, also where other sides of them are the same.
		{joined(given(0), given(0)), ""}, {joined(given(1), given(0)), ""}, {joined(given(0), turned(given(1))), ""}, {joined(turned(given(0)), given(1)), ""}, {joined(given(0), given(2)), ""}, {joined(refl(a), given(1)), ""}, {joined(given(0), refl(a)), ""}, {joined(refl(a), refl(fa)), ""},
		{joined(joined(given(0), given(1)), given(1)), ""}, {joined(given(0), joined(given(0), given(1))), ""}, {turned(joined(given(1), given(0))), ""}, {cong("f", joined(given(1), given(0))), ""}, {joined(cong("f", given(0)), cong("f", given(0))), ""}, {joined(given(0), joined(given(1), given(2))), ""},
		// No such equation, at each level.
		{given(6), ""}, {given(-1), ""}, {given(7), ""}, {given(256), ""}, {given(1 << 32), ""}, {given(math.MaxInt), ""}, {given(math.MinInt), ""}, {turned(given(6)), ""}, {joined(given(0), given(6)), ""}, {joined(given(-1), given(0)), ""}, {cong("f", given(6)), ""}, {cong("g", given(0), given(-1)), ""}, {cong("f", turned(given(6))), ""},
		// Terms that are not well-sorted.
		{refl(app("z")), ""}, {refl(app("f")), ""}, {refl(app("a", a)), ""}, {refl(app("f", a, a)), ""}, {refl(app("g", a)), ""}, {refl(app("f", app("z"))), ""}, {cong("z", given(0)), ""}, {cong("f", given(0), given(1)), ""}, {cong("g", given(0)), ""}, {cong("a", given(0)), ""}, {cong("f", refl(app("z"))), ""}, {joined(refl(app("z")), refl(app("z"))), ""}, {turned(refl(app("z"))), ""},
	} {
		checkTells(t, s, eqs, c.w, c.want)
	}
}

// spoiled is explanations with something in w itself that is not as the document describes it.
func spoiled(w impl.Why) []impl.Why {
	var list []impl.Why
	change := func(edit func(v *impl.Why)) {
		v := copyWhy(w)
		edit(&v)
		list = append(list, v)
	}
	for _, rule := range []int{0, -1, -w.Rule, 6, 7, 255, 256 + w.Rule, 1<<32 + w.Rule, math.MaxInt, math.MinInt} {
		change(func(v *impl.Why) { v.Rule = rule })
	}
	if w.Rule != whyGiven {
		for _, n := range []int{1, -1, 2, 256, 1 << 32, math.MaxInt, math.MinInt} {
			change(func(v *impl.Why) { v.N = n })
		}
	}
	if w.Rule != whyRefl && w.Rule != whyCong {
		for _, x := range []impl.Term{app("a"), app("f"), app("A"), app("f", app("a")), app("", app("a")), {Kids: make([]impl.Term, 1)}, {Kids: make([]impl.Term, 3)}, ring(1, "f"), ring(1, "")} {
			change(func(v *impl.Why) { v.T = x })
		}
	}
	if w.Rule == whyCong {
		for _, kids := range [][]impl.Term{{app("a")}, {{}}, {app("a"), app("a")}, make([]impl.Term, 1000), ring(1, "f").Kids} {
			change(func(v *impl.Why) { v.T.Kids = kids })
		}
		for _, name := range badNames() {
			change(func(v *impl.Why) { v.T.Name = name })
		}
	}
	for _, extra := range []impl.Why{refl(app("a")), {}} {
		change(func(v *impl.Why) { v.Kids = append(v.Kids, extra) })
		change(func(v *impl.Why) { v.Kids = append([]impl.Why{extra}, v.Kids...) })
		change(func(v *impl.Why) { v.Kids = slices.Repeat([]impl.Why{extra}, 1000) })
	}
	if len(w.Kids) > 0 {
		change(func(v *impl.Why) { v.Kids = nil })
		change(func(v *impl.Why) { v.Kids[0] = impl.Why{} })
		change(func(v *impl.Why) { v.Kids[len(v.Kids)-1] = impl.Why{} })
	}
	if w.Rule == whyTrans {
		change(func(v *impl.Why) { v.Kids = v.Kids[:1] })
		change(func(v *impl.Why) { v.Kids = v.Kids[1:] })
	}
	return list
}

func TestWhyTellsRefuses(t *testing.T) {
	s := readSig(t, thingSig)
	eqs := readEqs(t, "a=b b=c a=a")
	a := app("a")
	for _, w := range []impl.Why{refl(a), given(0), given(2), turned(given(2)), turned(refl(a)), joined(given(0), given(1)), joined(refl(a), refl(a)), joined(given(2), given(2)), cong("f", given(0)), cong("f", refl(a)), cong("g", given(2), given(2)), cong("g", refl(a), refl(a))} {
		// These explanations would be right if it were not for w.
		around := func(w impl.Why, e string) map[string]impl.Why {
			left, right, _ := strings.Cut(e, "=")
			x := readTerm(t, left)
			return map[string]impl.Why{
				e: w, right + "=" + left: turned(w), left + "=" + right: joined(refl(x), w), "f(" + left + ")=f(" + right + ")": cong("f", w),
				"g(" + left + ",a)=g(" + right + ",a)": cong("g", w, refl(a)), "g(a," + left + ")=g(a," + right + ")": cong("g", refl(a), w), "f(f(" + left + "))=f(f(" + right + "))": cong("f", joined(refl(app("f", x)), turned(turned(cong("f", w))))),
			}
		}
		e, ok := impl.WhyTells(s, eqs, w)
		if !ok {
			t.Fatalf("%s is an explanation", writeWhy(w))
		}
		for want, v := range around(w, writeEq(e)) {
			checkTells(t, s, eqs, v, want)
		}
		// Where a WhyCong has a kid more, the term is well-formed, but not well-sorted.
		for _, bad := range spoiled(w) {
			for _, v := range around(bad, writeEq(e)) {
				checkTells(t, s, eqs, v, "")
			}
		}
	}
	checkTells(t, s, eqs, impl.Why{}, "")
	checkTells(t, s, nil, given(0), "")
	checkTells(t, s, nil, refl(a), "a=a")
	for _, x := range append(badTerms(), endlessTerms()...) {
		checkTells(t, s, eqs, refl(x), "")
		checkTells(t, s, eqs, turned(refl(x)), "")
		checkTells(t, s, eqs, joined(given(2), joined(refl(x), refl(x))), "")
		checkTells(t, s, eqs, cong("f", refl(x)), "")
	}
}

// TestWhyTellsOfSorts derives equations of numbers, and of terms that are well-formed but not well-sorted.
func TestWhyTellsOfSorts(t *testing.T) {
	s := readSig(t, bothSig)
	eqs := readEqs(t, "a=b x=h(a) x=y")
	for _, c := range []struct {
		w    impl.Why
		want string
	}{
		{given(1), "x=h(a)"}, {joined(turned(given(1)), given(2)), "h(a)=y"}, {cong("h", given(0)), "h(a)=h(b)"}, {cong("n", given(2), turned(given(1))), "n(x,h(a))=n(y,x)"}, {joined(given(1), cong("h", given(0))), "x=h(b)"},
		{cong("h", given(1)), ""}, {cong("f", given(2)), ""}, {cong("n", given(0), given(2)), ""}, {cong("n", given(2), given(0)), ""}, {refl(app("h", app("x"))), ""}, {refl(app("n", app("x"), app("a"))), ""}, {cong("n", given(2)), ""}, {cong("x", given(0)), ""}, {joined(given(0), given(2)), ""},
	} {
		checkTells(t, s, eqs, c.w, c.want)
	}
}

// tower is an explanation of so many levels above w.
func tower(w impl.Why, levels int, put func(impl.Why) impl.Why) impl.Why {
	for range levels {
		w = put(w)
	}
	return w
}

func TestWhyDeep(t *testing.T) {
	s := readSig(t, thingSig)
	eqs := readEqs(t, "a=a a=b b=b")
	a := app("a")
	for _, top := range []struct {
		w    impl.Why
		name string
	}{{given(1), "a=b"}, {refl(a), "a=a"}, {cong("f", given(1)), "f(a)=f(b)"}, {joined(given(1), given(2)), "a=b"}} {
		left, right, _ := strings.Cut(top.name, "=")
		x, y := readTerm(t, left), readTerm(t, right)
		for _, levels := range []int{1, 2, 10, whyDeep - 1, whyDeep, whyDeep + 1, whyDeep + 2, 2 * whyDeep, 100000} {
			room := levels - whyLevels(top.w)
			if room < 0 {
				continue
			}
			for i, put := range []func(impl.Why) impl.Why{
				turned,
				func(w impl.Why) impl.Why { return joined(w, refl(y)) },
				func(w impl.Why) impl.Why { return joined(refl(x), w) },
			} {
				want := top.name
				if i == 0 && room%2 == 1 {
					want = right + "=" + left
				}
				if levels > whyDeep {
					want = ""
				}
				checkTells(t, s, eqs, tower(top.w, room, put), want)
			}
		}
	}
	// The depth is that of the deepest kid, whichever it is, and also below a symbol.
	even := func(levels int) impl.Why { return tower(refl(a), levels-1, turned) }
	for _, levels := range []int{whyDeep - 1, whyDeep, whyDeep + 1} {
		for _, w := range []impl.Why{cong("g", even(levels-1), refl(a)), cong("g", refl(a), even(levels-1)), cong("g", even(levels-1), even(levels-1)), cong("g", even(levels-1), even(levels-2)), cong("g", even(levels-2), even(levels-1))} {
			want := "g(a,a)=g(a,a)"
			if levels > whyDeep {
				want = ""
			}
			checkTells(t, s, eqs, w, want)
		}
	}
}

// whyBush is an explanation that is so deep and has the next lower one twice, in one place in memory; written out, it has no room.
func whyBush(levels int, end impl.Why) impl.Why {
	w := end
	for range levels - 1 {
		w = joined(w, w)
	}
	return w
}

// whyRing is an explanation that contains itself so many levels deeper.
func whyRing(levels int, last impl.Why) impl.Why {
	lists := make([][]impl.Why, levels)
	for i := range lists {
		lists[i] = make([]impl.Why, 1)
	}
	for i := range lists {
		lists[i][0] = impl.Why{Rule: whySym, Kids: lists[(i+1)%levels]}
	}
	lists[0][0].Rule, lists[0][0].N, lists[0][0].T = last.Rule, last.N, last.T
	return lists[levels-1][0]
}

// whyTangle is explanations of which each contains many of the others, and some of them itself.
func whyTangle(count int) []impl.Why {
	all := make([]impl.Why, count)
	for i := range all {
		all[i] = impl.Why{Rule: i % 7, N: i, Kids: all[i/2:]}
	}
	return all
}

// endlessWhys are no explanations, and have no end or seem to have none.
func endlessWhys() []impl.Why {
	both := make([]impl.Why, 2)
	both[0], both[1] = joined(refl(app("a")), given(0)), impl.Why{Rule: whyTrans, Kids: both}
	tangle := whyTangle(50)
	twice := make([]impl.Why, 2)
	twice[0] = impl.Why{Rule: whyTrans, Kids: twice}
	twice[1] = twice[0]
	return []impl.Why{
		whyRing(1, turned(given(0))), whyRing(2, turned(given(0))), whyRing(3, turned(given(0))), whyRing(3, given(5)), whyRing(1, impl.Why{}), whyRing(2, cong("f")), turned(whyRing(1, turned(given(0)))), cong("f", whyRing(1, cong("f"))), whyRing(1, cong("f")),
		both[1], joined(given(0), both[1]), {Rule: whyTrans, Kids: tangle[:2]}, tangle[0], tangle[48], tangle[49], twice[0], {Rule: whyCong, T: app("g"), Kids: twice}, whyBush(whyDeep+1, refl(app("a"))), whyBush(3000, given(0)), tower(refl(app("a")), 1000000, turned),
	}
}

func TestWhyTellsOfSharedMemory(t *testing.T) {
	s := readSig(t, thingSig)
	eqs := readEqs(t, "a=a a=b")
	a := app("a")
	for _, levels := range []int{1, 2, 30, 80, whyDeep - 1, whyDeep, whyDeep + 1, whyDeep + 2, 3000} {
		want := "a=a"
		if levels > whyDeep {
			want = ""
		}
		checkTells(t, s, eqs, whyBush(levels, given(0)), want)
		checkTells(t, s, eqs, whyBush(levels, refl(a)), want)
		checkTells(t, s, eqs, whyBush(levels, given(2)), "")
		checkTells(t, s, eqs, whyBush(levels+1, given(1)), "")
		checkTells(t, s, eqs, whyBush(levels+1, refl(app("A"))), "")
	}
	// One explanation stands at a higher and at a lower level; it is too deep only at the lower one.
	for _, room := range []int{1, 2, 200, whyDeep - 3, whyDeep - 2, whyDeep - 1, whyDeep} {
		for _, levels := range []int{whyDeep - room - 1, whyDeep - room, whyDeep - room + 1} {
			if levels < 5 {
				continue
			}
			// The kid of all but the first is as deep as its first kid, or as its last one.
			down := tower(given(0), levels-3, turned)
			for _, low := range []impl.Why{whyBush(levels, given(0)), turned(joined(down, given(0))), turned(joined(given(0), down)), turned(joined(turned(refl(a)), down)), turned(joined(down, turned(given(0))))} {
				want := ""
				if levels+room <= whyDeep {
					want = "a=a"
				}
				checkTells(t, s, eqs, joined(low, tower(low, room-1, turned)), want)
				checkTells(t, s, eqs, joined(tower(low, room-1, turned), low), want)
			}
		}
	}
	for i, w := range endlessWhys() {
		checkTells(t, s, eqs, w, "")
		checkTells(t, s, eqs, joined(given(0), w), "")
		checkTells(t, s, eqs, joined(w, given(0)), "")
		if _, ok := impl.WhyTells(s, eqs, turned(w)); ok {
			t.Errorf("endless explanation %d", i)
		}
	}
}

func TestWhySame(t *testing.T) {
	a, b := app("a"), app("b")
	// Each of these differs from all others somewhere; the ones that are wrong too.
	list := []impl.Why{
		{}, refl(a), refl(b), refl(impl.Term{}), refl(app("f", a)), refl(app("f", a, a)), refl(app("f", app("f", a))), refl(app("A")), refl(app("", impl.Term{})), refl(app("f", make([]impl.Term, 1000)...)),
		given(0), given(1), given(-1), given(256), given(math.MaxInt), given(math.MinInt), {N: 1}, {T: a}, {Kids: make([]impl.Why, 1)}, {Kids: make([]impl.Why, 2)}, {Kids: make([]impl.Why, 1000)}, {Kids: []impl.Why{{Kids: make([]impl.Why, 1)}}}, {Kids: []impl.Why{{Kids: make([]impl.Why, 1)}, {}}}, {Kids: []impl.Why{{}, {Kids: make([]impl.Why, 1)}}},
		{Rule: 6}, {Rule: -1}, {Rule: 257}, {Rule: 1<<32 + 1}, {Rule: math.MinInt}, {Rule: whySym}, {Rule: whyTrans}, {Rule: whyCong}, {Rule: whyRefl, N: 1, T: a}, {Rule: whyGiven, T: a}, {Rule: whyGiven, T: b}, {Rule: whyGiven, N: 1, T: a}, {Rule: whyGiven, Kids: []impl.Why{given(0)}},
		turned(given(0)), turned(given(1)), turned(refl(a)), turned(refl(b)), turned(turned(given(0))), turned(turned(given(1))), {Rule: whySym, N: 1, Kids: []impl.Why{given(0)}}, {Rule: whySym, T: a, Kids: []impl.Why{given(0)}}, {Rule: whySym, Kids: []impl.Why{given(0), given(0)}},
		joined(given(0), given(1)), joined(given(1), given(0)), joined(given(0), given(0)), joined(given(1), given(1)), joined(turned(given(0)), given(1)), joined(given(0), turned(given(1))), joined(joined(given(0), given(1)), given(2)), joined(given(0), joined(given(1), given(2))), {Rule: whyTrans, Kids: []impl.Why{given(0), given(1), given(1)}},
		cong("f", given(0)), cong("g", given(0)), cong("f", given(1)), cong("f", given(0), given(0)), cong("f", refl(a)), cong("f", refl(b)), cong("f", given(0), refl(a)), cong("f", refl(a), given(0)), cong("f", cong("f", given(0))), cong("f", cong("g", given(0))), {Rule: whyCong, T: app("f", a), Kids: []impl.Why{given(0)}}, {Rule: whyCong, T: app("f", b), Kids: []impl.Why{given(0)}},
		joined(refl(a), refl(b)), joined(refl(b), refl(a)), joined(refl(a), refl(a)), joined(cong("f", given(0)), turned(cong("f", given(0)))), joined(cong("f", given(0)), turned(cong("f", given(1)))), joined(cong("f", given(1)), turned(cong("f", given(0)))),
	}
	for i, v := range list {
		for j, w := range list {
			if impl.WhySame(v, copyWhy(w)) != (i == j) {
				t.Errorf("WhySame(%.200s, %.200s) is not %v", writeWhy(v), writeWhy(w), i == j)
			}
			if impl.WhySame(v, w) != (i == j) {
				t.Errorf("in the same memory, WhySame(%.200s, %.200s) is not %v", writeWhy(v), writeWhy(w), i == j)
			}
		}
	}
	if !impl.WhySame(given(0), impl.Why{Rule: whyGiven, T: impl.Term{Kids: []impl.Term{}}, Kids: []impl.Why{}}) || !impl.WhySame(turned(given(0)), impl.Why{Rule: whySym, Kids: append(make([]impl.Why, 0, 5), given(0))}) {
		t.Error("no elements are the same as nil")
	}
}

func TestWhySameOfSharedMemory(t *testing.T) {
	for _, levels := range []int{1, 2, 5, 30, whyDeep, 3000} {
		v, w, x, longer := whyBush(levels, given(0)), whyBush(levels, given(0)), whyBush(levels, given(1)), whyBush(levels+1, given(0))
		if !impl.WhySame(v, v) || !impl.WhySame(v, w) || impl.WhySame(v, x) || impl.WhySame(v, longer) || impl.WhySame(longer, v) {
			t.Errorf("explanations of depth %d, each of which has the next one twice", levels)
		}
	}
	for _, levels := range []int{2, 1000, 200000} {
		v, w, x, longer := tower(given(0), levels, turned), tower(given(0), levels, turned), tower(given(1), levels, turned), tower(given(0), levels+1, turned)
		if !impl.WhySame(v, v) || !impl.WhySame(v, w) || impl.WhySame(v, x) || impl.WhySame(v, longer) || impl.WhySame(longer, v) {
			t.Errorf("explanations of depth %d", levels)
		}
	}
	for m := 1; m <= 5; m++ {
		for n := 1; n <= 5; n++ {
			v, w := whyRing(m, turned(given(0))), whyRing(n, turned(given(0)))
			if !impl.WhySame(v, w) || !impl.WhySame(turned(v), w) || impl.WhySame(v, joined(w, w)) || impl.WhySame(v, tower(given(0), n, turned)) {
				t.Errorf("rings of %d and %d levels", m, n)
			}
			if impl.WhySame(whyRing(m, given(7)), whyRing(n, given(7))) != (m == n) || impl.WhySame(whyRing(m, given(7)), w) || impl.WhySame(w, whyRing(m, given(7))) {
				t.Errorf("rings of %d and %d levels with a rule that comes once around", m, n)
			}
			if x, y := refl(ring(m, "f")), refl(ring(n, "f")); !impl.WhySame(x, y) || impl.WhySame(x, refl(ring(n, "g"))) && n > 1 || !impl.WhySame(joined(x, y), joined(y, x)) {
				t.Errorf("terms that contain themselves after %d and %d levels", m, n)
			}
		}
	}
	for i, w := range endlessWhys() {
		if !impl.WhySame(w, w) || impl.WhySame(w, impl.Why{}) || impl.WhySame(w, cong("q", w)) || impl.WhySame(cong("q", w), w) || !impl.WhySame(cong("q", w), cong("q", w)) {
			t.Errorf("endless explanation %d", i)
		}
	}
	// The kids begin in the same place, or one place further, and end in others.
	kids := []impl.Why{given(0), given(0), given(0), given(1)}
	part := func(from int, to int) impl.Why { return impl.Why{Rule: whyTrans, Kids: kids[from:to]} }
	for _, c := range []struct {
		v, w impl.Why
		same bool
	}{
		{part(0, 2), part(1, 3), true}, {part(0, 2), part(0, 3), false}, {part(0, 3), part(1, 4), false}, {part(0, 2), part(2, 4), false}, {part(0, 1), part(2, 3), true},
		{joined(part(0, 1), part(0, 2)), joined(part(1, 2), part(1, 3)), true}, {joined(part(0, 1), part(0, 3)), joined(part(1, 2), part(1, 4)), false}, {joined(part(0, 1), part(0, 2)), joined(part(1, 2), part(0, 3)), false},
	} {
		if impl.WhySame(c.v, c.w) != c.same || impl.WhySame(c.w, c.v) != c.same {
			t.Errorf("WhySame(%s, %s) is not %v", writeWhy(c.v), writeWhy(c.w), c.same)
		}
	}
	// A great term in a great many explanations.
	great, other := bush(3000, "a"), bush(3000, "b")
	v, w := impl.Why{Kids: slices.Repeat([]impl.Why{refl(great)}, 20000)}, impl.Why{Kids: slices.Repeat([]impl.Why{refl(bush(3000, "a"))}, 20000)}
	if !impl.WhySame(v, w) {
		t.Error("a great term is not the same in each place")
	}
	if w.Kids[19999].T = other; impl.WhySame(v, w) {
		t.Error("a great term that is another one in the last place")
	}
}

func TestWhyUses(t *testing.T) {
	for _, c := range []struct {
		w    impl.Why
		want string
	}{
		{impl.Why{}, ""}, {refl(app("a")), ""}, {given(0), "0"}, {given(5), "5"}, {turned(given(3)), "3"}, {joined(given(2), given(1)), "1 2"}, {joined(given(1), given(1)), "1"}, {joined(given(1), turned(given(1))), "1"}, {cong("f", refl(app("a"))), ""}, {cong("g", given(4), given(0)), "0 4"},
		{joined(joined(given(10), given(2)), joined(given(9), given(2))), "2 9 10"}, {cong("f", cong("f", turned(turned(given(7))))), "7"}, {joined(joined(given(3), given(1)), cong("g", joined(given(2), given(3)), turned(given(0)))), "0 1 2 3"},
		// Any explanation, also a wrong one.
		{given(-1), "-1"}, {given(math.MinInt), "-9223372036854775808"}, {given(math.MaxInt), "9223372036854775807"}, {joined(given(math.MaxInt), given(math.MinInt)), "-9223372036854775808 9223372036854775807"}, {joined(given(100), given(-100)), "-100 100"},
		{impl.Why{Rule: whyGiven, N: 3, T: app("a"), Kids: []impl.Why{given(1), refl(app("a"))}}, "1 3"}, {impl.Why{Rule: whyRefl, N: 3, Kids: []impl.Why{given(1)}}, "1"}, {impl.Why{Rule: 77, N: 3, Kids: []impl.Why{given(1), given(0), given(2)}}, "0 1 2"}, {impl.Why{N: 3, Kids: []impl.Why{{N: 4, Kids: []impl.Why{given(5)}}}}, "5"},
		{impl.Why{Rule: whySym, N: 3}, ""}, {impl.Why{Rule: whyTrans, N: 3}, ""}, {impl.Why{Rule: whyCong, N: 3}, ""}, {impl.Why{Rule: whySym, Kids: []impl.Why{given(1), given(0), given(1), given(4)}}, "0 1 4"}, {impl.Why{Rule: 1<<32 + whyGiven, N: 3}, ""}, {impl.Why{Rule: -whyGiven, N: 3}, ""},
		// One that has one place in memory often, or itself.
		{whyBush(3000, given(6)), "6"}, {joined(whyBush(80, given(6)), whyBush(70, given(4))), "4 6"}, {whyRing(3, given(5)), "5"}, {joined(given(1), whyRing(2, given(0))), "0 1"}, {whyRing(1, turned(given(0))), ""}, {tower(given(8), 1000000, turned), "8"}, {refl(ring(1, "f")), ""},
		{impl.Why{Kids: slices.Repeat([]impl.Why{given(3), given(2)}, 100000)}, "2 3"},
	} {
		if got := writeInts(impl.WhyUses(c.w)); got != c.want {
			t.Errorf("WhyUses is %s; want %s", got, c.want)
		}
	}
	// Kids that overlap in memory.
	kids := []impl.Why{given(0), given(1), given(2), given(3)}
	kids[1].Kids, kids[2].Kids = kids[2:], kids[3:]
	others := []impl.Why{given(4), given(5), given(6), given(7)}
	for _, c := range []struct {
		w    impl.Why
		want string
	}{{impl.Why{Kids: kids[:1]}, "0"}, {impl.Why{Kids: kids[:2]}, "0 1 2 3"}, {impl.Why{Kids: kids[2:3]}, "2 3"}, {joined(impl.Why{Kids: kids[3:]}, impl.Why{Kids: kids[:1]}), "0 3"},
		{joined(impl.Why{Kids: others[:1]}, impl.Why{Kids: others[:3]}), "4 5 6"}, {joined(impl.Why{Kids: others[:3]}, impl.Why{Kids: others[:1]}), "4 5 6"}, {joined(impl.Why{Kids: others[1:]}, impl.Why{Kids: others[:3]}), "4 5 6 7"}, {joined(impl.Why{Kids: others[:3]}, impl.Why{Kids: others[1:]}), "4 5 6 7"}} {
		if got := writeInts(impl.WhyUses(c.w)); got != c.want {
			t.Errorf("WhyUses of kids that overlap is %s; want %s", got, c.want)
		}
	}
	var many impl.Why
	for i := range 1000 {
		many.Kids = append(many.Kids, given(i*617%1000))
	}
	for i, n := range impl.WhyUses(many) {
		if i != n {
			t.Fatalf("number %d of a thousand is %d", i, n)
		}
	}
	if got := writeInts(impl.WhyUses(whyTangle(50)[0])); got != "2 9 16 23 30 37 44" {
		t.Errorf("WhyUses of a tangle is %s", got)
	}
}

// checkRefused checks that no function takes these equations.
func checkRefused(t *testing.T, s impl.Sig, eqs []impl.Eq) {
	t.Helper()
	if impl.EqsOk(s, eqs) {
		t.Errorf("EqsOk(%.200v, ..%d) is true", s, len(eqs))
	}
	a := app("a")
	checkMoreRefused(t, s, eqs, nil)
	checkMoreRefused(t, s, eqs, []impl.Term{a})
	checkPairRefused(t, s, eqs, a, a)
	for _, w := range []impl.Why{refl(a), given(0), turned(given(0)), joined(refl(a), refl(a))} {
		checkTells(t, s, eqs, w, "")
	}
}

// checkMoreRefused checks that SameSteps and SameClass do not take these terms.
func checkMoreRefused(t *testing.T, s impl.Sig, eqs []impl.Eq, more []impl.Term) {
	t.Helper()
	parts, steps := impl.SameSteps(s, eqs, more)
	if len(parts) != 0 || len(steps) != 0 {
		t.Errorf("SameSteps(%.200v, ..%d) is %d parts and %d steps", s, len(eqs), len(parts), len(steps))
	}
	if got := impl.SameClass(s, eqs, more); len(got) != 0 {
		t.Errorf("SameClass(%.200v, ..%d) is %v", s, len(eqs), got)
	}
}

// checkPairRefused checks that SameIs and SameWhy do not take these terms.
func checkPairRefused(t *testing.T, s impl.Sig, eqs []impl.Eq, a impl.Term, b impl.Term) {
	t.Helper()
	if impl.SameIs(s, eqs, a, b) {
		t.Errorf("SameIs(%.200v, ..%d) is true", s, len(eqs))
	}
	if w, ok := impl.SameWhy(s, eqs, a, b); ok || !isZeroWhy(w) {
		t.Errorf("SameWhy(%.200v, ..%d) is %s, %v", s, len(eqs), writeWhy(w), ok)
	}
}

func TestSameRefusesSignatures(t *testing.T) {
	a := app("a")
	for _, s := range invalidSigs() {
		checkRefused(t, s, nil)
		checkRefused(t, s, []impl.Eq{{A: a, B: a}})
		for _, y := range s.Syms {
			checkRefused(t, s, []impl.Eq{{A: app(y.Name), B: app(y.Name)}})
		}
	}
	// Without symbols, there are equations only if there are none.
	if !impl.EqsOk(impl.Sig{}, nil) || !impl.EqsOk(readSig(t, thingSig), nil) || !impl.EqsOk(readSig(t, thingSig), []impl.Eq{}) {
		t.Error("EqsOk of no equations is false")
	}
	checkMoreRefused(t, impl.Sig{}, nil, []impl.Term{a})
	checkPairRefused(t, impl.Sig{}, nil, a, a)
	checkRefused(t, impl.Sig{}, []impl.Eq{{A: a, B: a}})
	// A symbol that is wrong elsewhere than in the terms.
	for _, bad := range []impl.Sig{sigOf(sym("a", 0), sym("b", 2)), sigOf(sym("a", 0), sym("B", 0)), sigOf(sym("a", 0), sym("c", 0), sym("b", 0)), sigOf(sym("a", 0), sym("b", 0, 0, 0, 0))} {
		checkRefused(t, bad, nil)
		checkRefused(t, bad, []impl.Eq{{A: a, B: a}})
	}
}

func TestSameRefusesTerms(t *testing.T) {
	s := readSig(t, bothSig)
	good := readEqs(t, "a=b x=h(a)")
	a, x := app("a"), app("x")
	bad := append(badTerms(), endlessTerms()...)
	for _, text := range []string{"z", "f", "h", "n(x)", "f(x)", "h(x)", "a(a)", "f(a,a)", "n(x,a)", "n(a,x)", "f(f(x))", "h(h(a))", "n(x,n(x,z))", "f(f(f(z)))"} {
		bad = append(bad, readTerm(t, text))
	}
	for _, y := range bad {
		for _, e := range []impl.Eq{{A: y, B: a}, {A: a, B: y}, {A: y, B: x}, {A: y, B: y}} {
			checkRefused(t, s, []impl.Eq{e})
			checkRefused(t, s, append(slices.Clone(good), e))
			checkRefused(t, s, append([]impl.Eq{e}, good...))
		}
		for _, more := range [][]impl.Term{{y}, {a, y}, {y, a}, {y, y}, {x, y, a}} {
			checkMoreRefused(t, s, good, more)
			checkMoreRefused(t, s, nil, more)
		}
		for _, pair := range [][2]impl.Term{{y, a}, {a, y}, {y, y}, {x, y}} {
			checkPairRefused(t, s, good, pair[0], pair[1])
			checkPairRefused(t, s, nil, pair[0], pair[1])
		}
	}
	// Sides of different sorts.
	for _, text := range []string{"a=x", "x=a", "f(a)=h(a)", "h(a)=a", "n(x,y)=f(a)", "a=b x=a", "x=y a=b h(a)=a x=x", "a=a a=h(a)"} {
		checkRefused(t, s, readEqs(t, text))
	}
	// Additional terms may be of different sorts; they are equal to none of the other sort.
	if parts, steps := impl.SameSteps(s, good, []impl.Term{x, a}); termTexts(parts) != "a b x h(a)" || len(steps) != 2 {
		t.Errorf("SameSteps with terms of two sorts: %s, %v", termTexts(parts), steps)
	}
	checkPairRefused(t, s, good, a, x)
}

// twentyFour are equations with as many parts as there may be.
const twentyFourSig = "a - 0\nb - 0\nc - 0\nf 0 0\nh 0 0\ni 0 0\n"

const twentyFour = "f(f(a))=h(h(a)) i(i(a))=f(h(a)) f(f(b))=h(h(b)) i(i(b))=f(h(b)) f(f(c))=h(h(c)) i(i(c))=f(h(c))"

func TestSameLimits(t *testing.T) {
	s := readSig(t, twentyFourSig)
	// Equations.
	for count := range eqsLimit + 4 {
		eqs := readEqs(t, strings.Repeat("a=b ", count))
		if count > eqsLimit {
			checkRefused(t, s, eqs)
			continue
		}
		if !impl.EqsOk(s, eqs) || len(impl.SameClass(s, eqs, nil)) != min(2*count, 2) || !impl.SameIs(s, eqs, app("a"), app("a")) {
			t.Errorf("%d equations are not valid", count)
		}
		if w, ok := impl.SameWhy(s, eqs, app("a"), app("b")); ok != (count > 0) || ok && writeWhy(w) != "#0" {
			t.Errorf("%d equations: %s, %v", count, writeWhy(w), ok)
		}
		if count > 0 {
			checkTells(t, s, eqs, given(count-1), "a=b")
			checkTells(t, s, eqs, given(count), "")
		}
	}
	checkRefused(t, s, make([]impl.Eq, 1000))
	checkRefused(t, s, slices.Repeat(readEqs(t, "a=a"), 100000))
	// Parts of equations, and of additional terms.
	full := readEqs(t, twentyFour)
	if got := impl.SameClass(s, full, nil); len(got) != partLimit || !impl.EqsOk(s, full) {
		t.Errorf("%d parts", len(got))
	}
	for _, text := range []string{"i(f(a))=a", "a=i(f(a))", "h(f(c))=f(c)", "f(f(f(b)))=b"} {
		checkRefused(t, s, append(slices.Clone(full), readEqs(t, text)...))
		checkRefused(t, s, append(readEqs(t, text), full...))
	}
	if more := append(slices.Clone(full), readEqs(t, "a=b c=f(h(b)) i(a)=h(c)")...); !impl.EqsOk(s, more) {
		t.Error("equations of parts that are there are not valid")
	}
	for _, c := range []struct {
		more string
		ok   bool
	}{{"", true}, {"a", true}, {"a b c f(a) f(f(a)) i(c) f(h(c))", true}, {"i(f(a))", false}, {"a i(f(a))", false}, {"f(f(f(b))) a", false}} {
		more := readTerms(t, c.more)
		if !c.ok {
			checkMoreRefused(t, s, full, more)
			checkPairRefused(t, s, full, more[0], more[len(more)-1])
			continue
		}
		parts, _ := impl.SameSteps(s, full, more)
		if len(parts) != partLimit || len(impl.SameClass(s, full, more)) != partLimit {
			t.Errorf("with %s: %d parts", c.more, len(parts))
		}
		for _, x := range more {
			if w, ok := impl.SameWhy(s, full, x, x); !ok || writeWhy(w) != "="+writeTerm(x) || !impl.SameIs(s, full, x, x) {
				t.Errorf("%s is not the same as itself", writeTerm(x))
			}
		}
	}
	checkPairRefused(t, s, full, readTerm(t, "i(f(a))"), readTerm(t, "i(f(a))"))
	checkPairRefused(t, s, full, app("a"), readTerm(t, "i(f(a))"))
	checkPairRefused(t, s, full, readTerm(t, "i(f(a))"), app("a"))
	// One equation less has room for terms more, one by one.
	less, room := full[:5], readTerms(t, "i(c) i(i(c)) f(h(c)) h(f(a)) h(f(b))")
	if parts, _ := impl.SameSteps(s, less, room[:3]); len(parts) != partLimit {
		t.Errorf("%d parts", len(parts))
	}
	checkMoreRefused(t, s, less, room[:4])
	checkMoreRefused(t, s, less, room)
	if got := impl.SameClass(s, nil, slices.Repeat(readTerms(t, "a f(a) b"), 10000)); writeInts(got) != "0 1 2" {
		t.Errorf("classes of many terms: %v", got)
	}
	// Also the parts of the terms count, not only the terms.
	chains := readTerms(t, "f(f(f(a))) f(f(f(b))) f(f(f(c))) h(h(h(a))) h(h(h(b))) h(h(h(c))) i(i(i(a)))")
	if parts, _ := impl.SameSteps(s, nil, chains); len(parts) != partLimit {
		t.Errorf("%d parts of chains", len(parts))
	}
	checkMoreRefused(t, s, nil, append(chains, readTerm(t, "i(b)")))
}

// knownParts is the parts by the document, without the functions under test.
func knownParts(list []impl.Term, known []impl.Term) []impl.Term {
	for _, x := range list {
		known = knownParts(x.Kids, known)
		if !slices.ContainsFunc(known, func(y impl.Term) bool { return equalTerm(x, y) }) {
			known = append(known, x)
		}
	}
	return known
}

// closure is the chapter's congruence closure, by its words: a class is a label of each part.
type closure struct {
	parts []impl.Term
	label []int
	steps []impl.Step
}

func closureOf(eqs []impl.Eq, more []impl.Term) *closure {
	var list []impl.Term
	for _, e := range eqs {
		list = append(list, e.A, e.B)
	}
	return closureOn(knownParts(append(list, more...), nil), eqs)
}

// closureOn is the closure of equations between some of these parts.
func closureOn(parts []impl.Term, eqs []impl.Eq) *closure {
	c := &closure{parts: parts}
	for i := range c.parts {
		c.label = append(c.label, i)
	}
	for i, e := range eqs {
		if a, b := c.place(e.A), c.place(e.B); c.label[a] != c.label[b] {
			c.merge(impl.Step{A: a, B: b, Given: i})
		}
	}
	for {
		var pairs []impl.Step
		for b := range c.parts {
			for a := range b {
				if c.label[a] != c.label[b] && c.congruent(a, b) {
					pairs = append(pairs, impl.Step{A: a, B: b, Given: -1})
				}
			}
		}
		if len(pairs) == 0 {
			return c
		}
		c.merge(slices.MinFunc(pairs, func(x impl.Step, y impl.Step) int {
			if x.B != y.B {
				return x.B - y.B
			}
			return x.A - y.A
		}))
	}
}

func (c *closure) place(x impl.Term) int {
	return slices.IndexFunc(c.parts, func(y impl.Term) bool { return equalTerm(x, y) })
}

func (c *closure) merge(y impl.Step) {
	c.steps = append(c.steps, y)
	from, to := c.label[y.B], c.label[y.A]
	for i, label := range c.label {
		if label == from {
			c.label[i] = to
		}
	}
}

func (c *closure) congruent(a int, b int) bool {
	x, y := c.parts[a], c.parts[b]
	if x.Name != y.Name || len(x.Kids) != len(y.Kids) || len(x.Kids) == 0 {
		return false
	}
	for i := range x.Kids {
		if c.label[c.place(x.Kids[i])] != c.label[c.place(y.Kids[i])] {
			return false
		}
	}
	return true
}

// firsts is the first part of the class of each part.
func (c *closure) firsts() []int {
	var list []int
	for _, label := range c.label {
		list = append(list, slices.Index(c.label, label))
	}
	return list
}

// way is the texts of the edges between two parts by the first n steps. Edges that end nowhere are taken away, until only those of the way are left.
func (c *closure) way(from int, to int, n int) []int {
	var left []int
	for i := range n {
		left = append(left, i)
	}
	for {
		kept := slices.DeleteFunc(slices.Clone(left), func(i int) bool {
			return c.loose(left, i, c.steps[i].A, from, to) || c.loose(left, i, c.steps[i].B, from, to)
		})
		if len(kept) == len(left) {
			return left
		}
		left = kept
	}
}

// loose reports whether no other edge leads on from an end of edge i, which is none of the two parts.
func (c *closure) loose(left []int, i int, end int, from int, to int) bool {
	return end != from && end != to && !slices.ContainsFunc(left, func(j int) bool { return j != i && (c.steps[j].A == end || c.steps[j].B == end) })
}

// why is the text of the explanation of two parts by the first n steps, and no text if it gets longer than so much.
func (c *closure) why(from int, to int, n int, longest int) string {
	if from == to {
		return "=" + writeTerm(c.parts[from])
	}
	left, text := c.way(from, to, n), ""
	for at := from; at != to; {
		i := slices.IndexFunc(left, func(i int) bool { return c.steps[i].A == at || c.steps[i].B == at })
		y := c.steps[left[i]]
		edge := c.edge(left[i], longest)
		next := y.B
		if y.B == at {
			edge, next = "~"+edge, y.A
		}
		if text == "" {
			text = edge
		} else {
			text = "(" + text + ";" + edge + ")"
		}
		if len(text) > longest || strings.Contains(edge, "!") {
			return "!"
		}
		left = slices.Delete(left, i, i+1)
		at = next
	}
	return text
}

func (c *closure) edge(i int, longest int) string {
	y := c.steps[i]
	if y.Given >= 0 {
		return "#" + strconv.Itoa(y.Given)
	}
	x, z := c.parts[y.A], c.parts[y.B]
	var kids []string
	for k := range x.Kids {
		kids = append(kids, c.why(c.place(x.Kids[k]), c.place(z.Kids[k]), i, longest))
	}
	return x.Name + "[" + strings.Join(kids, ";") + "]"
}

// sortedTerm makes up a term of a sort that is at most so deep.
func (s *numbers) sortedTerm(list impl.Sig, sort int, deep int) impl.Term {
	for {
		y := list.Syms[s.below(len(list.Syms))]
		if y.Sort != sort || deep == 1 && len(y.Args) > 0 {
			continue
		}
		x := impl.Term{Name: y.Name}
		for _, arg := range y.Args {
			x.Kids = append(x.Kids, s.sortedTerm(list, arg, deep-1))
		}
		return x
	}
}

// eqs makes up equations of terms that are at most so deep; some terms come again.
func (s *numbers) eqs(list impl.Sig, count int, deep int) []impl.Eq {
	var eqs []impl.Eq
	var old []impl.Term
	side := func(sort int) impl.Term {
		if len(old) > 0 && s.below(3) == 0 {
			if x := old[s.below(len(old))]; sortOf(list, x) == sort {
				return x
			}
		}
		return s.sortedTerm(list, sort, 1+s.below(deep))
	}
	for range count {
		sort := thing
		if strings.Contains(impl.SigText(list), "- 1") {
			sort = s.below(2)
		}
		e := impl.Eq{A: side(sort), B: side(sort)}
		eqs = append(eqs, e)
		old = knownParts([]impl.Term{e.A, e.B}, old)
	}
	return eqs
}

// fits reports whether equations and terms of the right sorts are within the limits.
func fits(eqs []impl.Eq, more []impl.Term) bool {
	list := slices.Clone(more)
	for _, e := range eqs {
		list = append(list, e.A, e.B)
	}
	for _, x := range list {
		if sizeOf(x) > termLimit || deepOf(x) > deepLimit {
			return false
		}
	}
	return len(eqs) <= eqsLimit && len(knownParts(list, nil)) <= partLimit
}

// madeUpSigs are signatures in which terms are often equal.
func madeUpSigs() []string {
	return []string{thingSig, bothSig, "a - 0\nb - 0\nf 0 0\nq - 0\n", "a - 0\nf 0 0\nq - 0\n", "a - 0\nb - 0\nc - 0\nd - 0\nf 0 0\nh 0 0\nq - 0\n", "a - 0\nb - 0\ng 00 0\nq - 0\n", "a - 0\nb - 0\nf 0 0\nm 01 1\nq - 0\nx - 1\ny - 1\n"}
}

// TestSameIsAsDefined compares made-up equations with the chapter by its words, and holds promise 5 for their explanations.
func TestSameIsAsDefined(t *testing.T) {
	s := numbers(5)
	found := map[string]int{}
	for range 20000 {
		list := readSig(t, madeUpSigs()[s.below(len(madeUpSigs()))])
		eqs := s.eqs(list, s.below(8), 1+s.below(deepLimit))
		moreCount := s.below(4)
		switch s.below(10) {
		case 0:
			eqs = s.eqs(list, s.below(eqsLimit+3), 1+s.below(3))
		case 1:
			moreCount = s.below(8 * partLimit)
		}
		var more []impl.Term
		for range moreCount {
			more = append(more, s.sortedTerm(list, thing, 1+s.below(deepLimit)))
		}
		if !fits(eqs, nil) {
			checkRefused(t, list, eqs)
			found["refused"]++
			continue
		}
		if !fits(eqs, more) {
			checkMoreRefused(t, list, eqs, more)
			found["more refused"]++
			continue
		}
		c := closureOf(eqs, more)
		parts, steps := impl.SameSteps(list, eqs, more)
		if termTexts(parts) != termTexts(c.parts) || writeSteps(steps) != writeSteps(c.steps) || !impl.EqsOk(list, eqs) {
			t.Fatalf("%s with %s: SameSteps %s, %s; want %s", writeEqs(eqs), termTexts(more), termTexts(parts), writeSteps(steps), writeSteps(c.steps))
		}
		if got := impl.SameClass(list, eqs, more); !slices.Equal(got, c.firsts()) {
			t.Fatalf("%s with %s: SameClass %v; want %v", writeEqs(eqs), termTexts(more), got, c.firsts())
		}
		for range 3 {
			checkMadeUpPair(t, &s, list, eqs, found)
		}
	}
	for _, what := range []string{"refused", "more refused", "differ", "=", "#", "~", "(", "[", "~f[", "((", "[[", "levels", "used", "unused"} {
		if found[what] < 100 {
			t.Errorf("the equations miss a case: %q comes %d times", what, found[what])
		}
	}
}

// checkMadeUpPair explains two terms, which often are parts of the equations.
func checkMadeUpPair(t *testing.T, s *numbers, list impl.Sig, eqs []impl.Eq, found map[string]int) {
	t.Helper()
	pick := func() impl.Term {
		if len(eqs) > 0 && s.below(4) > 0 {
			parts := knownParts([]impl.Term{eqs[s.below(len(eqs))].A, eqs[s.below(len(eqs))].B}, nil)
			return parts[s.below(len(parts))]
		}
		return s.sortedTerm(list, thing, 1+s.below(3))
	}
	a, b := pick(), pick()
	if !fits(eqs, []impl.Term{a, b}) {
		checkPairRefused(t, list, eqs, a, b)
		return
	}
	c := closureOf(eqs, []impl.Term{a, b})
	from, to := c.place(a), c.place(b)
	if c.label[from] != c.label[to] {
		checkPairRefused(t, list, eqs, a, b)
		found["differ"]++
		return
	}
	w, ok := impl.SameWhy(list, eqs, a, b)
	want := c.why(from, to, len(c.steps), 5000)
	if got := writeWhy(w); !ok || !impl.SameIs(list, eqs, a, b) || got != want && want != "!" {
		t.Fatalf("%s: SameWhy(%s, %s) is %.1000s, %v; want %.1000s", writeEqs(eqs), writeTerm(a), writeTerm(b), got, ok, want)
	}
	used, unused := checkWhy(t, list, eqs, a, b, w)
	found["used"] += used
	found["unused"] += unused
	for _, what := range []string{"=", "#", "~", "(", "[", "~f[", "(("} {
		if strings.Contains(want, what) {
			found[what]++
		}
	}
	if whyLevels(w) > 4 {
		found["levels"]++
	}
	if strings.Count(want, "[") > 1 {
		found["[["]++
	}
}

// TestSameIsFollowsFromTheEquations makes a model of the classes: in it, the equations hold, and terms of different classes differ. So no two terms are equal in all models but those of one class.
func TestSameIsFollowsFromTheEquations(t *testing.T) {
	s := numbers(55)
	for range 3000 {
		list := readSig(t, madeUpSigs()[s.below(len(madeUpSigs()))])
		eqs := s.eqs(list, 1+s.below(6), 1+s.below(deepLimit))
		if !fits(eqs, nil) {
			continue
		}
		parts, _ := impl.SameSteps(list, eqs, nil)
		classes := impl.SameClass(list, eqs, nil)
		rows := map[string]int{}
		for i, x := range parts {
			row := x.Name
			for _, kid := range x.Kids {
				row += " " + strconv.Itoa(classes[slices.IndexFunc(parts, func(y impl.Term) bool { return equalTerm(y, kid) })])
			}
			if value, ok := rows[row]; ok && value != classes[i] {
				t.Fatalf("%s: %s has two values: %d and %d", writeEqs(eqs), row, value, classes[i])
			}
			rows[row] = classes[i]
		}
		for _, e := range eqs {
			if left, right := valueOf(rows, e.A), valueOf(rows, e.B); left != right {
				t.Fatalf("%s: %s does not hold: %d and %d", writeEqs(eqs), writeEq(e), left, right)
			}
		}
	}
}

// valueOf is the value of a term in a model that is given by a row for each symbol with values of arguments.
func valueOf(rows map[string]int, x impl.Term) int {
	row := x.Name
	for _, kid := range x.Kids {
		row += " " + strconv.Itoa(valueOf(rows, kid))
	}
	return rows[row]
}

// TestSameIsHoldsInModels makes up models; where the equations hold, so does all that follows from them.
func TestSameIsHoldsInModels(t *testing.T) {
	s := numbers(555)
	list := readSig(t, thingSig)
	held, equal := 0, 0
	for range 4000 {
		size := 2 + s.below(2)
		rows := map[string]int{}
		for _, y := range list.Syms {
			keys := []string{y.Name}
			for range y.Args {
				var longer []string
				for _, key := range keys {
					for i := range size {
						longer = append(longer, key+" "+strconv.Itoa(i))
					}
				}
				keys = longer
			}
			for _, key := range keys {
				rows[key] = s.below(size)
			}
		}
		var eqs []impl.Eq
		for _, e := range s.eqs(list, 12, 3) {
			if valueOf(rows, e.A) == valueOf(rows, e.B) && fits(append(eqs, e), nil) {
				eqs = append(eqs, e)
				held++
			}
		}
		parts, _ := impl.SameSteps(list, eqs, nil)
		for i, first := range impl.SameClass(list, eqs, nil) {
			if valueOf(rows, parts[i]) != valueOf(rows, parts[first]) {
				t.Fatalf("%s: %s and %s differ in a model", writeEqs(eqs), writeTerm(parts[i]), writeTerm(parts[first]))
			}
			if first != i {
				equal++
			}
		}
	}
	if held < 10000 || equal < 10000 {
		t.Errorf("only %d equations, and %d terms that are equal to others", held, equal)
	}
}

// told is the equation that any explanation with an end derives, by the document and without the function under test, as long as sorts do not matter.
func told(eqs []impl.Eq, w impl.Why) (left impl.Term, right impl.Term, ok bool) {
	var lefts, rights []impl.Term
	for _, kid := range w.Kids {
		x, y, ok := told(eqs, kid)
		if !ok {
			return left, right, false
		}
		lefts, rights = append(lefts, x), append(rights, y)
	}
	text, kids := writeWhy(w), len(w.Kids)
	switch {
	case strings.HasPrefix(text, "{"):
		return left, right, false
	case w.Rule == whyRefl:
		return w.T, w.T, isTermText(writeTerm(w.T))
	case w.Rule == whyGiven:
		if w.N < 0 || w.N >= len(eqs) {
			return left, right, false
		}
		return eqs[w.N].A, eqs[w.N].B, true
	case w.Rule == whySym:
		return rights[0], lefts[0], true
	case w.Rule == whyTrans:
		return lefts[0], rights[1], equalTerm(rights[0], lefts[1])
	}
	left, right = app(w.T.Name, lefts...), app(w.T.Name, rights...)
	return left, right, kids <= argLimit && isTermText(writeTerm(left)) && isTermText(writeTerm(right))
}

// why makes up an explanation that is at most so deep; it often is a right one.
func (s *numbers) why(list impl.Sig, eqs []impl.Eq, deep int) impl.Why {
	kind := s.below(10)
	if deep == 1 {
		kind = s.below(3)
	}
	switch {
	case kind == 0 || len(eqs) == 0:
		return refl(s.sortedTerm(list, thing, 1+s.below(2)))
	case kind < 3:
		return given(s.below(len(eqs)))
	case kind < 5:
		return turned(s.why(list, eqs, deep-1))
	case kind < 8:
		first := s.why(list, eqs, deep-1)
		for range 20 {
			next := s.why(list, eqs, deep-1)
			_, x, ok := told(eqs, first)
			y, _, nextOk := told(eqs, next)
			if ok && nextOk && equalTerm(x, y) {
				return joined(first, next)
			}
		}
		return joined(first, turned(first))
	}
	y := list.Syms[s.below(len(list.Syms))]
	w := cong(y.Name)
	for range max(1, len(y.Args)) {
		w.Kids = append(w.Kids, s.why(list, eqs, deep-1))
	}
	return w
}

// spoil changes one field of one explanation in w.
func (s *numbers) spoil(w *impl.Why) {
	for len(w.Kids) > 0 && s.below(3) > 0 {
		w = &w.Kids[s.below(len(w.Kids))]
	}
	switch s.below(6) {
	case 0:
		w.Rule = s.below(8) - 1
	case 1:
		w.N += s.around(2)
	case 2:
		w.T = []impl.Term{{}, app("a"), app("f"), app("g"), app("ff"), app("F"), app("f", app("a")), chain(5, "f")}[s.below(8)]
	case 3:
		w.Kids = append(w.Kids, refl(app("a")))
	case 4:
		if len(w.Kids) > 0 {
			w.Kids = w.Kids[1:]
		}
	case 5:
		if len(w.Kids) > 1 {
			w.Kids[0], w.Kids[1] = w.Kids[1], w.Kids[0]
		}
	}
}

func TestWhyTellsIsAsDefined(t *testing.T) {
	s := numbers(5555)
	right, wrong, unsorted := 0, 0, 0
	for range 1500 {
		list := readSig(t, []string{thingSig, thingSig, bothSig}[s.below(3)])
		eqs := s.eqs(list, s.below(6), 1+s.below(3))
		if !fits(eqs, nil) {
			continue
		}
		for i := range 12 {
			w := s.why(list, eqs, 1+s.below(5))
			if i%2 == 1 {
				s.spoil(&w)
			}
			x, y, ok := told(eqs, w)
			want := ""
			switch {
			case !ok:
				wrong++
			case sortOf(list, x) == -1 || sortOf(list, x) != sortOf(list, y):
				unsorted++
			default:
				right++
				want = writeEq(impl.Eq{A: x, B: y})
			}
			e, ok := impl.WhyTells(list, eqs, w)
			if ok != (want != "") || ok && writeEq(e) != want || !ok && !isZeroEq(e) {
				t.Fatalf("%s: WhyTells(%s) is %s, %v; want %q", writeEqs(eqs), writeWhy(w), writeEq(e), ok, want)
			}
			if !impl.WhySame(w, copyWhy(w)) || !slices.Equal(impl.WhyUses(w), usedBy(w)) {
				t.Fatalf("WhySame or WhyUses of %s", writeWhy(w))
			}
		}
	}
	if right < 3000 || wrong < 1000 || unsorted < 300 {
		t.Errorf("the explanations miss a case: %d, %d and %d", right, wrong, unsorted)
	}
}

// TestSameWhyOfManySteps explains two terms by hundreds of thousands of rules, each in memory of its own.
func TestSameWhyOfManySteps(t *testing.T) {
	s := readSig(t, "a - 0\nb - 0\nc - 0\nd - 0\ne - 0\ng 00 0\nh 00 0\n")
	eqs := readEqs(t, "h(h(e,e),h(h(e,e),c))=g(d,e) g(h(d,b),h(b,a))=g(h(d,b),h(b,a)) b=h(a,h(c,d)) h(d,c)=c a=h(a,c) h(a,h(d,c))=d h(a,h(c,d))=h(h(a,h(d,c)),h(c,d)) g(b,b)=h(h(b,a),h(b,a)) e=g(g(g(a,c),c),g(g(a,c),c))")
	a, b := readTerm(t, "g(d,e)"), readTerm(t, "h(h(e,e),c)")
	w, ok := impl.SameWhy(s, eqs, a, b)
	if !ok || whySize(w) != 199563 || whyLevels(w) > whyDeep {
		t.Fatalf("%v, %d explanations, %d levels", ok, whySize(w), whyLevels(w))
	}
	checkTells(t, s, eqs, w, "g(d,e)=h(h(e,e),c)")
	if got := impl.WhyUses(w); !slices.Equal(got, usedBy(w)) || slices.Contains(got, 1) {
		t.Errorf("WhyUses is %v", got)
	}
	if whyCells([]impl.Why{w}, map[*impl.Why]bool{}, map[*impl.Term]bool{}) {
		t.Error("explanations share memory")
	}
	other := copyWhy(w)
	last := &other
	for len(last.Kids) > 0 {
		last = &last.Kids[len(last.Kids)-1]
	}
	if !impl.WhySame(w, other) {
		t.Error("a copy is not the same")
	}
	if last.N++; impl.WhySame(w, other) || impl.WhySame(other, w) {
		t.Error("one that differs at its end is the same")
	}
}

// whyCells notes each place in the memory of explanations, also the unused ones; it reports whether one was noted before.
func whyCells(list []impl.Why, known map[*impl.Why]bool, terms map[*impl.Term]bool) bool {
	twice := false
	all := list[:cap(list)]
	for i := range all {
		twice = twice || known[&all[i]]
		known[&all[i]] = true
		twice = termCells(all[i].T.Kids, terms) || twice
		twice = whyCells(all[i].Kids, known, terms) || twice
	}
	return twice
}

// TestSameMemory checks that each result is new memory at every level, and that nothing writes to an argument, also beyond its length.
func TestSameMemory(t *testing.T) {
	s := readSig(t, thingSig)
	// The arguments share memory with one another, and have room beyond their lengths.
	shared := []impl.Term{app("a"), app("b"), app("c"), app("d")}
	fa, gab := impl.Term{Name: "f", Kids: shared[:1]}, impl.Term{Name: "g", Kids: shared[:2]}
	eqs := []impl.Eq{{A: fa, B: gab}, {A: gab, B: fa}, {A: shared[0], B: shared[1]}, {A: fa, B: impl.Term{Name: "f", Kids: shared[1:2]}}, {A: app("c"), B: app("d")}}
	more := []impl.Term{gab, fa, {Name: "g", Kids: shared[1:3]}, app("d"), app("c")}
	kids := []impl.Why{given(0), given(1), refl(gab), given(3)}
	w := cong("f", impl.Why{Rule: whyTrans, Kids: []impl.Why{{Rule: whyTrans, Kids: kids[:2]}, refl(fa)}})
	state := func() string {
		return writeEqs(eqs) + " / " + termTexts(more) + " / " + termTexts(shared) + " / " + writeWhy(w) + " / " + writeWhy(impl.Why{Kids: kids}) + impl.SigText(s)
	}
	before := state()
	cells, whys := map[*impl.Term]bool{}, map[*impl.Why]bool{}
	termCells(shared, cells)
	termCells(more, cells)
	for _, e := range eqs {
		termCells([]impl.Term{e.A, e.B}, cells)
	}
	whyCells([]impl.Why{w}, whys, cells)
	for range 2 {
		impl.EqsOk(s, eqs[:3])
		parts, steps := impl.SameSteps(s, eqs[:3], more[:3])
		if termTexts(parts) != "a f(a) b g(a,b) c g(b,c)" || writeSteps(steps) != "1-3#0 0-2#2" || termCells(parts, cells) {
			t.Errorf("SameSteps: %s, %s, or its result shares memory", termTexts(parts), writeSteps(steps))
		}
		if got := impl.SameClass(s, eqs[:3], more[:3]); writeInts(got) != "0 1 0 1 4 5" {
			t.Errorf("SameClass: %v", got)
		}
		for _, pair := range [][2]impl.Term{{fa, fa}, {gab, fa}, {gab, gab}, {impl.Term{Name: "g", Kids: []impl.Term{gab, gab}}, impl.Term{Name: "g", Kids: []impl.Term{gab, fa}}}, {impl.Term{Name: "g", Kids: []impl.Term{gab, gab}}, impl.Term{Name: "g", Kids: []impl.Term{fa, gab}}}} {
			why, ok := impl.SameWhy(s, eqs[:3], pair[0], pair[1])
			if !ok || !impl.SameIs(s, eqs[:3], pair[0], pair[1]) || whyCells([]impl.Why{why}, whys, cells) {
				t.Errorf("SameWhy: %s, or it shares memory", writeWhy(why))
			}
		}
		for _, v := range []impl.Why{w, refl(gab), given(0), turned(given(1)), cong("g", refl(fa), refl(fa)), cong("g", given(0), given(0))} {
			e, ok := impl.WhyTells(s, eqs[:3], v)
			if !ok || termCells(e.A.Kids, cells) || termCells(e.B.Kids, cells) {
				t.Errorf("WhyTells: %s, %v, or it shares memory", writeEq(e), ok)
			}
		}
		one, two := impl.WhyUses(w), impl.WhyUses(w)
		if writeInts(one) != "0 1" || &one[0] == &two[0] || !impl.WhySame(w, w) {
			t.Errorf("WhyUses: %v, %v", one, two)
		}
		checkMoreRefused(t, s, eqs, append(slices.Clone(more), app("z")))
	}
	if after := state(); after != before {
		t.Errorf("an argument has changed from %s to %s", before, after)
	}
}
