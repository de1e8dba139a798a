package tests

import (
	"math/big"
	"slices"
	"strconv"
	"strings"
	"testing"

	"loop.example/compurgator/impl"
)

// These repeat the document's numbers, so that wrong constants of impl fail too.
const (
	caseEq    = 1
	caseSum   = 2
	caseHave  = 3
	casePart  = 4
	bothYes   = 0
	bothNo    = 1
	bothMuch  = 2
	bothForm  = 3
	litsLimit = 6
	caseDeep  = 14
)

func TestBothConstants(t *testing.T) {
	if impl.CaseEq != caseEq || impl.CaseSum != caseSum || impl.CaseHave != caseHave || impl.CasePart != casePart {
		t.Error(impl.CaseEq, impl.CaseSum, impl.CaseHave, impl.CasePart)
	}
	if impl.BothYes != bothYes || impl.BothNo != bothNo || impl.BothMuch != bothMuch || impl.BothForm != bothForm || impl.LitsMost != litsLimit || impl.CaseDeep != caseDeep {
		t.Error(impl.BothYes, impl.BothNo, impl.BothMuch, impl.BothForm, impl.LitsMost, impl.CaseDeep)
	}
}

// mixSig declares things and numbers, and functions from each sort to each; fourSig declares as many numbers as there may be.
const (
	mixSig  = "a - 0\nb - 0\nh 0 1\nk 1 1\nt 1 0\nx - 1\ny - 1\n"
	fourSig = "a - 0\nf 0 0\nt 1 0\nw - 1\nx - 1\ny - 1\nz - 1\n"
)

// readLits reads literals with "; " between them.
func readLits(t *testing.T, text string) []impl.Lit {
	t.Helper()
	var list []impl.Lit
	for _, part := range strings.Split(text, "; ") {
		if part != "" {
			list = append(list, readLit(t, part))
		}
	}
	return list
}

func writeLits(list []impl.Lit) string {
	var texts []string
	for _, l := range list {
		texts = append(texts, writeLit(l))
	}
	return strings.Join(texts, "; ")
}

// These make conflicts, which may be wrong ones.
func eqCase(n int, w impl.Why) impl.Case { return impl.Case{Kind: caseEq, N: n, Why: w} }

func sumCase(times ...int) impl.Case { return impl.Case{Kind: caseSum, Times: times} }

func haveCase(w impl.Why, kid impl.Case) impl.Case {
	return impl.Case{Kind: caseHave, Why: w, Kids: []impl.Case{kid}}
}

func partCase(a impl.Term, b impl.Term, kids ...impl.Case) impl.Case {
	return impl.Case{Kind: casePart, A: a, B: b, Kids: kids}
}

// writeCase writes a conflict with an end. Where a field is not as the document describes it, it writes all fields.
func writeCase(c impl.Case) string {
	kids := ""
	for _, kid := range c.Kids {
		kids += " [" + writeCase(kid) + "]"
	}
	noN, noWhy, noTimes, noTerms := c.N == 0, isZeroWhy(c.Why), len(c.Times) == 0, isZeroTerm(c.A) && isZeroTerm(c.B)
	switch {
	case c.Kind == caseEq && noTimes && noTerms && kids == "":
		return "eq " + strconv.Itoa(c.N) + " " + writeWhy(c.Why)
	case c.Kind == caseSum && noN && noWhy && noTerms && kids == "":
		return strings.TrimSpace("sum " + writeInts(c.Times))
	case c.Kind == caseHave && noN && noTimes && noTerms && len(c.Kids) == 1:
		return "have " + writeWhy(c.Why) + kids
	case c.Kind == casePart && noN && noWhy && noTimes && len(c.Kids) == 3:
		return "part " + writeTerm(c.A) + " " + writeTerm(c.B) + kids
	}
	return "{" + strconv.Itoa(c.Kind) + " " + strconv.Itoa(c.N) + " " + writeWhy(c.Why) + " " + writeInts(c.Times) + " " + writeTerm(c.A) + " " + writeTerm(c.B) + kids + "}"
}

func isZeroCase(c impl.Case) bool {
	return c.Kind == 0 && c.N == 0 && isZeroWhy(c.Why) && len(c.Times) == 0 && isZeroTerm(c.A) && isZeroTerm(c.B) && len(c.Kids) == 0
}

func copyCase(c impl.Case) impl.Case {
	other := impl.Case{Kind: c.Kind, N: c.N, Why: copyWhy(c.Why), Times: slices.Clone(c.Times), A: copyTerm(c.A), B: copyTerm(c.B)}
	for _, kid := range c.Kids {
		other.Kids = append(other.Kids, copyCase(kid))
	}
	return other
}

// writeBoth writes what BothRun returns: "yes" and the rows, "no" and the conflict, "much" or "form".
func writeBoth(m impl.Model, c impl.Case, code int) string {
	switch code {
	case bothYes:
		return strings.TrimSpace("yes " + strings.ReplaceAll(strings.TrimSpace(writeModel(m)), "\n", "; "))
	case bothNo:
		return "no " + writeCase(c)
	case bothMuch:
		return "much"
	case bothForm:
		return "form"
	}
	return "?"
}

func TestBothParts(t *testing.T) {
	for _, c := range []struct{ sig, lits, nums, eqs, lins string }{
		{"", "", "", "", ""}, {mixSig, "", "", "", ""},
		// Equations, of things and of numbers, negated and not.
		{mixSig, "a=b", "", "a=b", ""}, {mixSig, "not a=b", "", "", ""}, {mixSig, "a=b; not a=b; b=a", "", "a=b b=a", ""}, {mixSig, "a=a", "", "a=a", ""},
		{mixSig, "x=y", "x y", "x=y", "1 -1 0 0 <= 0; -1 1 0 0 <= 0"}, {mixSig, "y=x", "y x", "y=x", "1 -1 0 0 <= 0; -1 1 0 0 <= 0"}, {mixSig, "not x=y", "x y", "", ""}, {mixSig, "x=x", "x", "x=x", "0 0 0 0 <= 0; 0 0 0 0 <= 0"}, {mixSig, "not x=x", "x", "", ""},
		{mixSig, "x=y; y=x", "x y", "x=y y=x", "1 -1 0 0 <= 0; -1 1 0 0 <= 0; -1 1 0 0 <= 0; 1 -1 0 0 <= 0"}, {mixSig, "t(x)=a", "x", "t(x)=a", ""}, {mixSig, "h(a)=h(b)", "h(a) h(b)", "h(a)=h(b)", "1 -1 0 0 <= 0; -1 1 0 0 <= 0"},
		{mixSig, "k(x)=x", "x k(x)", "k(x)=x", "-1 1 0 0 <= 0; 1 -1 0 0 <= 0"}, {mixSig, "a=t(k(y)); k(x)=y", "y k(y) x k(x)", "a=t(k(y)) k(x)=y", "-1 0 0 1 <= 0; 1 0 0 -1 <= 0"},
		{fourSig, "w=x; not x=z; z=y", "w x z y", "w=x z=y", "1 -1 0 0 <= 0; -1 1 0 0 <= 0; 0 0 1 -1 <= 0; 0 0 -1 1 <= 0"}, {fourSig, "z=x; w=z", "z x w", "z=x w=z", "1 -1 0 0 <= 0; -1 1 0 0 <= 0; -1 0 1 0 <= 0; 1 0 -1 0 <= 0"},
		// Sums, negated and not, strict and not.
		{mixSig, "1*x <= 0", "x", "", "1 0 0 0 <= 0"}, {mixSig, "1*x < 0", "x", "", "1 0 0 0 < 0"}, {mixSig, "not 2*x < 3", "x", "", "-2 0 0 0 <= -3"}, {mixSig, "not 2*x <= 3", "x", "", "-2 0 0 0 < -3"}, {mixSig, "2*h(a) -1*x < 3", "h(a) x", "", "2 -1 0 0 < 3"}, {mixSig, "50*x -50*y <= -1000", "x y", "", "50 -50 0 0 <= -1000"}, {mixSig, "not 50*x -50*y < 1000", "x y", "", "-50 50 0 0 <= -1000"},
		{fourSig, "1*w -2*x 3*y -4*z <= 5", "w x y z", "", "1 -2 3 -4 <= 5"}, {fourSig, "not 1*w -2*x 3*y -4*z <= 5", "w x y z", "", "-1 2 -3 4 < -5"}, {fourSig, "1*z < 0; 1*w -2*x 3*y -4*z <= 5", "z w x y", "", "1 0 0 0 < 0; -4 1 -2 3 <= 5"}, {fourSig, "1*y < 0; not 1*x 2*z <= 1; -3*w <= 2", "y x z w", "", "1 0 0 0 < 0; 0 -1 -2 0 < -1; 0 0 0 -3 <= 2"},
		// Both, in their order.
		{mixSig, "k(x)=h(a); 1*y <= 0", "x k(x) h(a) y", "k(x)=h(a)", "0 1 -1 0 <= 0; 0 -1 1 0 <= 0; 0 0 0 1 <= 0"}, {mixSig, "1*x -1*y < 0; y=x; not 1*y <= 2; a=b; not x=y; not a=t(x)", "x y", "y=x a=b", "1 -1 0 0 < 0; -1 1 0 0 <= 0; 1 -1 0 0 <= 0; 0 -1 0 0 < -2"}, {mixSig, "not t(y)=t(x); 1*k(k(y)) 1*x <= 0", "y x k(y) k(k(y))", "", "0 1 0 1 <= 0"},
	} {
		s, lits := readSig(t, c.sig), readLits(t, c.lits)
		if !impl.BothOk(s, lits) {
			t.Errorf("BothOk of %q is false", c.lits)
		}
		if got := termTexts(impl.BothNums(s, lits)); got != c.nums {
			t.Errorf("BothNums of %q is %s; want %s", c.lits, got, c.nums)
		}
		if got := writeEqs(impl.BothEqs(s, lits)); got != c.eqs {
			t.Errorf("BothEqs of %q is %s; want %s", c.lits, got, c.eqs)
		}
		if got := systemText(impl.BothLins(s, lits)); got != c.lins {
			t.Errorf("BothLins of %q is %s; want %s", c.lits, got, c.lins)
		}
	}
}

// checkBoth checks what BothRun returns, and promise 8 for that.
func checkBoth(t *testing.T, s impl.Sig, lits []impl.Lit, want string) {
	t.Helper()
	m, c, code := impl.BothRun(s, lits)
	if got := writeBoth(m, c, code); got != want {
		t.Errorf("BothRun of %q: %.2000s; want %.2000s", writeLits(lits), got, want)
	}
	if code != bothYes && len(m.Rows) > 0 || code != bothNo && !isZeroCase(c) {
		t.Errorf("BothRun of %q: %v, %v, %d", writeLits(lits), m, c, code)
	}
	if code == bothYes && (!isModel(s, m) || !impl.ModelAll(s, m, lits) || slices.ContainsFunc(lits, func(l impl.Lit) bool { return !isTrueIn(m, l) })) {
		t.Errorf("BothRun of %q: not all are true in %q", writeLits(lits), writeModel(m))
	}
	if code == bothNo && !impl.CaseOk(s, lits, c) {
		t.Errorf("BothRun of %q: %.2000s is no conflict", writeLits(lits), writeCase(c))
	}
}

func isTrueIn(m impl.Model, l impl.Lit) bool {
	so, ok := truthIn(m, l)
	return so && ok
}

func TestBothRunTable(t *testing.T) {
	for _, c := range bothCases() {
		s, lits := readSig(t, c[0]), readLits(t, c[1])
		checkBoth(t, s, lits, c[2])
		if want := newDecider(s, lits, map[string]int{}).answer(nil); want != c[2] {
			t.Errorf("the test's own answer to %q is %s; want %s", c[1], want, c[2])
		}
	}
}

// bothCases are a signature, literals, and what BothRun returns.
func bothCases() [][3]string {
	return slices.Concat([][3]string{
		// No literals, and things that are equal or not.
		{"", "", "yes"}, {mixSig, "", "yes"}, {mixSig, "a=b", "yes a = 0; b = 0"}, {mixSig, "not a=b", "yes a = 0; b = 1"}, {mixSig, "not b=a", "yes a = 1; b = 0"}, {mixSig, "a=a", "yes a = 0"}, {mixSig, "a=b; a=b; b=a; a=a; b=b", "yes a = 0; b = 0"}, {fourSig, "f(f(f(a)))=a; not f(a)=a", "yes a = 0; f 0 = 1; f 1 = 2; f 2 = 0"}, {mixSig, "h(a)=h(b); not a=b", "yes a = 0; b = 2; h 0 = 0; h 2 = 0"},
		// The first of the negated equations whose terms are equal, ahead of the sums.
		{mixSig, "not a=a", "no eq 0 =a"}, {mixSig, "not x=x", "no eq 0 =x"}, {mixSig, "a=b; not a=b", "no eq 1 #0"}, {mixSig, "a=b; not b=a", "no eq 1 ~#0"}, {mixSig, "not a=b; a=b", "no eq 0 #0"}, {mixSig, "not b=a; not a=a", "no eq 1 =a"}, {mixSig, "a=b; not b=b; not a=b", "no eq 1 =b"}, {mixSig, "a=b; not a=b; not b=b", "no eq 1 #0"}, {mixSig, "not x=y; x=y", "no eq 0 #0"}, {mixSig, "not x=y; y=x", "no eq 0 ~#0"},
		{mixSig, "1*x < 0; -1*x < 0; not a=a", "no eq 2 =a"}, {mixSig, "1*x < 0; -1*x < 0; not x=y; x=y", "no eq 2 #0"}, {mixSig, "a=b; not h(a)=h(b)", "no eq 1 h[#0]"}, {mixSig, "a=b; not t(h(a))=t(h(b))", "no eq 1 t[h[#0]]"}, {mixSig, "h(a)=x; h(b)=y; not x=y; a=b", "no eq 2 ((~#0;h[#2]);#1)"}, {mixSig, "x=y; not t(x)=t(y)", "no eq 1 t[#0]"}, {mixSig, "x=y; not k(x)=k(y)", "no eq 1 k[#0]"},
		{fourSig, "x=y; y=z; not t(x)=t(z)", "no eq 2 t[(#0;#1)]"}, {fourSig, "x=y; z=y; w=z; not t(w)=t(x)", "no eq 3 t[((#2;#1);~#0)]"}, {fourSig, "t(x)=a; t(y)=f(a); x=y; not a=f(a)", "no eq 3 ((~#0;t[#2]);#1)"}, {fourSig, "f(f(f(a)))=a; f(f(a))=a; not f(a)=a", "no eq 2 (f[~#1];#0)"},
		// The parts are the terms in their order, not those of the equations ahead: so are the steps.
		{thingSig, "not f(c)=a; f(d)=a; c=d", "no eq 0 (f[#1];#0)"}, {thingSig, "not b=c; a=b", "yes a = 0; b = 0; c = 1"}, {thingSig, "not f(d)=f(c); d=c; f(c)=f(c)", "no eq 0 f[#0]"}, {thingSig, "not f(c)=f(d); d=c", "no eq 0 f[~#0]"}, {thingSig, "not f(b)=f(c); a=b; b=c; f(a)=d", "no eq 0 f[#1]"}, {thingSig, "not f(c)=d; a=b; b=c; f(a)=d", "no eq 0 (f[(~#1;~#0)];#2)"}, {thingSig, "not f(a)=f(c); not f(b)=q; a=b; b=c", "no eq 0 f[(#0;#1)]"},
		// Sums alone.
		{mixSig, "1*x < 0; -1*x < 0", "no sum 1 1"}, {mixSig, "1*x <= 0; -1*x <= 0", "yes x = 0"}, {mixSig, "not 1*x < 0; 1*x < 0", "no sum 1 1"}, {mixSig, "not 1*x < 0; 1*x <= 0", "yes x = 0"}, {mixSig, "not 1*x <= 0; 1*x <= 0", "no sum 1 1"}, {mixSig, "2*x <= 1; not 3*x <= 1", "yes x = 5/12"}, {mixSig, "x=x; 1*x < 0", "yes x = -1"}, {mixSig, "x=x; 1*x < 0; -1*x < 0", "no sum 0 0 1 1"}, {mixSig, "x=y; 1*x -1*y < 0", "no sum 0 1 1"}, {mixSig, "x=y; 1*x -1*y <= -1", "no sum 0 1 1"},
		{fourSig, "x=y; y=z; 1*x -1*z < 0", "no sum 0 1 0 1 1"}, {fourSig, "1*w -1*x < 0; 1*x -1*y < 0; 1*y -1*z < 0; -1*w 1*z < 0", "no sum 1 1 1 1"}, {fourSig, "1*w 1*x 1*y 1*z <= 0; not 1*w 1*x 1*y 1*z < 0", "yes w = 0; x = 0; y = 0; z = 0"}, {mixSig, "50*x <= -1000; not 50*x <= 1000", "no sum 1 1"},
	}, haveCases(), partCases(), muchCases())
}

// haveCases have numbers that are equal but not linked.
func haveCases() [][3]string {
	return [][3]string{
		{mixSig, "a=b; 1*h(a) -1*h(b) < 0", "no have h[#0] [sum 1 0 1]"}, {mixSig, "a=b; -1*h(a) 1*h(b) < 0", "no have h[#0] [sum 1 1 0]"}, {mixSig, "b=a; -1*h(a) 1*h(b) < 0", "no have h[~#0] [sum 1 1 0]"}, {mixSig, "a=b; 1*h(a) -1*h(b) <= 0", "yes a = 0; b = 0; h 0 = 0"}, {mixSig, "a=b; 1*h(b) <= 1", "yes a = 0; b = 0; h 0 = 0"}, {mixSig, "a=b; 1*h(a) 1*h(b) < -1", "yes a = 0; b = 0; h 0 = -3/2"},
		{mixSig, "x=y; 1*k(x) -1*k(y) < 0", "no have k[#0] [sum 0 0 1 0 1]"}, {mixSig, "1*h(b) <= 0; not 1*h(a) <= 0; a=b", "no have h[~#0] [sum 1 1 0 1]"}, {mixSig, "a=b; h(a)=x; h(b)=y; 1*x -1*y < 0", "no have h[#0] [sum 1 0 0 1 1 0 1]"},
		// Numbers that an equation links, also through a third one.
		{mixSig, "a=b; h(a)=h(b); 1*h(a) -1*h(b) < 0", "no sum 0 1 1"}, {mixSig, "a=b; h(b)=h(a); 1*h(a) <= 1", "yes a = 0; b = 0; h 0 = 0"}, {mixSig, "a=b; h(a)=x; h(b)=x; 1*x < 0", "yes a = 0; b = 0; h 0 = -1; x = -1"}, {fourSig, "x=y; y=z", "yes x = 0; y = 0; z = 0"}, {mixSig, "not a=b; h(a)=x; h(b)=x; 1*x < 3", "yes a = 0; b = 1; h 0 = 2; h 1 = 2; x = 2"},
		// One such pair behind another, in the order of the first and then of the second number.
		{thingsSig, "a=b; b=c; 2*h(a) -1*h(b) -1*h(c) < 0", "no have h[#0] [have h[(#0;#1)] [sum 1 0 1 0 1]]"}, {thingsSig, "a=b; b=c; -2*h(a) 1*h(b) 1*h(c) < 0", "no have h[#0] [have h[(#0;#1)] [sum 1 1 0 1 0]]"}, {thingsSig, "a=b; b=c; 1*h(a) -1*h(b) < 0; 1*h(c) <= 0", "no have h[#0] [sum 1 0 0 1]"}, {thingsSig, "a=b; b=c; 1*h(a) -1*h(c) < 0; 1*h(b) <= 0", "no have h[(#0;#1)] [sum 1 0 0 1]"},
		{thingsSig, "c=b; 1*h(a) <= 5; 1*h(b) -1*h(c) < 0", "no have h[~#0] [sum 0 1 0 1]"}, {thingsSig, "c=a; b=d; -1*h(a) 1*h(b) 1*h(c) -1*h(d) < 0", "no have h[~#0] [have h[#1] [sum 1 1 0 0 1]]"}, {thingsSig, "c=b; d=a; -1*h(a) 1*h(b) -1*h(c) 1*h(d) < 0", "no have h[~#1] [have h[~#0] [sum 1 1 0 0 1]]"},
		// Ahead of numbers that are not known to be equal.
		{mixSig, "a=b; 1*h(a) -1*x <= 0; -1*h(b) 1*x <= 0; not t(h(a))=t(x)", "no have h[#0] [part h(a) x [eq 3 t[#2]] [sum 0 1 0 1 1] [sum 1 0 0 0 1]]"}, {mixSig, "x=y; t(x)=a; not t(y)=b; 1*h(t(x)) -1*h(t(y)) < 0", "no have h[t[#0]] [sum 0 0 1 0 1]"},
	}
}

// thingsSig declares many things, and numbers of them.
const thingsSig = "a - 0\nb - 0\nc - 0\nd - 0\nh 0 1\nx - 1\n"

// partCases have numbers of which nobody knows how they stand.
func partCases() [][3]string {
	return [][3]string{
		// The first case, the second and the third one holds.
		{mixSig, "1*x -1*y <= 0", "yes x = 0; y = 0"}, {mixSig, "1*x 1*y < -1", "yes x = -3/2; y = -3/2"}, {mixSig, "not x=y", "yes x = 0; y = 1"}, {mixSig, "not y=x", "yes x = 1; y = 0"}, {mixSig, "not x=y; 1*x -1*y <= 0", "yes x = 0; y = 1"}, {mixSig, "not x=y; -1*x 1*y <= 0", "yes x = 0; y = -1"}, {mixSig, "not y=x; -1*x 1*y <= 0", "yes x = 1; y = 0"}, {mixSig, "2*x -2*y < 0", "yes x = 0; y = 1"}, {mixSig, "-2*x 2*y < 0", "yes x = 0; y = -1"}, {mixSig, "1*x -1*y <= -1", "yes x = 0; y = 2"},
		{mixSig, "not t(x)=t(y)", "yes t 0 = 1; t 1 = 3; x = 0; y = 1"}, {mixSig, "not t(y)=t(x)", "yes t 0 = 1; t 1 = 3; x = 1; y = 0"}, {mixSig, "1*x -1*y < 0; not t(x)=t(y)", "yes t 0 = 2; t 1 = 3; x = 0; y = 1"}, {mixSig, "1*x -1*y <= 0; not k(x)=k(y)", "yes k 0 = 0; k 1 = 1; x = 0; y = 1"}, {mixSig, "t(x)=a; not t(x)=b", "yes a = 1; b = 3; t 0 = 1; x = 0"}, {mixSig, "t(h(a))=b; t(h(b))=a; not a=b", "yes a = 0; b = 2; h 0 = 0; h 2 = 1; t 0 = 2; t 1 = 0"},
		{fourSig, "not w=x; not w=y; not w=z; not x=y; not x=z; not y=z", "yes w = 0; x = 1; y = 2; z = 3"}, {fourSig, "not z=y; not z=x; not z=w; not y=x; not y=w; not x=w", "yes w = 3; x = 2; y = 1; z = 0"}, {fourSig, "1*w -1*x < 0; 1*x -1*y < 0; 1*y -1*z < 0", "yes w = 0; x = 1; y = 2; z = 3"}, {fourSig, "not t(w)=t(x); not t(w)=t(y); not t(w)=t(z); not t(x)=t(y); not t(x)=t(z); not t(y)=t(z)", "yes t 0 = 1; t 1 = 3; t 2 = 5; t 3 = 7; w = 0; x = 1; y = 2; z = 3"},
		// None of them holds.
		{mixSig, "not x=y; 1*x -1*y <= 0; -1*x 1*y <= 0", "no part x y [eq 0 #0] [sum 0 1 1] [sum 1 0 1]"}, {mixSig, "not y=x; 1*x -1*y <= 0; -1*x 1*y <= 0", "no part y x [eq 0 #0] [sum 1 0 1] [sum 0 1 1]"}, {mixSig, "1*x -1*y <= 0; -1*x 1*y <= 0; not k(x)=k(y)", "no part x y [eq 2 k[#0]] [sum 0 1 1] [sum 1 0 1]"}, {mixSig, "1*x -1*y <= 0; -1*x 1*y <= 0; not t(y)=t(x)", "no part x y [eq 2 t[~#0]] [sum 0 1 1] [sum 1 0 1]"},
		{mixSig, "1*x -1*y <= 0; -1*x 1*y <= 0; 1*k(x) -1*k(y) < 0", "no part x y [have k[#0] [sum 0 0 1 0 0 0 1]] [sum 0 1 0 1] [sum 1 0 0 1]"},
		// Two numbers that a literal relates, and ones that are related by none that is exactly that AtomSum.
		{fourSig, "1*x -1*y < 0; 1*x -1*z <= 0; -1*x 1*z <= 0; not t(x)=t(z)", "no part x z [eq 3 t[#0]] [sum 0 0 1 1] [sum 0 1 0 1]"}, {fourSig, "-1*x 1*y < 0; 1*x -1*z <= 0; -1*x 1*z <= 0; not t(x)=t(z)", "no part x z [eq 3 t[#0]] [sum 0 0 1 1] [sum 0 1 0 1]"}, {fourSig, "x=y; 1*x -1*z <= 0; -1*x 1*z <= 0; not t(x)=t(z)", "no part x z [eq 3 t[#1]] [sum 0 0 0 1 1] [sum 0 0 1 0 1]"}, {fourSig, "x=y; z=w; 1*y -1*z <= 0; 1*w -1*x <= 0; not t(x)=t(z)", "no part x z [eq 4 t[#2]] [sum 0 0 1 0 0 1 1] [sum 1 0 0 0 1 0 1]"},
		{fourSig, "2*x -2*y < 0; 1*x -1*z <= 0; -1*x 1*z <= 0; not t(x)=t(z)", "no part x y [sum 1 0 0 0 2] [part x z [eq 3 t[#0]] [sum 0 0 1 0 1] [sum 0 1 0 0 1]] [sum 1 0 0 2]"},
		{fourSig, "1*x -1*y < 1; 1*x -1*z <= 0; -1*x 1*z <= 0; not t(x)=t(z)", "no part x y [part x z [eq 3 t[#1]] [sum 0 0 1 0 0 1] [sum 0 1 0 0 0 1]] [part x z [eq 3 t[#0]] [sum 0 0 1 0 1] [sum 0 1 0 0 1]] [part x z [eq 3 t[#0]] [sum 0 0 1 0 1] [sum 0 1 0 0 1]]"},
		{fourSig, "not 1*x -1*y <= 0; 1*x -1*z <= 0; -1*x 1*z <= 0; not t(x)=t(z)", "no part x y [sum 1 0 0 1 0] [sum 1 0 0 1] [part x z [eq 3 t[#0]] [sum 0 0 1 0 1] [sum 0 1 0 0 1]]"},
		{fourSig, "not -1*x 1*y < 0; 1*x -1*z <= 0; -1*x 1*z <= 0; not t(x)=t(z)", "no part x y [part x z [eq 3 t[#1]] [sum 0 0 1 0 0 1] [sum 0 1 0 0 0 1]] [part x z [eq 3 t[#0]] [sum 0 0 1 0 1] [sum 0 1 0 0 1]] [sum 1 0 0 1]"},
		{fourSig, "not 1*x -1*y < 0; not x=y; 1*x -1*z <= 0; -1*x 1*z <= 0; not t(x)=t(z)", "no part x y [eq 1 #0] [sum 1 0 0 1] [part x z [eq 4 t[#0]] [sum 0 0 1 0 1] [sum 0 1 0 0 1]]"},
	}
}

// muchCases have numbers that get too great: in the sums, at first or in each of the three cases, and in the model.
func muchCases() [][3]string {
	return [][3]string{
		{fourSig, "5*w 6*x 43*y <= 0; -30*w 5*x 6*y 15*z < -1; 41*x -27*y -22*z <= 0", "much"},
		// In the first case, in the second and in the third one, although others may hold.
		{mixSig, "-31*x -49*y <= 684; 31*x 48*y < 0", "much"}, {"k 1 1\nx - 1\ny - 1\n", "not x=y; 48*x 31*y <= 0; 2*x -30*y < 859; not k(y)=k(x)", "much"}, {"k 1 1\nx - 1\ny - 1\n", "k(y)=k(x); not k(y)=y; 2*k(x) 1*x 2*y <= 1; 2*k(x) -2*x -2*y < 497", "much"},
		// Behind numbers that are equal but not linked.
		{"k 1 1\nx - 1\ny - 1\n", "1*k(x) -1*k(y) < 0; -21*k(x) -34*k(y) -42*x -36*y < 0; 32*k(x) 4*k(y) 25*x -38*y < 0; x=k(x)", "much"},
		// A sum that is representable in the order of the variables, but not in that of its terms.
		{fourSig, "not 45*y 46*z <= -455; x=z; 29*x -25*y 10*z <= -606", "much"}, {fourSig, "-32*y <= -455; 40*x <= 522; 27*w -8*x -20*y 3*z < 394; 48*w 39*z < 703", "much"}, {fourSig, "-13*w -18*y <= -353; not -30*w 1*x -48*y < 783; not -4*x < -648; w=w", "much"},
	}
}

// TestBothMuchCauses checks that each of muchCases fails where its comment says.
func TestBothMuchCauses(t *testing.T) {
	causes := []string{"sums", "part 0 much", "part 1 much", "part 2 much", "have much", "values", "values", "values"}
	for i, c := range muchCases() {
		found := map[string]int{}
		answer := newDecider(readSig(t, c[0]), readLits(t, c[1]), found).answer(nil)
		if answer != "much" || found[causes[i]] == 0 || found["sums"]+found["values"] != 1 || i == 0 && len(found) != 1 {
			t.Errorf("%s: %s, %v; want %s", c[1], answer, found, causes[i])
		}
	}
}

// termsIn is the terms of literals, by the document.
func termsIn(lits []impl.Lit) []impl.Term {
	var list []impl.Term
	for _, l := range lits {
		if l.Atom.Kind == atomEq {
			list = append(list, l.Atom.A, l.Atom.B)
		}
		list = append(list, l.Atom.Nums...)
	}
	return knownParts(list, nil)
}

// numsIn is the numbers of literals.
func numsIn(s impl.Sig, lits []impl.Lit) []impl.Term {
	return slices.DeleteFunc(termsIn(lits), func(x impl.Term) bool { return sortOf(s, x) != num })
}

// isBoth is what the document says of literals that are valid under a valid signature. Their terms have an end.
func isBoth(s impl.Sig, lits []impl.Lit) bool {
	for _, l := range lits {
		if !isAtom(l.Atom) || !isSortedAtom(s, l.Atom) {
			return false
		}
	}
	return len(lits) <= litsLimit && len(termsIn(lits)) <= partLimit && len(numsIn(s, lits)) <= linVars
}

// eqsIn is the equations of literals, also of more than there may be.
func eqsIn(lits []impl.Lit) []impl.Eq {
	var eqs []impl.Eq
	for _, l := range lits {
		if l.Atom.Kind == atomEq && !l.No {
			eqs = append(eqs, impl.Eq{A: l.Atom.A, B: l.Atom.B})
		}
	}
	return eqs
}

// linsIn is the constraints of literals, of which some are added: the variables stand for the numbers of the others.
func linsIn(nums []impl.Term, lits []impl.Lit) []impl.Lin {
	var lins []impl.Lin
	add := func(bound int, strict bool, times []int, terms ...impl.Term) {
		l := impl.Lin{Coefs: make([]int, linVars), Bound: bound, Strict: strict}
		for i, x := range terms {
			l.Coefs[indexOf(nums, x)] += times[i]
		}
		lins = append(lins, l)
	}
	for _, l := range lits {
		a := l.Atom
		switch {
		case a.Kind == atomSum && l.No:
			var times []int
			for _, n := range a.Times {
				times = append(times, -n)
			}
			add(-a.Bound, !a.Strict, times, a.Nums...)
		case a.Kind == atomSum:
			add(a.Bound, a.Strict, a.Times, a.Nums...)
		case !l.No && indexOf(nums, a.A) >= 0:
			add(0, false, ints(1, -1), a.A, a.B)
			add(0, false, ints(1, -1), a.B, a.A)
		}
	}
	return lins
}

func indexOf(list []impl.Term, x impl.Term) int {
	return slices.IndexFunc(list, func(y impl.Term) bool { return equalTerm(x, y) })
}

// lessLit is that a is less than b.
func lessLit(a impl.Term, b impl.Term) impl.Lit {
	if writeTerm(a) < writeTerm(b) {
		return impl.Lit{Atom: below(sumOf(0, ints(1, -1), a, b))}
	}
	return impl.Lit{Atom: below(sumOf(0, ints(-1, 1), b, a))}
}

// partLits is the literals of the three cases of a and b.
func partLits(a impl.Term, b impl.Term) []impl.Lit {
	return []impl.Lit{{Atom: eqOf(a, b)}, lessLit(a, b), lessLit(b, a)}
}

// isLinked reports whether equations lead from a to b. It follows them until they lead no further.
func isLinked(eqs []impl.Eq, a impl.Term, b impl.Term) bool {
	reached := []impl.Term{a}
	for range eqs {
		for _, e := range eqs {
			for _, x := range []impl.Eq{e, {A: e.B, B: e.A}} {
				if indexOf(reached, x.A) >= 0 && indexOf(reached, x.B) < 0 {
					reached = append(reached, x.B)
				}
			}
		}
	}
	return indexOf(reached, b) >= 0
}

// decider is what the document says of BothRun, for valid literals. It counts what the rules find.
type decider struct {
	s     impl.Sig
	given []impl.Lit
	terms []impl.Term
	nums  []impl.Term
	found map[string]int
}

func newDecider(s impl.Sig, lits []impl.Lit, found map[string]int) decider {
	return decider{s: s, given: lits, terms: termsIn(lits), nums: numsIn(s, lits), found: found}
}

// answer is what BothRun returns of the literals and some that are added, in the form of writeBoth.
func (d decider) answer(added []impl.Lit) string {
	lits := slices.Concat(d.given, added)
	eqs, lins := eqsIn(lits), linsIn(d.nums, lits)
	if len(eqs) > eqsLimit {
		return "much"
	}
	c := closureOn(d.terms, eqs)
	same := func(a impl.Term, b impl.Term) bool { return c.label[c.place(a)] == c.label[c.place(b)] }
	why := func(a impl.Term, b impl.Term) string { return c.why(c.place(a), c.place(b), len(c.steps), 1000000) }
	for i, l := range lits {
		if l.Atom.Kind == atomEq && l.No && same(l.Atom.A, l.Atom.B) {
			return "no eq " + strconv.Itoa(i) + " " + why(l.Atom.A, l.Atom.B)
		}
	}
	answer, rest, _ := strings.Cut(expectedAnswer(lins), " ")
	if answer == "no" {
		return "no sum " + rest
	}
	if answer == "much" || len(lins) > linsLimit {
		d.found["sums"]++
		return "much"
	}
	for _, pair := range d.pairs(eqs) {
		if a, b := pair[0], pair[1]; same(a, b) {
			found := d.answer(append(slices.Clone(added), partLits(a, b)[0]))
			d.found["have "+strings.Fields(found)[0]]++
			if conflict, ok := strings.CutPrefix(found, "no "); ok {
				return "no have " + why(a, b) + " [" + conflict + "]"
			}
			return found
		}
	}
	for _, pair := range d.pairs(eqs) {
		if !isOrdered(lits, pair[0], pair[1]) {
			return d.split(pair[0], pair[1], added)
		}
	}
	return d.model(lits, c, strings.Fields(rest))
}

// pairs is each two numbers that are not linked.
func (d decider) pairs(eqs []impl.Eq) [][2]impl.Term {
	var list [][2]impl.Term
	for i, a := range d.nums {
		for _, b := range d.nums[i+1:] {
			if !isLinked(eqs, a, b) {
				list = append(list, [2]impl.Term{a, b})
			}
		}
	}
	return list
}

// isOrdered reports whether a literal is exactly that a is less than b, or b than a.
func isOrdered(lits []impl.Lit, a impl.Term, b impl.Term) bool {
	return slices.ContainsFunc(lits, func(l impl.Lit) bool {
		return !l.No && (equalAtom(l.Atom, lessLit(a, b).Atom) || equalAtom(l.Atom, lessLit(b, a).Atom))
	})
}

// split is the fifth rule for a and b.
func (d decider) split(a impl.Term, b impl.Term, added []impl.Lit) string {
	text := "no part " + writeTerm(a) + " " + writeTerm(b)
	for i, l := range partLits(a, b) {
		found := d.answer(append(slices.Clone(added), l))
		d.found["part "+strconv.Itoa(i)+" "+strings.Fields(found)[0]]++
		conflict, ok := strings.CutPrefix(found, "no ")
		if !ok {
			return found
		}
		text += " [" + conflict + "]"
	}
	return text
}

// model is the sixth rule: the numbers have these values.
func (d decider) model(lits []impl.Lit, c *closure, vals []string) string {
	value := func(x impl.Term) impl.Rat {
		if i := indexOf(d.nums, x); i >= 0 {
			upper, lower, _ := strings.Cut(vals[i], "/")
			n, _ := strconv.Atoi(upper)
			d, _ := strconv.Atoi("0" + lower)
			return impl.Rat{N: n, D: max(d, 1)}
		}
		return whole(slices.Index(c.label, c.label[c.place(x)]))
	}
	var m impl.Model
	for _, x := range d.terms {
		r := row(x.Name, value(x))
		for _, kid := range x.Kids {
			r.Args = append(r.Args, value(kid))
		}
		if !slices.ContainsFunc(m.Rows, func(other impl.Row) bool { return rowOrder(r, other) == 0 }) {
			m.Rows = append(m.Rows, r)
		}
	}
	slices.SortFunc(m.Rows, rowOrder)
	for _, l := range lits {
		if !isTrueIn(m, l) {
			d.found["values"]++
			return "much"
		}
	}
	return writeBoth(m, impl.Case{}, bothYes)
}

// isCase is what the document says of a conflict with an end, of valid literals and some that are added. At most so many levels are left.
func isCase(s impl.Sig, given []impl.Lit, added []impl.Lit, c impl.Case, deep int) bool {
	lits, nums := slices.Concat(given, added), numsIn(s, given)
	kind, _, _ := strings.Cut(writeCase(c), " ")
	if deep == 0 {
		return false
	}
	switch kind {
	case "eq":
		if c.N < 0 || c.N >= len(lits) || lits[c.N].Atom.Kind != atomEq || !lits[c.N].No {
			return false
		}
		x, y, ok := toldBy(s, eqsIn(lits), c.Why)
		return ok && equalTerm(x, lits[c.N].Atom.A) && equalTerm(y, lits[c.N].Atom.B)
	case "sum":
		return isCertificate(linsIn(nums, lits), c.Times)
	case "have":
		x, y, ok := toldBy(s, eqsIn(lits), c.Why)
		return ok && indexOf(nums, x) >= 0 && indexOf(nums, y) >= 0 && !equalTerm(x, y) && isCase(s, given, append(slices.Clone(added), impl.Lit{Atom: eqOf(x, y)}), c.Kids[0], deep-1)
	case "part":
		if indexOf(nums, c.A) < 0 || indexOf(nums, c.B) < 0 || equalTerm(c.A, c.B) {
			return false
		}
		for i, l := range partLits(c.A, c.B) {
			if !isCase(s, given, append(slices.Clone(added), l), c.Kids[i], deep-1) {
				return false
			}
		}
		return true
	}
	return false
}

// toldBy is what the document says of WhyTells.
func toldBy(s impl.Sig, eqs []impl.Eq, w impl.Why) (impl.Term, impl.Term, bool) {
	x, y, ok := told(eqs, w)
	return x, y, ok && fits(eqs, nil) && whyLevels(w) <= whyDeep && sortOf(s, x) >= 0 && sortOf(s, x) == sortOf(s, y)
}

// isCertificate is what the document says of FarOk.
func isCertificate(list []impl.Lin, times []int) bool {
	if len(list) > linsLimit || len(times) != len(list) {
		return false
	}
	var exact []*big.Int
	for _, n := range times {
		if n < 0 || n > coefLimit {
			return false
		}
		exact = append(exact, big.NewInt(int64(n)))
	}
	total, ok := bigTotal(list, exact)
	return ok && total.contradictory()
}

// lits makes up literals of few terms; most of them are valid, and many of those that are not satisfiable need several rules.
func (s *numbers) lits(list impl.Sig, count int) []impl.Lit {
	var pool [2][]impl.Term
	for _, y := range list.Syms {
		if len(y.Args) == 0 {
			pool[y.Sort] = append(pool[y.Sort], app(y.Name))
		}
	}
	greatest := []int{1, 1, 2, 50}[s.below(4)]
	var lits []impl.Lit
	for len(lits) < count {
		sort := s.below(2)
		if len(pool[sort]) == 0 {
			sort = 1 - sort
		}
		a, b := s.pick(pool[sort]), s.pick(pool[sort])
		if equalTerm(a, b) && s.below(8) > 0 {
			continue
		}
		y := list.Syms[s.below(len(list.Syms))]
		switch s.below(6) {
		case 0:
			lits = append(lits, impl.Lit{Atom: eqOf(a, b), No: s.below(3) == 0})
		case 1, 2:
			// What is so of a is not so of b.
			if !slices.Contains(y.Args, sort) {
				continue
			}
			left, right := s.symbolOf(y, pool), app(y.Name)
			for i, kid := range left.Kids {
				if y.Args[i] == sort {
					left.Kids[i], kid = a, b
				}
				right.Kids = append(right.Kids, kid)
			}
			if y.Sort == num && !equalTerm(left, right) && s.below(2) == 0 {
				lits = append(lits, lessLit(left, right))
			} else {
				lits = append(lits, impl.Lit{Atom: eqOf(left, right), No: s.below(3) > 0})
			}
			pool[y.Sort] = append(pool[y.Sort], left, right)
		case 3, 4:
			if sort == num && !equalTerm(a, b) {
				lits = append(lits, s.mostLit(a, b), s.mostLit(b, a))
			}
		case 5:
			if len(pool[num]) > 0 {
				lits = append(lits, impl.Lit{Atom: s.sumFrom(pool[num], greatest), No: s.below(4) == 0})
			}
		}
	}
	return lits
}

func (s *numbers) pick(list []impl.Term) impl.Term { return list[s.below(len(list))] }

// mostLit is that a is at most b, and now and then that it is less.
func (s *numbers) mostLit(a impl.Term, b impl.Term) impl.Lit {
	l := lessLit(a, b)
	l.Atom.Strict = s.below(8) == 0
	return l
}

// symbolOf makes up a term of this symbol and some terms of each sort.
func (s *numbers) symbolOf(y impl.Sym, pool [2][]impl.Term) impl.Term {
	x := app(y.Name)
	for _, sort := range y.Args {
		x.Kids = append(x.Kids, s.pick(pool[sort]))
	}
	return x
}

// sumFrom makes up a sum of some of these numbers.
func (s *numbers) sumFrom(pool []impl.Term, greatest int) impl.Atom {
	sum := impl.Atom{Kind: atomSum, Bound: s.around([]int{0, 0, 1, 1000}[s.below(4)]), Strict: s.below(2) == 0}
	for _, x := range pool {
		n := s.around(greatest)
		if n != 0 && len(sum.Nums) < sumLimit && indexOf(sum.Nums, x) < 0 {
			sum.Nums, sum.Times = append(sum.Nums, x), append(sum.Times, n)
		}
	}
	if len(sum.Nums) == 0 {
		sum.Nums, sum.Times = []impl.Term{s.pick(pool)}, ints(1)
	}
	slices.SortFunc(sum.Nums, func(x impl.Term, y impl.Term) int { return strings.Compare(writeTerm(x), writeTerm(y)) })
	return sum
}

func madeUpBothSigs() []string {
	return []string{thingSig, mixSig, fourSig, "a - 0\nb - 0\nh 0 1\nt 1 0\nx - 1\n", "k 1 1\nx - 1\ny - 1\n", "a - 0\nm 01 1\nt 10 0\nx - 1\ny - 1\n", "a - 0\nb - 0\nc - 0\nh 0 1\n"}
}

// TestBothRunIsAsDefined compares made-up literals with the chapter by its words, and holds promise 8 for their results.
func TestBothRunIsAsDefined(t *testing.T) {
	s := numbers(8)
	found := map[string]int{}
	for range 30000 {
		list := readSig(t, madeUpBothSigs()[s.below(len(madeUpBothSigs()))])
		lits := s.lits(list, s.below(litsLimit+2))
		if !isBoth(list, lits) {
			checkNotBoth(t, list, lits)
			found["form"]++
			continue
		}
		want := newDecider(list, lits, found).answer(nil)
		checkBoth(t, list, lits, want)
		found[strings.Join(strings.Fields(want)[:min(2, len(strings.Fields(want)))], " ")]++
	}
	for what, least := range map[string]int{"form": 1000, "no eq": 1000, "no sum": 1000, "no have": 100, "no part": 100, "much": 50, "sums": 50, "have no": 100, "have yes": 3, "part 0 yes": 1000, "part 0 no": 1000, "part 0 much": 20, "part 1 yes": 1000, "part 1 no": 1000, "part 1 much": 10, "part 2 yes": 300, "part 2 no": 300, "part 2 much": 5} {
		if found[what] < least {
			t.Errorf("the literals miss the case %s: %v", what, found)
		}
	}
}

// checkNotBoth checks that no function takes these literals.
func checkNotBoth(t *testing.T, s impl.Sig, lits []impl.Lit) {
	t.Helper()
	if impl.BothOk(s, lits) {
		t.Errorf("BothOk of %d literals is true", len(lits))
	}
	if nums, eqs, lins := impl.BothNums(s, lits), impl.BothEqs(s, lits), impl.BothLins(s, lits); len(nums)+len(eqs)+len(lins) != 0 {
		t.Errorf("of %d literals, there are %d numbers, %d equations and %d constraints", len(lits), len(nums), len(eqs), len(lins))
	}
	if m, c, code := impl.BothRun(s, lits); code != bothForm || len(m.Rows) != 0 || !isZeroCase(c) {
		t.Errorf("BothRun of %d literals is %v, %v, %d", len(lits), m, c, code)
	}
	a, x := app("a"), app("x")
	list := []impl.Case{{}, sumCase(), sumCase(1, 1), sumCase(0, 1, 1)}
	for i := range min(len(lits), litsLimit) + 1 {
		list = append(list, eqCase(i, refl(a)), eqCase(i, refl(x)))
	}
	end := list[len(list)-1]
	for _, c := range append(list, haveCase(given(0), end), partCase(x, app("y"), end, end, end)) {
		if impl.CaseOk(s, lits, c) {
			t.Errorf("%s is a conflict of %d literals", writeCase(c), len(lits))
		}
	}
}

// TestBothRefuses tries signatures and literals that are not valid, behind, before and between literals that would have a conflict.
func TestBothRefuses(t *testing.T) {
	clash := readLits(t, "not a=a")
	for _, s := range append(invalidSigs(), sigOf(sym("a", 0), sym("b", 2)), sigOf(sym("a", 0), sym("B", 0)), sigOf(sym("a", 0), sym("c", 0), sym("b", 0)), sigOf(sym("a", 0), sym("b", 0, 0, 0, 0)), sigOf(sym("a", 0), sym("a", 0))) {
		checkNotBoth(t, s, nil)
		checkNotBoth(t, s, clash)
		for _, y := range s.Syms {
			checkNotBoth(t, s, []impl.Lit{{Atom: eqOf(app(y.Name), app(y.Name)), No: true}})
		}
	}
	s := readSig(t, mixSig)
	list := append(badAtoms(), endlessAtoms()...)
	for _, text := range []string{"a=x", "x=a", "z=z", "h=h", "a=h(a)", "t(x)=x", "k(a)=x", "t(a)=a", "h(x)=x", "h(h(a))=x", "a(a)=a", "k(x,y)=x", "1*a <= 0", "1*z <= 0", "1*t(x) <= 0", "1*a 1*x <= 0", "1*h(x) 1*x < 0", "1*x 1*y 1*z <= 0", "1*h < 0"} {
		list = append(list, readLit(t, text).Atom)
	}
	fine := readLits(t, "not x=x; 1*x < 0; -1*x < 0; x=y")
	for i, a := range list {
		bad := impl.Lit{Atom: a, No: i%2 == 0}
		checkNotBoth(t, s, []impl.Lit{bad})
		checkNotBoth(t, s, append(slices.Clone(clash), bad))
		checkNotBoth(t, s, slices.Insert(slices.Clone(fine), i%(len(fine)+1), impl.Lit{Atom: a, No: i%3 == 0}))
	}
	checkNotBoth(t, impl.Sig{}, clash)
	checkNotBoth(t, impl.Sig{}, make([]impl.Lit, 1))
	if _, _, code := impl.BothRun(impl.Sig{}, nil); code != bothYes || !impl.BothOk(impl.Sig{Syms: []impl.Sym{}}, []impl.Lit{}) {
		t.Error("no literals are not valid")
	}
}

func TestBothLimits(t *testing.T) {
	// Literals.
	s := readSig(t, mixSig)
	for _, text := range []string{"a=b", "not a=b", "x=x", "1*x <= 0", "not x=y", "not a=a", "1*x -1*y < 0"} {
		for count := range litsLimit + 3 {
			lits := slices.Repeat(readLits(t, text), count)
			if count > litsLimit {
				checkNotBoth(t, s, lits)
				continue
			}
			checkBoth(t, s, lits, newDecider(s, lits, map[string]int{}).answer(nil))
		}
		checkNotBoth(t, s, slices.Repeat(readLits(t, text), 100000))
	}
	checkNotBoth(t, s, make([]impl.Lit, 1000))
	// Terms, also where a literal alone has many, or is negated.
	s = readSig(t, twentyFourSig)
	for _, c := range []struct {
		text string
		ok   bool
	}{
		{twentyFour, true}, {strings.Replace(twentyFour, "i(i(c))=f(h(c))", "i(i(c))=f(h(f(c)))", 1), false}, {strings.Replace(twentyFour, "f(f(a))=h(h(a))", "f(f(f(a)))=h(h(a))", 1), false}, {strings.Replace(twentyFour, "i(i(c))=f(h(c))", "i(c)=i(i(c))", 1), true}, {strings.Replace(twentyFour, "i(i(c))=f(h(c))", "i(f(c))=f(i(c))", 1), true}, {strings.Replace(twentyFour, "i(i(c))=f(h(c))", "i(f(c))=f(i(f(c)))", 1), true}, {strings.Replace(twentyFour, "i(i(c))=f(h(c))", "i(i(f(c)))=f(h(c))", 1), true}, {strings.Replace(twentyFour, "i(i(c))=f(h(c))", "i(i(f(c)))=i(h(f(c)))", 1), false},
	} {
		for _, not := range []string{"", "not "} {
			lits := readLits(t, not+strings.ReplaceAll(c.text, " ", "; "+not))
			if len(lits) != litsLimit || (len(termsIn(lits)) <= partLimit) != c.ok {
				t.Fatalf("the test's own %s has %d terms", c.text, len(termsIn(lits)))
			}
			if !c.ok {
				checkNotBoth(t, s, lits)
				continue
			}
			checkBoth(t, s, lits, newDecider(s, lits, map[string]int{}).answer(nil))
		}
	}
	// Numbers, in sums, in equations, within other terms, and behind others.
	s = readSig(t, "a - 0\nh 0 1\nk 1 1\nn 11 1\nt 1 0\nx - 1\ny - 1\n")
	for _, c := range []struct {
		text string
		ok   bool
	}{
		{"1*h(a) 1*k(x) 1*x <= 0", true}, {"1*h(a) 1*k(x) 1*x 1*y <= 0", true}, {"1*h(a) 1*k(x) 1*k(y) 1*x <= 0", false}, {"k(k(k(x)))=x", true}, {"k(k(k(x)))=y", false}, {"not k(k(k(x)))=y", false}, {"k(k(x))=y", true}, {"t(k(k(x)))=t(y)", true}, {"not t(k(k(x)))=t(k(y))", false}, {"n(x,y)=k(x)", true}, {"n(k(x),y)=x", true}, {"n(k(x),k(y))=x", false},
		{"x=y; not x=h(a); 1*k(x) <= 0", true}, {"x=y; not x=h(a); 1*k(x) <= 0; 1*k(h(a)) < 0", false}, {"x=x; x=x; x=y; x=y; h(a)=x; 1*n(x,y) <= 0", true}, {"x=x; x=x; x=y; x=y; h(a)=x; 1*n(x,y) 1*x <= 0", true}, {"x=x; x=x; x=y; x=y; h(a)=k(x); 1*n(x,y) <= 0", false}, {"x=x; not x=x; 1*h(a) 1*k(x) 1*k(y) 1*x <= 0", false},
	} {
		lits := readLits(t, c.text)
		if isBoth(s, lits) != c.ok {
			t.Fatalf("the test's own %s has %d numbers", c.text, len(numsIn(s, lits)))
		}
		if !c.ok {
			checkNotBoth(t, s, lits)
			continue
		}
		checkBoth(t, s, lits, newDecider(s, lits, map[string]int{}).answer(nil))
	}
	// Terms at their limits.
	s = readSig(t, "a - 0\nf 0 0\ng 00 0\n")
	for _, text := range []string{"f(f(f(a)))=a; not f(f(f(a)))=a", "not g(g(g(a,a),g(a,a)),f(f(a)))=g(g(g(a,a),g(a,a)),f(f(a)))", "a=f(a); not g(g(g(a,a),g(a,a)),f(f(a)))=g(g(g(a,a),g(a,a)),g(f(a),a))"} {
		lits := readLits(t, text)
		checkBoth(t, s, lits, newDecider(s, lits, map[string]int{}).answer(nil))
	}
}

// checkCase checks CaseOk of a conflict with an end, which is one or not.
func checkCase(t *testing.T, s impl.Sig, lits []impl.Lit, c impl.Case, want bool) {
	t.Helper()
	if own := isCase(s, lits, nil, c, caseDeep); own != want {
		t.Errorf("%s: for the test itself, %.1000s is a conflict: %v", writeLits(lits), writeCase(c), own)
	}
	if got := impl.CaseOk(s, lits, c); got != want {
		t.Errorf("%s: CaseOk of %.1000s is %v", writeLits(lits), writeCase(c), got)
	}
}

func TestCaseOk(t *testing.T) {
	x, y, z, a, b := app("x"), app("y"), app("z"), app("a"), app("b")
	ha, hb := app("h", a), app("h", b)
	hab := cong("h", given(0))
	for _, c := range []struct {
		sig, lits string
		c         impl.Case
		want      bool
	}{
		{mixSig, "not a=a", eqCase(0, refl(a)), true}, {mixSig, "not a=a", eqCase(0, refl(b)), false}, {mixSig, "a=a", eqCase(0, refl(a)), false}, {mixSig, "a=a", eqCase(0, given(0)), false}, {mixSig, "not a=b", eqCase(0, given(0)), false}, {mixSig, "not a=b; a=b", eqCase(0, given(0)), true}, {mixSig, "not a=b; a=b", eqCase(0, given(1)), false}, {mixSig, "not a=b; a=b", eqCase(1, given(0)), false}, {mixSig, "not a=b; b=a", eqCase(0, given(0)), false}, {mixSig, "not a=b; b=a", eqCase(0, turned(given(0))), true},
		{mixSig, "1*x < 0; not a=b; -1*x < 0; b=a; not b=a", eqCase(1, turned(given(0))), true}, {mixSig, "1*x < 0; not a=b; -1*x < 0; b=a; not b=a", eqCase(4, given(0)), true}, {mixSig, "1*x < 0; not a=b; -1*x < 0; b=a; not b=a", eqCase(4, turned(given(0))), false}, {mixSig, "1*x < 0; not a=b; -1*x < 0; b=a; not b=a", eqCase(0, given(0)), false}, {mixSig, "1*x < 0; not a=b; -1*x < 0; b=a; not b=a", eqCase(5, given(0)), false}, {mixSig, "1*x < 0; not a=b; -1*x < 0; b=a; not b=a", eqCase(-1, given(0)), false},
		{mixSig, "not 1*x < 0; not x=x", eqCase(0, refl(x)), false}, {mixSig, "not 1*x < 0; not x=x", eqCase(1, refl(x)), true}, {mixSig, "a=b; not h(a)=h(b)", eqCase(1, hab), true}, {mixSig, "a=b; not h(a)=h(b)", eqCase(1, turned(turned(hab))), true}, {mixSig, "a=b; not h(a)=h(b)", eqCase(1, turned(hab)), false}, {mixSig, "a=b; not h(a)=h(b)", eqCase(1, impl.Why{}), false}, {mixSig, "a=b; not b=b", eqCase(1, joined(turned(given(0)), given(0))), true}, {mixSig, "a=b; not a=b", eqCase(1, joined(given(0), given(0))), false},
		{mixSig, "1*x < 0; -1*x < 0", sumCase(1, 1), true}, {mixSig, "1*x < 0; -1*x < 0", sumCase(7, 7), true}, {mixSig, "1*x < 0; -1*x < 0", sumCase(1, 2), false}, {mixSig, "1*x < 0; -1*x < 0", sumCase(0, 0), false}, {mixSig, "1*x < 0; -1*x < 0", sumCase(1), false}, {mixSig, "1*x < 0; -1*x < 0", sumCase(1, 1, 0), false}, {mixSig, "1*x < 0; -1*x < 0", sumCase(), false}, {mixSig, "1*x < 0; -1*x < 0", sumCase(-1, -1), false}, {mixSig, "1*x <= 0; -1*x <= 0", sumCase(1, 1), false}, {mixSig, "", sumCase(), false}, {mixSig, "a=b", sumCase(), false},
		{mixSig, "1*x < 0; -1*x < 0", sumCase(coefLimit, coefLimit), true}, {mixSig, "1*x < 0; -1*x < 0", sumCase(coefLimit+1, coefLimit+1), false}, {mixSig, "2*x <= 1; not 3*x <= 2", sumCase(3, 2), true}, {mixSig, "2*x <= 1; not 3*x <= 2", sumCase(2, 3), false}, {mixSig, "x=y; 1*x -1*y < 0", sumCase(0, 1, 1), true}, {mixSig, "x=y; 1*x -1*y < 0", sumCase(1, 0, 1), false}, {mixSig, "y=x; 1*x -1*y < 0", sumCase(1, 0, 1), true}, {mixSig, "not a=b; x=x; 1*x < 0; -1*x < 0", sumCase(0, 0, 1, 1), true}, {mixSig, "not a=b; x=x; 1*x < 0; -1*x < 0", sumCase(9, 5, 1, 1), true},
		// An equation of two numbers, which follows.
		{mixSig, "a=b; 1*h(a) -1*h(b) < 0", haveCase(hab, sumCase(1, 0, 1)), true}, {mixSig, "a=b; 1*h(a) -1*h(b) < 0", haveCase(turned(hab), sumCase(1, 1, 0)), true}, {mixSig, "a=b; 1*h(a) -1*h(b) < 0", haveCase(turned(hab), sumCase(1, 0, 1)), false}, {mixSig, "a=b; 1*h(a) -1*h(b) < 0", haveCase(hab, sumCase(1)), false}, {mixSig, "a=b; 1*h(a) -1*h(b) < 0", haveCase(given(0), sumCase(1, 0, 1)), false}, {mixSig, "a=b; 1*h(a) -1*h(b) < 0", haveCase(given(1), sumCase(1, 0, 1)), false}, {mixSig, "a=b; 1*h(a) -1*h(b) < 0", haveCase(refl(ha), sumCase(1, 0, 0)), false}, {mixSig, "a=b; 1*h(a) -1*h(b) < 0", haveCase(impl.Why{}, sumCase(1, 0, 1)), false},
		// It is of things, of a number and itself, or of a number that is none of the literals.
		{mixSig, "a=b; not a=a", haveCase(given(0), eqCase(1, refl(a))), false}, {mixSig, "x=x; not a=a", haveCase(given(0), eqCase(1, refl(a))), false}, {mixSig, "x=y; not a=a", haveCase(given(0), eqCase(1, refl(a))), true}, {mixSig, "x=y; not a=a", haveCase(joined(given(0), turned(given(0))), eqCase(1, refl(a))), false}, {mixSig, "a=b; 1*h(a) <= 0; not a=a", haveCase(hab, eqCase(2, refl(a))), false}, {mixSig, "a=b; 1*h(b) <= 0; not a=a", haveCase(hab, eqCase(2, refl(a))), false}, {mixSig, "a=b; 1*h(a) 1*h(b) <= 0; not a=a", haveCase(hab, eqCase(2, refl(a))), true}, {mixSig, "a=b; not a=a", haveCase(hab, eqCase(1, refl(a))), false}, {mixSig, "x=y; not a=a", haveCase(cong("k", given(0)), eqCase(1, refl(a))), false},
		// What is added has its number behind the equations, but is no negated literal.
		{mixSig, "x=y; not h(a)=h(b); a=b", haveCase(cong("h", given(1)), eqCase(1, given(2))), true}, {mixSig, "x=y; not h(a)=h(b); a=b", haveCase(cong("h", given(1)), eqCase(1, given(1))), false}, {mixSig, "x=y; not h(a)=h(b); a=b", haveCase(cong("h", given(1)), eqCase(3, given(2))), false}, {mixSig, "x=y; not h(a)=h(b); a=b", haveCase(turned(cong("h", given(1))), eqCase(1, turned(given(2)))), true}, {mixSig, "x=y; not h(a)=h(b); a=b", haveCase(given(0), eqCase(1, cong("h", given(1)))), true}, {mixSig, "x=y; not h(a)=h(b); a=b", haveCase(cong("h", given(1)), haveCase(given(2), eqCase(1, given(3)))), true}, {mixSig, "x=y; not h(a)=h(b); a=b", haveCase(given(0), haveCase(given(2), eqCase(1, hab))), false}, {mixSig, "x=y; not h(a)=h(b); a=b", haveCase(given(2), eqCase(1, given(2))), false},
		// Three cases, in their order.
		{mixSig, "1*x -1*y <= 0; -1*x 1*y <= 0; not t(x)=t(y)", partCase(x, y, eqCase(2, cong("t", given(0))), sumCase(0, 1, 1), sumCase(1, 0, 1)), true}, {mixSig, "1*x -1*y <= 0; -1*x 1*y <= 0; not t(x)=t(y)", partCase(x, y, eqCase(2, cong("t", given(0))), sumCase(1, 0, 1), sumCase(0, 1, 1)), false}, {mixSig, "1*x -1*y <= 0; -1*x 1*y <= 0; not t(x)=t(y)", partCase(x, y, sumCase(0, 1, 1), eqCase(2, cong("t", given(0))), sumCase(1, 0, 1)), false}, {mixSig, "1*x -1*y <= 0; -1*x 1*y <= 0; not t(x)=t(y)", partCase(y, x, eqCase(2, cong("t", given(0))), sumCase(1, 0, 1), sumCase(0, 1, 1)), false}, {mixSig, "1*x -1*y <= 0; -1*x 1*y <= 0; not t(x)=t(y)", partCase(y, x, eqCase(2, cong("t", turned(given(0)))), sumCase(1, 0, 1), sumCase(0, 1, 1)), true}, {mixSig, "1*x -1*y <= 0; -1*x 1*y <= 0; not t(x)=t(y)", partCase(y, x, eqCase(2, cong("t", turned(given(0)))), sumCase(0, 1, 1), sumCase(1, 0, 1)), false},
		{mixSig, "not x=y; 1*x -1*y <= 0; -1*x 1*y <= 0", partCase(x, y, eqCase(0, given(0)), sumCase(0, 1, 1), sumCase(1, 0, 1)), true}, {mixSig, "not x=y; 1*x -1*y <= 0; -1*x 1*y <= 0", partCase(x, y, eqCase(0, turned(given(0))), sumCase(0, 1, 1), sumCase(1, 0, 1)), false}, {mixSig, "not x=y; 1*x -1*y <= 0; 1*x 1*y <= 0", partCase(x, y, eqCase(0, given(0)), sumCase(0, 1, 1), sumCase(1, 0, 1)), false},
		// A certificate has to be that of the case: the constraints are two for the first one, and one for the others, behind the others.
		{mixSig, "1*x < 0; -1*x < 0; 1*y < 5", partCase(x, y, sumCase(1, 1, 0, 0, 0), sumCase(1, 1, 0, 0), sumCase(1, 1, 0, 0)), true}, {mixSig, "1*x < 0; -1*x < 0; 1*y < 5", partCase(x, y, sumCase(1, 1, 0, 0), sumCase(1, 1, 0, 0), sumCase(1, 1, 0, 0)), false}, {mixSig, "1*x < 0; -1*x < 0; 1*y < 5", partCase(x, y, sumCase(1, 1, 0, 0, 0), sumCase(1, 1, 0, 0, 0), sumCase(1, 1, 0, 0)), false}, {mixSig, "1*x < 0; -1*x < 0; 1*y < 5", partCase(x, y, sumCase(1, 1, 0, 0, 0), sumCase(1, 1, 0, 0), sumCase(1, 1, 0)), false}, {mixSig, "1*x < 0; -1*x < 0; 1*y < 5", partCase(x, y, sumCase(1, 1, 0, 7, 7), sumCase(1, 1, 0, 0), sumCase(1, 1, 0, 0)), true}, {mixSig, "1*x < 0; -1*x < 0; 1*y < 5", partCase(x, y, sumCase(1, 1, 0, 0, 0), sumCase(1, 1, 0, 1), sumCase(1, 1, 0, 0)), false},
		// Numbers that are one, or none of the literals.
		{mixSig, "1*x 1*y < 0; not a=a", partCase(x, y, eqCase(1, refl(a)), eqCase(1, refl(a)), eqCase(1, refl(a))), true}, {mixSig, "1*x 1*y < 0; not a=a", partCase(x, x, eqCase(1, refl(a)), eqCase(1, refl(a)), eqCase(1, refl(a))), false}, {mixSig, "1*x < 0; not a=a", partCase(x, y, eqCase(1, refl(a)), eqCase(1, refl(a)), eqCase(1, refl(a))), false}, {mixSig, "1*x < 0; not a=a", partCase(y, x, eqCase(1, refl(a)), eqCase(1, refl(a)), eqCase(1, refl(a))), false}, {mixSig, "1*x 1*y < 0; not a=b", partCase(x, a, eqCase(1, refl(a)), eqCase(1, refl(a)), eqCase(1, refl(a))), false}, {mixSig, "1*x 1*y < 0; not a=a", partCase(x, a, eqCase(1, refl(a)), eqCase(1, refl(a)), eqCase(1, refl(a))), false}, {mixSig, "1*x 1*y < 0; not a=a", partCase(a, b, eqCase(1, refl(a)), eqCase(1, refl(a)), eqCase(1, refl(a))), false}, {mixSig, "1*x 1*y < 0; not a=a", partCase(x, z, eqCase(1, refl(a)), eqCase(1, refl(a)), eqCase(1, refl(a))), false}, {mixSig, "1*x 1*y < 0; not a=a", partCase(app("k", x), x, eqCase(1, refl(a)), eqCase(1, refl(a)), eqCase(1, refl(a))), false}, {mixSig, "1*x 1*y < 0; not a=a", partCase(app("k", y), app("k", x), eqCase(1, refl(a)), eqCase(1, refl(a)), eqCase(1, refl(a))), false}, {mixSig, "t(k(x))=a; not a=a", partCase(app("k", x), x, eqCase(1, refl(a)), eqCase(1, refl(a)), eqCase(1, refl(a))), true},
		{mixSig, "1*h(a) 1*h(b) < 0; not a=a", partCase(hb, ha, eqCase(1, refl(a)), eqCase(1, refl(a)), eqCase(1, refl(a))), true}, {mixSig, "not t(x)=t(y); not a=a", partCase(x, y, eqCase(1, refl(a)), eqCase(1, refl(a)), eqCase(1, refl(a))), true}, {mixSig, "not t(x)=t(y); not a=a", partCase(app("t", x), app("t", y), eqCase(1, refl(a)), eqCase(1, refl(a)), eqCase(1, refl(a))), false}, {mixSig, "1*x 1*y < 0; not a=a", partCase(x, y, eqCase(1, refl(a)), eqCase(1, refl(a)), eqCase(1, refl(b))), false}, {mixSig, "1*x 1*y < 0; not a=a", partCase(x, y, eqCase(1, refl(a)), eqCase(1, refl(b)), eqCase(1, refl(a))), false}, {mixSig, "1*x 1*y < 0; not a=a", partCase(x, y, eqCase(1, refl(b)), eqCase(1, refl(a)), eqCase(1, refl(a))), false},
	} {
		checkCase(t, readSig(t, c.sig), readLits(t, c.lits), c.c, c.want)
	}
	// A kind that is none, with the fields of each kind.
	s, lits := readSig(t, mixSig), readLits(t, "not a=a; 1*x < 0; -1*x < 0; x=y")
	end := eqCase(0, refl(a))
	for _, good := range []impl.Case{end, sumCase(1, 1, 0, 0), haveCase(given(0), end), partCase(x, y, end, end, end)} {
		checkCase(t, s, lits, good, true)
		for _, kind := range append(strangeInts(), -4, -3, -2, -1, 0, 5, 6, 7, 255, 256, 257, 260) {
			for count := range 5 {
				bad := good
				bad.Kind, bad.Kids = kind, slices.Repeat([]impl.Case{end}, count)
				checkCase(t, s, lits, bad, false)
				checkCase(t, s, lits, impl.Case{Kind: kind, A: x, B: y, Kids: bad.Kids}, false)
			}
		}
		for count := range 6 {
			bad := good
			bad.Kids = slices.Repeat([]impl.Case{end}, count)
			checkCase(t, s, lits, bad, count == len(good.Kids))
		}
	}
}

// nestLits have all kinds of conflicts, and nested are conflicts of them with so many levels above the last one, where there are so many constraints: each kind stands within each other one, in each place.
const nestLits = "a=b; not a=b; 1*x < 0; -1*x < 0; x=y; not h(a)=h(b)"

func nested(levels int, lins int) []impl.Case {
	list := []impl.Case{eqCase(1, given(0)), eqCase(5, cong("h", given(0))), sumCase(append([]int{1, 1}, make([]int, lins-2)...)...)}
	if levels == 0 {
		return list
	}
	ha, hb := app("h", app("a")), app("h", app("b"))
	first, rest := nested(levels-1, lins+2), nested(levels-1, lins+1)
	for _, kid := range first {
		list = append(list, haveCase(cong("h", given(0)), kid), haveCase(turned(given(1)), kid))
	}
	for i := range max(len(first), len(rest)) {
		list = append(list, partCase(ha, hb, first[i%len(first)], rest[i%len(rest)], rest[(i+1)%len(rest)]), partCase(hb, app("x"), first[(i+1)%len(first)], rest[(i+2)%len(rest)], rest[i%len(rest)]))
	}
	return list
}

// spoiledCases is a conflict with something in it, but not in its kids, that is different. The explanations and terms have an end.
func spoiledCases(c impl.Case) []impl.Case {
	var list []impl.Case
	change := func(edit func(v *impl.Case)) {
		v := copyCase(c)
		edit(&v)
		list = append(list, v)
	}
	for _, kind := range append(strangeInts(), -1, 0, 1, 2, 3, 4, 5, -c.Kind, 256+c.Kind, 1<<32+c.Kind) {
		change(func(v *impl.Case) { v.Kind = kind })
	}
	for _, n := range append(strangeInts(), -1, 0, 1, 2, 3, 4, 5, 6, 7, 8, 256+c.N, 1<<32+c.N) {
		change(func(v *impl.Case) { v.N = n })
	}
	a, x := app("a"), app("x")
	for _, w := range []impl.Why{{}, {N: 1}, {N: -1}, {T: a}, {T: impl.Term{Kids: []impl.Term{{}}}}, {Kids: []impl.Why{{}}}, {Rule: 7}, {Rule: -1}, refl(a), refl(x), given(0), given(1), given(2), given(-1), turned(c.Why), turned(turned(c.Why)), joined(c.Why, c.Why), joined(turned(given(0)), c.Why), cong("h", c.Why)} {
		change(func(v *impl.Case) { v.Why = w })
	}
	for _, times := range [][]int{nil, {0}, {1}, {0, 0}, {1, 1}, {1, 1, 1}, {1, 1, 0, 0}, make([]int, 1000), append(slices.Clone(c.Times), 0), append([]int{0}, c.Times...), append([]int{1}, c.Times...)} {
		change(func(v *impl.Case) { v.Times = times })
	}
	for i := range c.Times {
		for _, n := range append(strangeInts(), -1, 0, 1, 2, coefLimit, coefLimit+1) {
			change(func(v *impl.Case) { v.Times[i] = n })
		}
		change(func(v *impl.Case) { v.Times = v.Times[:i] })
	}
	for _, x := range []impl.Term{{}, a, x, app("y"), app("z"), app("h", a), app("h", app("b")), app("h", x), app("k", x), app("A"), app("", a), {Kids: []impl.Term{{}}}, app("h", a, a), chain(5, "x")} {
		change(func(v *impl.Case) { v.A = x })
		change(func(v *impl.Case) { v.B = x })
		change(func(v *impl.Case) { v.A, v.B = x, x })
	}
	change(func(v *impl.Case) { v.A, v.B = v.B, v.A })
	for _, kid := range []impl.Case{{}, eqCase(1, given(0)), sumCase(1, 1, 0, 0)} {
		change(func(v *impl.Case) { v.Kids = append(v.Kids, kid) })
		change(func(v *impl.Case) { v.Kids = append([]impl.Case{kid}, v.Kids...) })
		change(func(v *impl.Case) { v.Kids = slices.Repeat([]impl.Case{kid}, 1000) })
		for i := range c.Kids {
			change(func(v *impl.Case) { v.Kids[i] = kid })
		}
	}
	for i := range c.Kids {
		change(func(v *impl.Case) { v.Kids = slices.Delete(v.Kids, i, i+1) })
		change(func(v *impl.Case) { v.Kids = append(v.Kids, v.Kids[i]) })
		change(func(v *impl.Case) { v.Kids[0], v.Kids[i] = v.Kids[i], v.Kids[0] })
	}
	change(func(v *impl.Case) { v.Kids = nil })
	return list
}

// TestCaseOkNested spoils conflicts, and conflicts within others.
func TestCaseOkNested(t *testing.T) {
	s, lits := readSig(t, mixSig), readLits(t, nestLits)
	right, wrong := 0, 0
	for _, c := range nested(2, 4) {
		checkCase(t, s, lits, c, true)
	}
	for _, c := range nested(1, 4) {
		list := spoiledCases(c)
		for i := range c.Kids {
			for _, kid := range spoiledCases(c.Kids[i]) {
				other := copyCase(c)
				other.Kids[i] = kid
				list = append(list, other)
			}
		}
		for _, bad := range list {
			want := isCase(s, lits, nil, bad, caseDeep)
			checkCase(t, s, lits, bad, want)
			if want {
				right++
			} else {
				wrong++
			}
		}
	}
	if right < 300 || wrong < 5000 {
		t.Errorf("%d and %d conflicts", right, wrong)
	}
	// The same with explanations and terms that have no end, or seem to have none.
	for _, c := range nested(0, 4) {
		for _, w := range endlessWhys() {
			bad := c
			bad.Why = w
			for _, v := range []impl.Case{bad, haveCase(w, eqCase(1, given(0))), haveCase(given(1), bad), partCase(app("x"), app("y"), bad, bad, bad)} {
				if impl.CaseOk(s, lits, v) {
					t.Errorf("a conflict of kind %d with an endless explanation", c.Kind)
				}
			}
		}
	}
	end := eqCase(1, given(0))
	for i, x := range append(badTerms(), endlessTerms()...) {
		for _, v := range []impl.Case{partCase(x, app("x"), end, end, end), partCase(app("x"), x, end, end, end), partCase(x, x, end, end, end), haveCase(refl(x), end), eqCase(1, refl(x)), haveCase(joined(given(1), refl(x)), end)} {
			if impl.CaseOk(s, lits, v) {
				t.Errorf("a conflict with term %d", i)
			}
		}
		if isZeroTerm(x) {
			continue
		}
		for _, v := range []impl.Case{{Kind: caseEq, N: 1, Why: given(0), A: x}, {Kind: caseEq, N: 1, Why: given(0), B: x}, {Kind: caseSum, Times: ints(1, 1, 0, 0), A: x}, {Kind: caseHave, Why: given(1), B: x, Kids: []impl.Case{end}}} {
			if impl.CaseOk(s, lits, v) {
				t.Errorf("a conflict with term %d", i)
			}
		}
	}
	empty := impl.Case{Kind: caseEq, N: 1, Why: impl.Why{Rule: whyGiven, T: impl.Term{Kids: []impl.Term{}}, Kids: []impl.Why{}}, Times: []int{}, A: impl.Term{Kids: []impl.Term{}}, B: impl.Term{Kids: []impl.Term{}}, Kids: []impl.Case{}}
	if !impl.CaseOk(s, lits, empty) {
		t.Error("no elements are not the same as nil")
	}
}

// deepSig and deepLits have two numbers, and conflicts that do not depend on what is added.
const (
	deepSig  = "a - 0\nh 0 1\nx - 1\ny - 1\n"
	deepLits = "not a=a; 1*x -1*y <= 5"
)

// around puts a conflict in one of the three places of another one, and end in the others.
func around(c impl.Case, at int, end impl.Case) impl.Case {
	kids := []impl.Case{end, end, end}
	kids[at] = c
	return partCase(app("x"), app("y"), kids...)
}

func caseTower(c impl.Case, levels int, at int, end impl.Case) impl.Case {
	for range levels {
		c = around(c, at, end)
	}
	return c
}

func TestCaseDeep(t *testing.T) {
	s, lits := readSig(t, deepSig), readLits(t, deepLits)
	end := eqCase(0, refl(app("a")))
	for levels := range caseDeep + 4 {
		for _, at := range []int{1, 2} {
			checkCase(t, s, lits, caseTower(end, levels, at, end), levels < caseDeep)
		}
		// In the first place, the equations get too many before that.
		checkCase(t, s, lits, caseTower(end, levels, 0, end), levels <= eqsLimit)
		for top := range levels {
			// The lower levels have a first place as well.
			checkCase(t, s, lits, caseTower(caseTower(end, levels-top, 1+top%2, end), top, 0, end), levels < caseDeep && top+1 <= eqsLimit)
			checkCase(t, s, lits, caseTower(caseTower(end, levels-top, 0, end), top, 2, end), levels < caseDeep && levels-top <= eqsLimit)
		}
	}
	for _, levels := range []int{100, 100000} {
		if impl.CaseOk(s, lits, caseTower(end, levels, 1, end)) || impl.CaseOk(s, lits, caseTower(end, levels, 0, end)) {
			t.Errorf("a conflict of %d levels", levels)
		}
	}
	// The depth is that of the deepest kid, whichever it is.
	for at := range 3 {
		for levels := caseDeep - 4; levels < caseDeep+2; levels++ {
			c := caseTower(end, levels-1, 1, end)
			kids := []impl.Case{caseTower(end, 3, 1, end), caseTower(end, 3, 2, end), caseTower(end, 4, 1, end)}
			kids[at] = c
			checkCase(t, s, lits, partCase(app("x"), app("y"), kids...), levels < caseDeep)
		}
	}
}

// TestCaseLimits has as many equations as there may be, as many constraints, and explanations as deep as they may be, and one past that.
func TestCaseLimits(t *testing.T) {
	s, a := readSig(t, mixSig), app("a")
	for count := range litsLimit {
		lits := append(slices.Repeat(readLits(t, "x=y"), count), readLits(t, "not a=a")...)
		if count == 0 {
			lits = append(lits, readLits(t, "1*x 1*y < 0")...)
		}
		end := eqCase(count, refl(a))
		for added := range caseDeep {
			// The equations are added by the first case, or follow from the first equation, or from the last one.
			fits := count+added <= eqsLimit
			checkCase(t, s, lits, caseTower(end, added, 0, end), fits)
			if count == 0 {
				continue
			}
			last := end
			for i := range added {
				last = haveCase(given(count+added-2-i), last)
			}
			checkCase(t, s, lits, last, fits)
			checkCase(t, s, lits, haveTower(end, added), fits)
		}
	}
	for _, text := range []string{"1*x < 0; -1*x < 0; 1*x -1*y <= 5", "x=y; 1*x < 0; -1*x < 0", "x=y; x=y; x=y; 1*x < 0; -1*x < 0", "x=y; 1*x < 0; -1*x < 0; x=y; x=y; x=y"} {
		lits := readLits(t, text)
		count := len(impl.BothLins(s, lits))
		for levels := range caseDeep {
			c := sumTower(2*strings.Count(strings.Split(text, "1*")[0], "="), count, levels)
			checkCase(t, s, lits, c, count+levels+min(levels, 1) <= linsLimit)
		}
	}
	for _, levels := range []int{1, 2, whyDeep - 1, whyDeep, whyDeep + 1, whyDeep + 2} {
		lits := readLits(t, "not a=a; x=y; not b=b")
		checkCase(t, s, lits, eqCase(0, tower(refl(a), levels-1, turned)), levels <= whyDeep)
		checkCase(t, s, lits, haveCase(tower(given(0), levels-1, turned), eqCase(2, refl(app("b")))), levels <= whyDeep)
	}
}

// haveTower is a conflict within so many others that add equation 0 again.
func haveTower(c impl.Case, levels int) impl.Case {
	for range levels {
		c = haveCase(given(0), c)
	}
	return c
}

// sumTower is a conflict of so many levels above the last one, where there are so many constraints, and the two from at on are contradictory. The second case leads on.
func sumTower(at int, count int, levels int) impl.Case {
	end := func(count int) impl.Case {
		times := make([]int, count)
		times[at], times[at+1] = 1, 1
		return sumCase(times...)
	}
	if levels == 0 {
		return end(count)
	}
	return partCase(app("x"), app("y"), end(count+2), sumTower(at, count+1, levels-1), end(count+1))
}

// caseBush is a conflict that is so deep and has the next lower one in several places; written out, it has no room.
func caseBush(levels int, end impl.Case, places ...int) impl.Case {
	c := end
	for range levels - 1 {
		kids := []impl.Case{end, end, end}
		for _, at := range places {
			kids[at] = c
		}
		c = partCase(app("x"), app("y"), kids...)
	}
	return c
}

// caseRing is a conflict that contains itself so many levels deeper, each time as all kids.
func caseRing(levels int, last impl.Case) impl.Case {
	lists := make([][]impl.Case, levels)
	for i := range lists {
		lists[i] = make([]impl.Case, 3)
	}
	for i := range lists {
		for at := range lists[i] {
			lists[i][at] = partCase(app("x"), app("y"), lists[(i+1)%levels]...)
		}
	}
	last.Kids = lists[0][0].Kids
	lists[0][0] = last
	return lists[levels-1][0]
}

// endlessCases are no conflicts, and have no end or seem to have none.
func endlessCases() []impl.Case {
	end := eqCase(0, refl(app("a")))
	alone := make([]impl.Case, 1)
	alone[0] = impl.Case{Kind: caseHave, Why: given(0), Kids: alone}
	mixed := make([]impl.Case, 3)
	mixed[0], mixed[1], mixed[2] = end, end, impl.Case{Kind: casePart, A: app("x"), B: app("y"), Kids: mixed}
	tangle := make([]impl.Case, 50)
	for i := range tangle {
		tangle[i] = impl.Case{Kind: i % 5, N: i, Kids: tangle[i/2:]}
	}
	return []impl.Case{
		alone[0], haveCase(given(0), alone[0]), around(alone[0], 2, end), mixed[2], around(mixed[2], 0, end), {Kind: casePart, A: app("x"), B: app("y"), Kids: mixed}, tangle[0], tangle[49], {Kind: caseHave, Why: given(0), Kids: tangle[:1]}, {Kind: casePart, A: app("x"), B: app("y"), Kids: tangle[:3]}, {Kind: caseEq, Why: refl(app("a")), Kids: alone}, {Kind: caseSum, Kids: mixed},
		caseRing(1, impl.Case{Kind: casePart, A: app("x"), B: app("y")}), caseRing(2, impl.Case{Kind: casePart, A: app("x"), B: app("y")}), caseRing(3, impl.Case{Kind: caseHave}), caseRing(2, impl.Case{}), caseBush(3000, end, 0, 1, 2), caseBush(80, end, 1, 2), caseBush(caseDeep+1, end, 1, 2), caseBush(caseDeep+1, end, 2), caseTower(end, 50000, 1, end),
	}
}

func TestCaseOkOfSharedMemory(t *testing.T) {
	s, lits := readSig(t, deepSig), readLits(t, deepLits)
	end := eqCase(0, refl(app("a")))
	for levels := 1; levels < caseDeep+4; levels++ {
		for _, places := range [][]int{{0, 1, 2}, {1, 2}, {0, 1}, {0, 2}, {2}, {0}} {
			deepest := caseDeep
			if places[0] == 0 {
				// All cases are the first one somewhere, so that there are too many equations before that.
				deepest = eqsLimit + 1
			}
			if levels > 9 && len(places) > 1 && levels != deepest && levels != deepest+1 {
				continue
			}
			if got := impl.CaseOk(s, lits, caseBush(levels, end, places...)); got != (levels <= deepest) {
				t.Errorf("a conflict of %d levels that has the next one in the places %v: %v", levels, places, got)
			}
		}
		// Not all of it is right.
		for _, bad := range []impl.Case{eqCase(0, given(0)), eqCase(1, refl(app("a"))), sumCase(1), {}} {
			if impl.CaseOk(s, lits, caseBush(levels, bad, 0, 1, 2)) || impl.CaseOk(s, lits, around(caseBush(levels, end, 1, 2), 2, bad)) {
				t.Errorf("a conflict of %d levels with a wrong end", levels)
			}
		}
	}
	// One conflict stands at a higher and at a lower level; it is too deep only at the lower one.
	for room := 1; room < caseDeep; room++ {
		for levels := max(2, caseDeep-room-1); levels <= caseDeep-room+1; levels++ {
			for at := range 3 {
				low := caseBush(levels, end, at)
				for first, kids := range [][]impl.Case{{end, low, caseTower(low, room-1, 2, end)}, {end, caseTower(low, room-1, 2, end), low}, {low, end, caseTower(low, room-1, 1, end)}} {
					c := partCase(app("x"), app("y"), kids...)
					eqs := levels - 1 + first/2
					want := levels+room <= caseDeep && (at > 0 || eqs <= eqsLimit)
					if got := impl.CaseOk(s, lits, c); got != want {
						t.Errorf("a conflict of %d levels, which are in place %d, at %d levels: %v", levels, at, room, got)
					}
				}
			}
		}
	}
	// A great explanation stands in each of a great many places.
	for _, w := range []impl.Why{whyBush(whyDeep, refl(app("a"))), tower(refl(app("a")), whyDeep-1, turned)} {
		if !impl.CaseOk(s, lits, caseBush(eqsLimit+1, eqCase(0, w), 0, 1, 2)) || impl.CaseOk(s, lits, caseBush(eqsLimit+1, eqCase(0, turned(w)), 0, 1, 2)) {
			t.Error("a great explanation in a great many places")
		}
	}
	for i, c := range endlessCases() {
		for _, lits := range [][]impl.Lit{readLits(t, deepLits), readLits(t, "x=y; not a=a; 1*x < 0; -1*x < 0"), nil} {
			if impl.CaseOk(s, lits, c) || impl.CaseOk(s, lits, haveCase(given(0), c)) || impl.CaseOk(s, lits, around(c, 1, end)) {
				t.Errorf("endless conflict %d", i)
			}
		}
	}
}

// TestCaseOkOfOnePlace has conflicts in one place in memory that are right where some literals are added, and wrong where others are.
func TestCaseOkOfOnePlace(t *testing.T) {
	s, x, y, ha, hb := readSig(t, mixSig), app("x"), app("y"), app("h", app("a")), app("h", app("b"))
	lits := readLits(t, "a=b; not t(x)=t(y); 1*h(a) 1*h(b) <= 0")
	// This needs that equation 1 is x = y.
	end := eqCase(1, cong("t", given(1)))
	kids := []impl.Case{end, end, end}
	have := impl.Case{Kind: caseHave, Why: cong("h", given(0)), Kids: kids[:1]}
	part := impl.Case{Kind: casePart, A: x, B: ha, Kids: kids}
	good := eqCase(1, cong("t", given(0)))
	withEq := readLits(t, "x=y; not t(x)=t(y); 1*h(a) 1*h(b) <= 0; a=b")
	checkCase(t, s, withEq, partCase(x, y, good, good, good), true)
	checkCase(t, s, lits, partCase(x, y, have, have, have), false)
	checkCase(t, s, lits, partCase(x, y, part, part, part), false)
	// Where h(a) is less than h(b), or more, there is a conflict; where they are equal, equation 1 is another one.
	apart := partCase(ha, hb, part, haveCase(cong("h", given(0)), sumCase(0, 0, 1, 0, 1)), haveCase(cong("h", given(0)), sumCase(0, 0, 1, 1, 0)))
	checkCase(t, s, lits, partCase(x, y, part, apart, apart), false)
	// Ten equations are there: with two more of them an explanation derives something, with three it does not.
	many := append(slices.Repeat(readLits(t, "x=y"), litsLimit-1), readLits(t, "not a=a")...)
	low := impl.Case{Kind: caseHave, Why: given(0), Kids: []impl.Case{eqCase(litsLimit-1, refl(app("a")))}}
	for levels, want := range []bool{true, true, false} {
		c := partCase(x, y, low, haveTower(low, levels), low)
		checkCase(t, s, many, haveTower(c, 5), want)
	}
	// With a literal more, what was refused above is a conflict as well.
	lits = append(lits, readLits(t, "not t(h(a))=t(h(b))")...)
	right := slices.Clone(apart.Kids)
	right[0] = eqCase(3, cong("t", given(1)))
	checkCase(t, s, lits, partCase(x, y, part, partCase(ha, hb, right...), partCase(ha, hb, right...)), true)
}

// spoilCase changes one field of one conflict in c.
func (s *numbers) spoilCase(c *impl.Case) {
	for len(c.Kids) > 0 && s.below(3) > 0 {
		c = &c.Kids[s.below(len(c.Kids))]
	}
	terms := []impl.Term{{}, app("a"), app("x"), app("y"), app("h", app("a")), app("h", app("b")), app("k", app("x"))}
	switch s.below(9) {
	case 0:
		c.Kind = s.below(6)
	case 1:
		c.N += s.around(2)
	case 2:
		if !isZeroWhy(c.Why) {
			s.spoil(&c.Why)
		}
	case 3:
		c.Why = []impl.Why{{}, given(s.below(4)), turned(c.Why), turned(turned(c.Why)), joined(c.Why, turned(c.Why))}[s.below(5)]
	case 4:
		if len(c.Times) > 0 {
			c.Times[s.below(len(c.Times))] += s.around(2)
		}
	case 5:
		c.Times = append(c.Times, s.below(2))
	case 6:
		c.A = s.pick(terms)
	case 7:
		c.B = s.pick(terms)
	case 8:
		if len(c.Kids) > 0 {
			i, j := s.below(len(c.Kids)), s.below(len(c.Kids))
			c.Kids[i], c.Kids[j] = c.Kids[j], c.Kids[i]
		}
	}
}

// TestCaseOkIsAsDefined compares conflicts that are not right, or not for these literals, with the chapter by its words.
func TestCaseOkIsAsDefined(t *testing.T) {
	s := numbers(88)
	found := map[string]int{}
	for range 12000 {
		list := readSig(t, madeUpBothSigs()[s.below(len(madeUpBothSigs()))])
		lits := s.lits(list, 2+s.below(litsLimit-1))
		_, c, code := impl.BothRun(list, lits)
		if code != bothNo || c.Kind == caseEq && s.below(4) > 0 {
			continue
		}
		for i := range 8 {
			other, others := copyCase(c), slices.Clone(lits)
			s.spoilCase(&other)
			if i%4 == 0 {
				j := s.below(len(others))
				others[j].No = !others[j].No
				other = c
			}
			want := isCase(list, others, nil, other, caseDeep)
			checkCase(t, list, others, other, want)
			found[strconv.Itoa(c.Kind)+" "+strconv.FormatBool(want)]++
			if _, _, code := impl.BothRun(list, others); want && code == bothYes {
				t.Fatalf("%s have a model and a conflict", writeLits(others))
			}
		}
	}
	for _, what := range []string{"1 true", "1 false", "2 true", "2 false", "3 true", "3 false", "4 true", "4 false"} {
		if found[what] < 50 {
			t.Errorf("the conflicts miss the case %s: %v", what, found)
		}
	}
}

// TestBothOfModels is promise 8 for literals that are true in a model: they have no conflict, neither one that BothRun returns nor one of other literals. Where BothRun returns a conflict, no model is found.
func TestBothOfModels(t *testing.T) {
	s := numbers(888)
	codes, refused, tried := map[int]int{}, 0, 0
	var conflicts []impl.Case
	for range 20000 {
		list := readSig(t, madeUpBothSigs()[s.below(len(madeUpBothSigs()))])
		m := s.model(list, s.below(20))
		lits := s.lits(list, s.below(litsLimit+1))
		if !isBoth(list, lits) {
			continue
		}
		_, c, code := impl.BothRun(list, lits)
		if code == bothNo {
			conflicts = append(conflicts, c)
			tried++
			if impl.ModelAll(list, m, lits) {
				t.Fatalf("%s are true in %q", writeLits(lits), writeModel(m))
			}
		}
		for i, l := range lits {
			if so, ok := truthIn(m, l); ok && !so {
				lits[i].No = !l.No
			}
		}
		if !impl.ModelAll(list, m, lits) {
			continue
		}
		_, c, code = impl.BothRun(list, lits)
		codes[code]++
		if code == bothNo {
			t.Fatalf("%s are true in %q, but there is the conflict %s", writeLits(lits), writeModel(m), writeCase(c))
		}
		for range min(len(conflicts), 5) {
			if c := conflicts[s.below(len(conflicts))]; impl.CaseOk(list, lits, c) {
				t.Fatalf("%s are true in %q, but CaseOk takes %s", writeLits(lits), writeModel(m), writeCase(c))
			}
			refused++
		}
	}
	if codes[bothYes] < 10000 || codes[bothMuch] < 20 || refused < 10000 || tried < 2000 {
		t.Errorf("%v, %d conflicts, %d of others", codes, tried, refused)
	}
}

// casesApart are conflicts of which each differs from all others in a field; the ones that are none too.
func casesApart() []impl.Case {
	a, x, y := app("a"), app("x"), app("y")
	end, other := eqCase(0, refl(a)), eqCase(0, refl(x))
	list := []impl.Case{
		{}, {Kind: -1}, {Kind: 5}, {Kind: 257}, {Kind: 1<<32 + 1}, {N: 1}, {N: -1}, {N: 256}, {N: 1 << 32}, {Why: refl(a)}, {Why: impl.Why{N: 1}}, {Why: impl.Why{T: a}}, {Why: impl.Why{Kids: make([]impl.Why, 1)}}, {Why: impl.Why{Kids: make([]impl.Why, 2)}}, {Times: ints(0)}, {Times: ints(0, 0)}, {Times: ints(1)}, {Times: ints(-1)}, {Times: ints(1 << 32)}, {A: a}, {B: a}, {A: a, B: a}, {A: a, B: x}, {A: x, B: a}, {A: app("", impl.Term{})}, {B: app("", impl.Term{})}, {A: app("f", a)}, {A: app("f", x)}, {Kids: make([]impl.Case, 1)}, {Kids: make([]impl.Case, 2)}, {Kids: make([]impl.Case, 1000)}, {Kids: []impl.Case{{Kids: make([]impl.Case, 1)}}}, {Kids: []impl.Case{{Kids: make([]impl.Case, 1)}, {}}}, {Kids: []impl.Case{{}, {Kids: make([]impl.Case, 1)}}},
		{Kind: 1}, {Kind: 2}, {Kind: 3}, {Kind: 4}, end, other, eqCase(1, refl(a)), eqCase(0, given(0)), eqCase(0, given(1)), eqCase(1, given(0)), eqCase(0, turned(given(0))), eqCase(0, joined(given(0), given(1))), eqCase(0, joined(given(1), given(0))), {Kind: 1, Why: refl(a), Times: ints(1)}, {Kind: 1, Why: refl(a), A: a}, {Kind: 1, Why: refl(a), B: a}, {Kind: 1, Why: refl(a), Kids: []impl.Case{end}},
		sumCase(0), sumCase(1), sumCase(1, 1), sumCase(1, 2), sumCase(2, 1), sumCase(1, 1, 0), sumCase(0, 1, 1), {Kind: 2, N: 1, Times: ints(1)}, {Kind: 2, Times: ints(1), Why: given(0)}, {Kind: 2, Times: ints(1), Kids: []impl.Case{{}}},
		haveCase(given(0), end), haveCase(given(1), end), haveCase(given(0), other), haveCase(given(0), sumCase(1)), haveCase(given(0), sumCase(2)), haveCase(given(0), haveCase(given(0), end)), haveCase(given(0), haveCase(given(1), end)), haveCase(given(1), haveCase(given(0), end)), haveCase(given(0), haveCase(given(0), other)), {Kind: 3, Why: given(0), Kids: []impl.Case{end, end}}, {Kind: 3, Why: given(0)}, {Kind: 3, Why: given(0), N: 1, Kids: []impl.Case{end}},
	}
	for _, kids := range [][]impl.Case{{end, end, end}, {other, end, end}, {end, other, end}, {end, end, other}, {end, other, other}, {end, end}, {end, end, end, end}, {haveCase(given(0), end), end, end}, {end, haveCase(given(0), end), end}, {end, haveCase(given(0), other), end}, {end, end, partCase(x, y, end, end, end)}, {end, end, partCase(x, y, end, end, other)}, {end, partCase(x, y, end, end, end), end}} {
		list = append(list, partCase(x, y, kids...), partCase(y, x, kids...), partCase(x, x, kids...), partCase(app("h", x), y, kids...), partCase(x, app("h", y), kids...))
	}
	return list
}

func TestCaseSame(t *testing.T) {
	list := casesApart()
	for i, v := range list {
		for j, w := range list {
			if impl.CaseSame(v, copyCase(w)) != (i == j) {
				t.Errorf("CaseSame(%.200s, %.200s) is not %v", writeCase(v), writeCase(w), i == j)
			}
			if impl.CaseSame(v, w) != (i == j) {
				t.Errorf("in the same memory, CaseSame(%.200s, %.200s) is not %v", writeCase(v), writeCase(w), i == j)
			}
		}
	}
	empty := impl.Case{Kind: caseEq, Why: impl.Why{Rule: whyGiven, T: impl.Term{Kids: []impl.Term{}}, Kids: []impl.Why{}}, Times: []int{}, A: impl.Term{Kids: []impl.Term{}}, Kids: []impl.Case{}}
	if !impl.CaseSame(eqCase(0, given(0)), empty) || !impl.CaseSame(empty, eqCase(0, given(0))) || !impl.CaseSame(sumCase(1), sumCase(append(make([]int, 0, 5), 1)...)) {
		t.Error("no elements are the same as nil")
	}
	// What differs stands behind the end of a slice.
	times := ints(1, 2, 3)
	kids := []impl.Case{sumCase(1), sumCase(1), sumCase(1), sumCase(2)}
	part := func(from int, to int) impl.Case { return impl.Case{Kind: casePart, Kids: kids[from:to]} }
	for _, c := range []struct {
		v, w impl.Case
		same bool
	}{
		{sumCase(times[:1]...), sumCase(ints(1, 9)[:1]...), true}, {sumCase(times[:2]...), sumCase(times[:3]...), false}, {part(0, 2), part(1, 3), true}, {part(0, 2), part(0, 3), false}, {part(0, 3), part(1, 4), false}, {part(0, 2), part(2, 4), false}, {partCase(app("x"), app("y"), part(0, 1), part(0, 2)), partCase(app("x"), app("y"), part(1, 2), part(1, 3)), true}, {partCase(app("x"), app("y"), part(0, 1), part(0, 3)), partCase(app("x"), app("y"), part(1, 2), part(1, 4)), false},
	} {
		if impl.CaseSame(c.v, c.w) != c.same || impl.CaseSame(c.w, c.v) != c.same {
			t.Errorf("CaseSame(%s, %s) is not %v", writeCase(c.v), writeCase(c.w), c.same)
		}
	}
	s := numbers(8888)
	for _, c := range nested(1, 4) {
		for range 20 {
			other := copyCase(c)
			s.spoilCase(&other)
			if got := impl.CaseSame(c, other); got != (writeCase(c) == writeCase(other)) || got != impl.CaseSame(other, c) {
				t.Errorf("CaseSame(%s, %s) is %v", writeCase(c), writeCase(other), got)
			}
		}
	}
}

func TestCaseSameOfSharedMemory(t *testing.T) {
	end, other := eqCase(0, refl(app("a"))), eqCase(0, refl(app("b")))
	for _, levels := range []int{1, 2, 5, caseDeep, 30, 3000} {
		v, w, x, longer := caseBush(levels, end, 0, 1, 2), caseBush(levels, end, 0, 1, 2), caseBush(levels, other, 0, 1, 2), caseBush(levels+1, end, 0, 1, 2)
		if !impl.CaseSame(v, v) || !impl.CaseSame(v, w) || impl.CaseSame(v, x) || impl.CaseSame(v, longer) || impl.CaseSame(longer, v) {
			t.Errorf("conflicts of depth %d, each of which has the next one three times", levels)
		}
	}
	for _, levels := range []int{1, 1000, 20000} {
		for at := range 3 {
			v, w, x, longer := caseTower(end, levels, at, sumCase(1)), caseTower(end, levels, at, sumCase(1)), caseTower(other, levels, at, sumCase(1)), caseTower(end, levels+1, at, sumCase(1))
			if !impl.CaseSame(v, v) || !impl.CaseSame(v, w) || impl.CaseSame(v, x) || impl.CaseSame(v, longer) || impl.CaseSame(longer, v) {
				t.Errorf("conflicts of depth %d", levels)
			}
		}
	}
	again := impl.Case{Kind: casePart, A: app("x"), B: app("y")}
	for m := 1; m <= 5; m++ {
		for n := 1; n <= 5; n++ {
			v, w := caseRing(m, again), caseRing(n, again)
			if !impl.CaseSame(v, w) || !impl.CaseSame(partCase(app("x"), app("y"), v, w, v), w) || impl.CaseSame(v, partCase(app("x"), app("y"), w, w)) || impl.CaseSame(v, caseBush(n+1, end, 0, 1, 2)) {
				t.Errorf("rings of %d and %d levels", m, n)
			}
			if impl.CaseSame(caseRing(m, sumCase(1)), caseRing(n, sumCase(1))) != (m == n) || impl.CaseSame(caseRing(m, sumCase(1)), w) || impl.CaseSame(w, caseRing(m, sumCase(1))) {
				t.Errorf("rings of %d and %d levels with another conflict that comes once around", m, n)
			}
			if v, w := eqCase(0, whyRing(m, turned(given(0)))), eqCase(0, whyRing(n, turned(given(0)))); !impl.CaseSame(v, w) || impl.CaseSame(v, eqCase(0, whyRing(n, given(0)))) {
				t.Errorf("explanations that contain themselves after %d and %d levels", m, n)
			}
			if v, w := partCase(ring(m, "f"), ring(n, "f")), partCase(ring(n, "f"), ring(m, "f")); !impl.CaseSame(v, w) || impl.CaseSame(v, partCase(ring(n, "f"), ring(m, "g"))) || impl.CaseSame(partCase(ring(m, "g"), ring(n, "f")), v) {
				t.Errorf("terms that contain themselves after %d and %d levels", m, n)
			}
		}
	}
	for i, c := range endlessCases() {
		if !impl.CaseSame(c, c) || impl.CaseSame(c, impl.Case{}) || impl.CaseSame(c, haveCase(given(7), c)) || impl.CaseSame(haveCase(given(7), c), c) || !impl.CaseSame(haveCase(given(7), c), haveCase(given(7), c)) {
			t.Errorf("endless conflict %d", i)
		}
	}
	// A great explanation, and a great term, in a great many conflicts.
	many := func(w impl.Why, x impl.Term) impl.Case {
		return impl.Case{Kids: slices.Repeat([]impl.Case{{Why: w, A: x, B: x}}, 10000)}
	}
	v, w := many(whyBush(3000, given(0)), bush(3000, "a")), many(whyBush(3000, given(0)), bush(3000, "a"))
	if !impl.CaseSame(v, w) {
		t.Error("great explanations and terms are not the same in each place")
	}
	w.Kids[9999].Why = whyBush(3000, given(1))
	if impl.CaseSame(v, w) {
		t.Error("a great explanation that is another one in the last place")
	}
	w.Kids[9999].Why, w.Kids[9999].B = v.Kids[0].Why, bush(3000, "b")
	if impl.CaseSame(v, w) {
		t.Error("a great term that is another one in the last place")
	}
}

// caseCells notes each place in the memory of conflicts, also the unused ones; it reports whether one was noted before.
func caseCells(list []impl.Case, cases map[*impl.Case]bool, whys map[*impl.Why]bool, terms map[*impl.Term]bool, numbers map[*int]bool) bool {
	twice := false
	all := list[:cap(list)]
	for i := range all {
		twice = twice || cases[&all[i]]
		cases[&all[i]] = true
		twice = whyCells(all[i].Why.Kids, whys, terms) || twice
		twice = termCells(all[i].Why.T.Kids, terms) || twice
		twice = termCells(all[i].A.Kids, terms) || twice
		twice = termCells(all[i].B.Kids, terms) || twice
		times := all[i].Times[:cap(all[i].Times)]
		for j := range times {
			twice = twice || numbers[&times[j]]
			numbers[&times[j]] = true
		}
		twice = caseCells(all[i].Kids, cases, whys, terms, numbers) || twice
	}
	return twice
}

// TestBothMemory checks that each result is new memory at every level, and that nothing writes to an argument, also beyond its length.
func TestBothMemory(t *testing.T) {
	s := readSig(t, "a - 0\nb - 0\nh 0 1\nk 1 1\nt 1 0\nx - 1\ny - 1\n")
	// The literals share memory with one another, and the lists have room beyond their lengths.
	shared := []impl.Term{app("a"), app("b"), app("spare")}
	nums := []impl.Term{{Name: "h", Kids: shared[:1]}, {Name: "h", Kids: shared[1:2]}, app("spare")}
	times := []int{1, -1, 7}
	tests := [][]impl.Lit{
		{{Atom: eqOf(shared[0], shared[1])}, {Atom: below(sumOf(0, times[:2], nums[:2]...))}, {Atom: eqOf(nums[0], nums[1]), No: true}},
		{{Atom: eqOf(shared[0], shared[1])}, {Atom: below(sumOf(0, times[:2], nums[:2]...))}, {Atom: eqOf(nums[0], nums[0])}},
		{{Atom: sumOf(0, times[:2], nums[:2]...)}, {Atom: sumOf(0, times[1:2], nums[:1]...)}, {Atom: sumOf(0, times[:1], nums[1:2]...)}, {Atom: eqOf(app("t", nums[1]), app("t", nums[0])), No: true}, {Atom: sumOf(0, ints(-1, 1), nums[:2]...)}},
		{{Atom: sumOf(0, times[:2], nums[:2]...)}, {Atom: eqOf(app("t", nums[1]), app("t", nums[0])), No: true}, {Atom: eqOf(nums[1], nums[0])}, {Atom: eqOf(shared[0], shared[0])}},
		{{Atom: sumOf(0, times[:2], nums[:2]...)}, {Atom: eqOf(app("t", nums[1]), app("t", nums[0])), No: true}},
	}
	conflicts := []impl.Case{eqCase(2, cong("h", given(0))), haveCase(cong("h", given(0)), sumCase(1, 0, 0, 0, 1)), partCase(nums[1], nums[0], eqCase(3, cong("t", given(0))), sumCase(1, 0, 0, 0, 1), sumCase(0, 0, 0, 1, 1)), {}, {}}
	state := func() string {
		texts := termTexts(shared) + " / " + termTexts(nums) + " / " + writeInts(times) + " / " + impl.SigText(s)
		for i := range tests {
			texts += " / " + writeLits(tests[i]) + " / " + writeCase(conflicts[i])
		}
		return texts
	}
	before := state()
	terms, numbers := map[*impl.Term]bool{}, map[*int]bool{}
	cases, whys := map[*impl.Case]bool{}, map[*impl.Why]bool{}
	rows, vals := map[*impl.Row]bool{}, map[*impl.Rat]bool{}
	termCells(shared, terms)
	termCells(nums, terms)
	var texts []string
	for i, lits := range tests {
		for _, l := range lits {
			atomCells(l.Atom, terms, numbers)
		}
		for range 2 {
			m, c, code := impl.BothRun(s, lits)
			texts = append(texts, writeBoth(m, c, code))
			if modelCells(m, rows, vals) || caseCells([]impl.Case{c}, cases, whys, terms, numbers) {
				t.Errorf("BothRun of %s: %s shares memory", writeLits(lits), writeBoth(m, c, code))
			}
			if termCells(impl.BothNums(s, lits), terms) {
				t.Errorf("BothNums of %s shares memory", writeLits(lits))
			}
			for _, e := range impl.BothEqs(s, lits) {
				if termCells(e.A.Kids, terms) || termCells(e.B.Kids, terms) {
					t.Errorf("BothEqs of %s shares memory", writeLits(lits))
				}
			}
			for _, l := range impl.BothLins(s, lits) {
				if numbers[&l.Coefs[0]] {
					t.Errorf("BothLins of %s shares memory", writeLits(lits))
				}
				numbers[&l.Coefs[0]] = true
			}
			if !impl.BothOk(s, lits) || !impl.CaseSame(conflicts[i], conflicts[i]) || impl.CaseOk(s, lits, conflicts[i]) != (conflicts[i].Kind > 0) {
				t.Errorf("%s or %s", writeLits(lits), writeCase(conflicts[i]))
			}
		}
	}
	if state() != before {
		t.Errorf("an argument has changed from %s to %s", before, state())
	}
	for i, want := range []string{"no eq 2 h[#0]", "no have h[#0] [sum 1 0 0 0 1]", "no part h(a) h(b) [eq 3 t[~#0]] [sum 0 0 0 1 1] [sum 1 0 0 0 1]", "no eq 1 t[#0]", "yes"} {
		if texts[2*i] != texts[2*i+1] || !strings.HasPrefix(texts[2*i], want) {
			t.Errorf("BothRun of %s: %s, and again %s", writeLits(tests[i]), texts[2*i], texts[2*i+1])
		}
	}
}
