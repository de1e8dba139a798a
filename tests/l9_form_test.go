package tests

import (
	"maps"
	"regexp"
	"slices"
	"strconv"
	"strings"
	"testing"

	"loop.example/compurgator/impl"
)

// These repeat the document's numbers, so that wrong constants of impl fail too.
const (
	formLit    = 1
	formNot    = 2
	formAnd    = 3
	formOr     = 4
	formImp    = 5
	formIff    = 6
	formLimit  = 10
	formDeep   = 5
	atomsLimit = 6
)

func TestFormConstants(t *testing.T) {
	if impl.FormLit != formLit || impl.FormNot != formNot || impl.FormAnd != formAnd || impl.FormOr != formOr || impl.FormImp != formImp || impl.FormIff != formIff {
		t.Error(impl.FormLit, impl.FormNot, impl.FormAnd, impl.FormOr, impl.FormImp, impl.FormIff)
	}
	if impl.FormMost != formLimit || impl.FormDeep != formDeep || impl.AtomsMost != atomsLimit {
		t.Error(impl.FormMost, impl.FormDeep, impl.AtomsMost)
	}
}

// pairKinds are the kinds with two kids. For each, truths tells whether it is so: if none of them is, the second one, the first one, both.
var (
	pairKinds = []int{formAnd, formOr, formImp, formIff}
	truths    = map[int]string{formAnd: "0001", formOr: "0111", formImp: "1101", formIff: "1001"}
	signs     = map[int]string{formNot: "!", formAnd: "&", formOr: "|", formImp: ">", formIff: "~"}
)

// These write formulas shorter; they may be wrong ones.
func leaf(a impl.Atom) impl.Form { return impl.Form{Kind: formLit, Lit: impl.Lit{Atom: a}} }

func noLeaf(a impl.Atom) impl.Form {
	return impl.Form{Kind: formLit, Lit: impl.Lit{Atom: a, No: true}}
}

func formOf(kind int, kids ...impl.Form) impl.Form { return impl.Form{Kind: kind, Kids: kids} }

func not(p impl.Form) impl.Form { return formOf(formNot, p) }

// writeForm writes any formula with an end, without the function under test.
func writeForm(f impl.Form) string {
	if f.Kind == formLit {
		return "{" + writeLit(f.Lit) + "}"
	}
	var kids []string
	for _, kid := range f.Kids {
		kids = append(kids, writeForm(kid))
	}
	return signs[f.Kind] + "(" + strings.Join(kids, ",") + ")"
}

// equalForm compares field by field, without the function under test. The formulas have an end.
func equalForm(a impl.Form, b impl.Form) bool {
	return a.Kind == b.Kind && equalAtom(a.Lit.Atom, b.Lit.Atom) && a.Lit.No == b.Lit.No && slices.EqualFunc(a.Kids, b.Kids, equalForm)
}

func isZeroForm(f impl.Form) bool { return equalForm(f, impl.Form{}) }

// copyForm is a formula in other memory. It has an end.
func copyForm(f impl.Form) impl.Form {
	other := impl.Form{Kind: f.Kind, Lit: impl.Lit{Atom: copyAtom(f.Lit.Atom), No: f.Lit.No}}
	for _, kid := range f.Kids {
		other.Kids = append(other.Kids, copyForm(kid))
	}
	return other
}

// formSize and formLevels count the formulas in a formula with an end, and its depth.
func formSize(f impl.Form) int {
	size := 1
	for _, kid := range f.Kids {
		size += formSize(kid)
	}
	return size
}

func formLevels(f impl.Form) int {
	levels := 0
	for _, kid := range f.Kids {
		levels = max(levels, formLevels(kid))
	}
	return levels + 1
}

// hasFields reports whether each formula in a formula with an end has the fields of its kind.
func hasFields(f impl.Form) bool {
	kids := map[int]int{formLit: 0, formNot: 1, formAnd: 2, formOr: 2, formImp: 2, formIff: 2}
	if count, ok := kids[f.Kind]; !ok || len(f.Kids) != count {
		return false
	}
	if f.Kind == formLit && !isAtom(f.Lit.Atom) || f.Kind != formLit && !isZeroLit(f.Lit) {
		return false
	}
	return !slices.ContainsFunc(f.Kids, func(kid impl.Form) bool { return !hasFields(kid) })
}

// isForm is what the document says of a formula that is well-formed. It has an end.
func isForm(f impl.Form) bool {
	return hasFields(f) && formLevels(f) <= formDeep && formSize(f) <= formLimit && len(atomsIn(f, nil)) <= atomsLimit
}

// atomsIn is the given atoms and those of a formula, each where it comes first.
func atomsIn(f impl.Form, before []impl.Atom) []impl.Atom {
	if f.Kind == formLit && placeOf(before, f.Lit.Atom) < 0 {
		before = append(before, f.Lit.Atom)
	}
	for _, kid := range f.Kids {
		before = atomsIn(kid, before)
	}
	return before
}

func placeOf(list []impl.Atom, a impl.Atom) int {
	return slices.IndexFunc(list, func(b impl.Atom) bool { return equalAtom(a, b) })
}

// isSo is the truth value of a formula that is well-formed, by the table of the document.
func isSo(f impl.Form, atoms []impl.Atom, vals []bool) bool {
	at := 0
	for _, kid := range f.Kids {
		at *= 2
		if isSo(kid, atoms, vals) {
			at++
		}
	}
	switch f.Kind {
	case formLit:
		return vals[placeOf(atoms, f.Lit.Atom)] != f.Lit.No
	case formNot:
		return at == 0
	}
	return truths[f.Kind][at] == '1'
}

// allVals is all lists of so many truth values; the first value changes last.
func allVals(count int) [][]bool {
	list := [][]bool{nil}
	for range count {
		var longer [][]bool
		for _, vals := range list {
			longer = append(longer, append(slices.Clone(vals), false), append(slices.Clone(vals), true))
		}
		list = longer
	}
	return list
}

func litsOf(atoms []impl.Atom) []impl.Lit {
	var lits []impl.Lit
	for _, a := range atoms {
		lits = append(lits, impl.Lit{Atom: a})
	}
	return lits
}

func writeAtoms(list []impl.Atom) string { return writeLits(litsOf(list)) }

// checkForm checks what is so of a formula with an end under each signature: its text, its atoms and its truth values.
func checkForm(t *testing.T, f impl.Form) {
	t.Helper()
	if !isForm(f) {
		checkNoForm(t, "an invalid one", 0, f)
		return
	}
	text, atoms := writeForm(f), atomsIn(f, nil)
	if got := impl.FormText(f); got != text {
		t.Errorf("FormText of %s is %s", text, got)
	}
	if back, ok := impl.FormRead(text); !ok || !equalForm(back, f) {
		t.Errorf("FormRead(%q) = %v, %v; want %v", text, back, ok, f)
	}
	if got := impl.FormAtoms(f); !slices.EqualFunc(got, atoms, equalAtom) {
		t.Errorf("FormAtoms of %s is %s; want %s", text, writeAtoms(got), writeAtoms(atoms))
	}
	for _, vals := range allVals(len(atoms)) {
		if so, ok := impl.FormIs(f, vals); !ok || so != isSo(f, atoms, vals) {
			t.Errorf("FormIs(%s, %v) = %v, %v", text, vals, so, ok)
		}
	}
	for _, count := range []int{0, 1, 2, 3, 4, 5, 6, 7, 8, 100, len(atoms) + 1<<8} {
		for _, val := range []bool{false, true} {
			if so, ok := impl.FormIs(f, slices.Repeat([]bool{val}, count)); count != len(atoms) && (so || ok) {
				t.Errorf("FormIs of %s and %d truth values: %v, %v", text, count, so, ok)
			}
		}
	}
	if !impl.FormSame(f, f) || !impl.FormSame(f, copyForm(f)) {
		t.Errorf("%s is not the same as itself", text)
	}
}

// checkNoForm checks that no function takes a formula that is not well-formed, which may have no end.
func checkNoForm(t *testing.T, what string, i int, f impl.Form) {
	t.Helper()
	if text := impl.FormText(f); text != "" {
		t.Errorf("%s, %d, kind %d: FormText is %.100q; want the empty text", what, i, f.Kind, text)
	}
	if atoms := impl.FormAtoms(f); len(atoms) != 0 {
		t.Errorf("%s, %d, kind %d: FormAtoms is %d atoms; want none", what, i, f.Kind, len(atoms))
	}
	for count := range atomsLimit + 2 {
		for _, val := range []bool{false, true} {
			if so, ok := impl.FormIs(f, slices.Repeat([]bool{val}, count)); so || ok {
				t.Errorf("%s, %d, kind %d: FormIs of %d truth values is %v, %v", what, i, f.Kind, count, so, ok)
			}
		}
	}
	for _, text := range []string{"", "a - 0\nb - 0\nf 0 0\nx - 1\ny - 1\n", "a - 1\nb - 1\nx - 1\nzz 1 1\n"} {
		checkFormOk(t, readSig(t, text), f, false)
	}
}

// checkFormOk checks FormOk, and that FormModel takes no formula that it refuses.
func checkFormOk(t *testing.T, s impl.Sig, f impl.Form, want bool) {
	t.Helper()
	if got := impl.FormOk(s, f); got != want {
		t.Errorf("FormOk of a formula of kind %d with %d kids is %v; %.300q", f.Kind, len(f.Kids), got, impl.FormText(f))
	}
	for _, m := range []impl.Model{{}, modelOf(row("a", whole(1))), modelOf(impl.Row{})} {
		if so, ok := impl.FormModel(s, m, f); !want && (so || ok) {
			t.Errorf("FormModel of a formula of kind %d with %d kids is %v, %v; %.300q", f.Kind, len(f.Kids), so, ok, impl.FormText(f))
		}
	}
}

// readForm reads a formula that the test itself needs, and checks that it has that text.
func readForm(t *testing.T, text string) impl.Form {
	t.Helper()
	f, ok := impl.FormRead(text)
	if !ok || impl.FormText(f) != text || writeForm(f) != text || !isForm(f) {
		t.Fatalf("FormRead(%q) = %v, %v", text, f, ok)
	}
	return f
}

// sampleForms are well-formed formulas with their texts; some are at the limits.
func sampleForms() map[string]impl.Form {
	a, b, x, h := app("a"), app("b"), app("x"), app("h", app("a"))
	same, sum, other := eqOf(a, b), sumOf(2, ints(1), x), below(sumOf(3, ints(2, -1), h, x))
	p, q, r := leaf(same), leaf(sum), noLeaf(other)
	full := sampleTerms()["f(f(f(a,a),f(a,a)),f(f(a,a)))"]
	return map[string]impl.Form{
		"{a=b}":                             p,
		"{not a=b}":                         noLeaf(same),
		"{1*x <= 2}":                        q,
		"{not 2*h(a) -1*x < 3}":             r,
		"!({a=b})":                          not(p),
		"!({not a=b})":                      not(noLeaf(same)),
		"!(!({a=b}))":                       not(not(p)),
		"!(!(!(!({not 2*h(a) -1*x < 3}))))": not(not(not(not(r)))),
		"&({a=b},{1*x <= 2})":               formOf(formAnd, p, q),
		"|({a=b},{1*x <= 2})":               formOf(formOr, p, q),
		">({a=b},{1*x <= 2})":               formOf(formImp, p, q),
		"~({a=b},{1*x <= 2})":               formOf(formIff, p, q),
		"&({a=b},{a=b})":                    formOf(formAnd, p, p),
		"|({not a=b},{a=b})":                formOf(formOr, noLeaf(same), p),
		">(!({a=b}),&({1*x <= 2},{not 2*h(a) -1*x < 3}))":                            formOf(formImp, not(p), formOf(formAnd, q, r)),
		"&(&(&(&({a=b},{1*x <= 2}),{not 2*h(a) -1*x < 3}),{a=b}),{1*x <= 2})":        formOf(formAnd, formOf(formAnd, formOf(formAnd, formOf(formAnd, p, q), r), p), q),
		"|({a=b},|({1*x <= 2},|({not 2*h(a) -1*x < 3},|({a=b},{1*x <= 2}))))":        formOf(formOr, p, formOf(formOr, q, formOf(formOr, r, formOf(formOr, p, q)))),
		">(~(&({a=b},{1*x <= 2}),|({not 2*h(a) -1*x < 3},{a=b})),!({1*x <= 2}))":     formOf(formImp, formOf(formIff, formOf(formAnd, p, q), formOf(formOr, r, p)), not(q)),
		"!(~(&({a=b},{1*x <= 2}),>({not 2*h(a) -1*x < 3},!({a=b}))))":                not(formOf(formIff, formOf(formAnd, p, q), formOf(formImp, r, not(p)))),
		"&({f(f(f(a,a),f(a,a)),f(f(a,a)))=a},!({50*f(g(h(a))) -50*x < -1000}))":      formOf(formAnd, leaf(eqOf(full, a)), not(leaf(below(sumOf(-1000, ints(50, -50), app("f", app("g", h)), x))))),
		"~(!({1*a 1*b 1*h(a) 1*x <= 0}),{not -1*a -1*b -1*h(a) -1*x < 1000})":        formOf(formIff, not(leaf(sumOf(0, ints(1, 1, 1, 1), a, b, h, x))), noLeaf(below(sumOf(1000, ints(-1, -1, -1, -1), a, b, h, x)))),
		"|(|({a=b},{b=a}),|(|({a=a},{b=b}),!({1*x <= 2})))":                          formOf(formOr, formOf(formOr, p, leaf(eqOf(b, a))), formOf(formOr, formOf(formOr, leaf(eqOf(a, a)), leaf(eqOf(b, b))), not(q))),
		"&(&(!({a=b}),!({a=b})),!(&({a=b},{a=b})))":                                  formOf(formAnd, formOf(formAnd, not(p), not(p)), not(formOf(formAnd, p, p))),
		"~(>(&({a=b},{not a=b}),|({1*x <= 2},{1*x <= 2})),!({not 2*h(a) -1*x < 3}))": formOf(formIff, formOf(formImp, formOf(formAnd, p, noLeaf(same)), formOf(formOr, q, q)), not(r)),
		"&({2*h(a) -1*x < 3},&({2*h(a) -1*x < -3},&({2*h(b) -1*x < 3},{h(a)=x})))":   formOf(formAnd, leaf(other), formOf(formAnd, leaf(below(sumOf(-3, ints(2, -1), h, x))), formOf(formAnd, leaf(below(sumOf(3, ints(2, -1), app("h", b), x))), leaf(eqOf(h, x))))),
	}
}

func TestFormText(t *testing.T) {
	for text, f := range sampleForms() {
		if writeForm(f) != text || !isForm(f) || !isFormText(text) {
			t.Fatalf("the test's own %q is not the text of %v", text, f)
		}
		checkForm(t, f)
	}
}

// shapesOf is all formulas of at most so many levels whose ends are these. Written by kind, the kids stand in each order.
func shapesOf(levels int, ends []impl.Form) []impl.Form {
	if levels == 1 {
		return ends
	}
	lower := shapesOf(levels-1, ends)
	list := slices.Clone(ends)
	for _, p := range lower {
		list = append(list, not(p))
		for _, q := range lower {
			for _, kind := range pairKinds {
				list = append(list, formOf(kind, p, q))
			}
		}
	}
	return list
}

// TestFormOfEachShape has each kind at the top, within each other one and there in each place, with each combination of truth values.
func TestFormOfEachShape(t *testing.T) {
	p, q := eqOf(app("a"), app("b")), sumOf(2, ints(1), app("x"))
	count := 0
	for _, ends := range [][]impl.Form{{leaf(p), noLeaf(q)}, {leaf(p), noLeaf(p)}} {
		for _, f := range shapesOf(3, ends) {
			checkForm(t, f)
			count++
		}
	}
	if count != 2*(2+20+4*20*20) {
		t.Errorf("%d shapes", count)
	}
}

// TestFormIs has the truth values of a formula for the values of its atoms: the value of the first atom changes last.
func TestFormIs(t *testing.T) {
	for _, c := range [][2]string{
		{"{a=b}", "01"}, {"{not a=b}", "10"}, {"!({a=b})", "10"}, {"!({not a=b})", "01"}, {"!(!({a=b}))", "01"}, {"!(!({not a=b}))", "10"}, {"!(!(!({a=b})))", "10"}, {"!(!(!(!({a=b}))))", "01"}, {"!(!(!(!({not a=b}))))", "10"},
		// Each kind, with literals that are negated or not.
		{"&({a=b},{b=a})", "0001"}, {"&({not a=b},{b=a})", "0100"}, {"&({a=b},{not b=a})", "0010"}, {"&({not a=b},{not b=a})", "1000"}, {"|({a=b},{b=a})", "0111"}, {"|({not a=b},{b=a})", "1101"}, {"|({a=b},{not b=a})", "1011"}, {"|({not a=b},{not b=a})", "1110"},
		{">({a=b},{b=a})", "1101"}, {">({not a=b},{b=a})", "0111"}, {">({a=b},{not b=a})", "1110"}, {">({not a=b},{not b=a})", "1011"}, {"~({a=b},{b=a})", "1001"}, {"~({not a=b},{b=a})", "0110"}, {"~({a=b},{not b=a})", "0110"}, {"~({not a=b},{not b=a})", "1001"},
		// Under a FormNot, and above one.
		{"!(&({a=b},{b=a}))", "1110"}, {"!(|({a=b},{b=a}))", "1000"}, {"!(>({a=b},{b=a}))", "0010"}, {"!(~({a=b},{b=a}))", "0110"}, {"&(!({a=b}),{b=a})", "0100"}, {"|({a=b},!({b=a}))", "1011"}, {">(!({a=b}),{b=a})", "0111"}, {">({a=b},!({b=a}))", "1110"}, {"~(!({a=b}),{b=a})", "0110"}, {"~(!({a=b}),!({b=a}))", "1001"}, {"!(&(!({a=b}),!({not b=a})))", "1011"},
		// One atom more than once has one truth value.
		{"&({a=b},{a=b})", "01"}, {"&({a=b},{not a=b})", "00"}, {"|({not a=b},{a=b})", "11"}, {">({a=b},{a=b})", "11"}, {">({a=b},{not a=b})", "10"}, {">({not a=b},{a=b})", "01"}, {"~({a=b},{a=b})", "11"}, {"~({a=b},!({a=b}))", "00"}, {"&({a=b},&({b=a},{a=b}))", "0001"}, {"~({a=b},~({b=a},{a=b}))", "0101"}, {"~(~({a=b},{b=a}),{b=a})", "0011"}, {">({b=a},>({a=b},{b=a}))", "1111"}, {">(>({b=a},{a=b}),{b=a})", "0011"},
		// Three, where the order of the atoms and the nesting decide.
		{"&({a=b},|({b=a},{1*x < 0}))", "00000111"}, {"|(&({a=b},{b=a}),{1*x < 0})", "01010111"}, {">({a=b},>({b=a},{1*x < 0}))", "11111101"}, {">(>({a=b},{b=a}),{1*x < 0})", "01011101"}, {"~({a=b},>({b=a},{1*x < 0}))", "00101101"}, {">(~({a=b},{b=a}),{1*x < 0})", "01111101"}, {">(&({a=b},{not b=a}),|(!({1*x < 0}),{b=a}))", "11111011"}, {"&({1*x < 0},>({b=a},{a=b}))", "00001101"}, {"!(|({1*x < 0},~({b=a},!({1*x < 0}))))", "1000"},
		{"~(~({a=b},{b=a}),~({1*x < 0},{1*x <= 0}))", "1001011001101001"}, {"|(&({a=b},{b=a}),&({1*x < 0},{1*x <= 0}))", "0001000100011111"}, {">(>({a=b},{b=a}),>({1*x < 0},{1*x <= 0}))", "1101110111111101"}, {"&(|({a=b},{b=a}),!(~({1*x < 0},{1*x <= 0})))", "0000011001100110"},
	} {
		f := readForm(t, c[0])
		checkForm(t, f)
		got := ""
		for _, vals := range allVals(len(impl.FormAtoms(f))) {
			so, ok := impl.FormIs(f, vals)
			got += map[bool]string{false: "0", true: "1"}[so]
			if !ok {
				t.Errorf("FormIs of %s is not ok", c[0])
			}
		}
		if got != c[1] {
			t.Errorf("%s is so: %s; want %s", c[0], got, c[1])
		}
	}
}

func TestFormAtoms(t *testing.T) {
	for _, c := range [][2]string{
		{"{a=b}", "a=b"}, {"{not a=b}", "a=b"}, {"!({1*x < 0})", "1*x < 0"}, {"!(!({not 1*x < 0}))", "1*x < 0"},
		// Once, at the first place, negated or not.
		{"&({a=b},{a=b})", "a=b"}, {"&({a=b},{not a=b})", "a=b"}, {"&({not a=b},{a=b})", "a=b"}, {"|({not a=b},!({not a=b}))", "a=b"}, {"&({a=b},&({b=a},{a=b}))", "a=b; b=a"}, {"&({a=b},&({b=a},{not b=a}))", "a=b; b=a"}, {"&(&({a=b},{b=a}),{a=b})", "a=b; b=a"}, {"&(&({not b=a},{a=b}),{b=a})", "b=a; a=b"}, {"~(!({1*x < 0}),>({a=b},&({1*x < 0},{not a=b})))", "1*x < 0; a=b"}, {"&(|({a=b},{b=a}),|({b=a},{a=b}))", "a=b; b=a"},
		// From left to right, whatever their texts and kinds are.
		{"&({a=b},{b=a})", "a=b; b=a"}, {"&({b=a},{a=b})", "b=a; a=b"}, {">({1*x <= 0},{a=b})", "1*x <= 0; a=b"}, {"&({z=z},&({y=y},&({x=x},{a=a})))", "z=z; y=y; x=x; a=a"}, {"&(&(&({z=z},{y=y}),{x=x}),{a=a})", "z=z; y=y; x=x; a=a"}, {"&(&({z=z},{y=y}),&({x=x},{a=a}))", "z=z; y=y; x=x; a=a"}, {"&(&({z=z},&({y=y},{x=x})),{a=a})", "z=z; y=y; x=x; a=a"}, {"&({z=z},&(&({y=y},{x=x}),{a=a}))", "z=z; y=y; x=x; a=a"}, {"|(!({y=y}),&({x=x},!({a=a})))", "y=y; x=x; a=a"}, {"|(|({e=e},{d=d}),|(|({c=c},{b=b}),!({a=a})))", "e=e; d=d; c=c; b=b; a=a"},
		// Atoms that differ only in one field.
		{"&({a=b},{a=c})", "a=b; a=c"}, {"&({a=b},{c=b})", "a=b; c=b"}, {"&({a=a},&({a=aa},{a=a(a)}))", "a=a; a=aa; a=a(a)"}, {"&({1*x < 0},{1*x <= 0})", "1*x < 0; 1*x <= 0"}, {"&({1*x < 0},{1*x < 1})", "1*x < 0; 1*x < 1"}, {"&({1*x < 1},{1*x < -1})", "1*x < 1; 1*x < -1"}, {"&({1*x < 0},{2*x < 0})", "1*x < 0; 2*x < 0"}, {"&({1*x < 0},{-1*x < 0})", "1*x < 0; -1*x < 0"}, {"&({1*x < 0},{1*y < 0})", "1*x < 0; 1*y < 0"}, {"&({1*x < 0},{1*x 1*y < 0})", "1*x < 0; 1*x 1*y < 0"}, {"&({1*x 1*y < 0},{1*x 2*y < 0})", "1*x 1*y < 0; 1*x 2*y < 0"}, {"&({1*x 1*y < 0},{1*x 1*z < 0})", "1*x 1*y < 0; 1*x 1*z < 0"},
		{"&(&({1*f(a,b) < 0},{1*f(b,a) < 0}),&({1*f(a) < 0},{1*f(a(b)) < 0}))", "1*f(a,b) < 0; 1*f(b,a) < 0; 1*f(a) < 0; 1*f(a(b)) < 0"}, {"&(&({1*x 2*y <= 3},{1*x 2*y < 3}),&({1*x 2*y <= 30},{1*x 20*y <= 3}))", "1*x 2*y <= 3; 1*x 2*y < 3; 1*x 2*y <= 30; 1*x 20*y <= 3"}, {"|(|({a=b},{b=a}),|(|({not a=b},{not a=a}),{b=b}))", "a=b; b=a; a=a; b=b"},
	} {
		f := readForm(t, c[0])
		checkForm(t, f)
		if got := writeAtoms(impl.FormAtoms(f)); got != c[1] {
			t.Errorf("FormAtoms of %s: %s; want %s", c[0], got, c[1])
		}
	}
}

// TestFormAtomsApart takes each two of atoms that differ in a field.
func TestFormAtomsApart(t *testing.T) {
	var list []impl.Atom
	for _, a := range append(atomsApart(), slices.Collect(maps.Values(sampleAtoms()))...) {
		if isAtom(a) && placeOf(list, a) < 0 {
			list = append(list, a)
		}
	}
	for i, a := range list {
		for j, b := range list {
			f := formOf(formIff, leaf(a), noLeaf(copyAtom(b)))
			want := 2
			if i == j {
				want = 1
			}
			if got := impl.FormAtoms(f); len(got) != want || !equalAtom(got[0], a) || !equalAtom(got[want-1], b) {
				t.Errorf("FormAtoms of %s: %s", writeForm(f), writeAtoms(got))
			}
		}
	}
	if len(list) < 40 {
		t.Errorf("only %d atoms", len(list))
	}
}

var (
	leafShape = regexp.MustCompile(`\{[^{}]*\}`)
	restShape = regexp.MustCompile(`\A[&|>~!(),.]*\z`)
	partShape = regexp.MustCompile(`!\([0-9]\)|[&|>~]\([0-9],[0-9]\)`)
)

// isFormText is what the document says of the texts of formulas, without the functions under test: it puts its depth in the place of each formula, from the inside out.
func isFormText(text string) bool {
	atoms, right := map[string]bool{}, true
	if strings.Contains(text, ".") || len(text) > 100000 {
		return false
	}
	text = leafShape.ReplaceAllStringFunc(text, func(leaf string) string {
		atom := strings.TrimPrefix(leaf[1:len(leaf)-1], "not ")
		right = right && isAtomText(atom)
		atoms[atom] = true
		return "."
	})
	size := strings.Count(text, ".")
	if !right || size > formLimit || len(atoms) > atomsLimit || !restShape.MatchString(text) {
		return false
	}
	for text = strings.ReplaceAll(text, ".", "1"); partShape.MatchString(text); {
		text = partShape.ReplaceAllStringFunc(text, func(part string) string {
			size++
			levels := 0
			for i := range len(part) {
				if '1' <= part[i] && part[i] <= '9' {
					levels = max(levels, int(part[i]-'0'))
				}
			}
			return strconv.Itoa((levels + 1) % 10)
		})
	}
	return len(text) == 1 && '1' <= text[0] && text[0] <= '0'+formDeep && size <= formLimit
}

// checkFormRead checks what is read from any text.
func checkFormRead(t *testing.T, text string) {
	t.Helper()
	f, ok := impl.FormRead(text)
	if want := isFormText(text); ok != want {
		t.Errorf("FormRead(%.100q) = %.200v, %v; want %v", text, f, ok, want)
	}
	if ok && (impl.FormText(f) != text || writeForm(f) != text || !isForm(f)) || !ok && !isZeroForm(f) {
		t.Errorf("FormRead(%.100q) = %.200v, %v", text, f, ok)
	}
}

func TestFormReadRefuses(t *testing.T) {
	for _, text := range []string{
		// Nothing, or a literal without its braces, or with others.
		"", " ", "{", "}", "{}", "}{", "a=b", "{a=b", "a=b}", "{{a=b}}", "{{a=b}", "{a=b}}", "(a=b)", "({a=b})", "[a=b]", "{(a=b)}", "{a=b)", "(a=b}", "{a=b}{a=b}", "{a=b},{a=b}", "{a=b},", ",{a=b}", "{a=b}(", "{a=b})", "({a=b}", ")", "(", "()", ",", "(,)", "{a=b}.", "{a=b}{}", "{}{a=b}", "{not }", "{not}", "{ }",
		// A literal that is not exactly LitText.
		"{ a=b}", "{a=b }", "{a = b}", "{not  a=b}", "{nota=b}", "{not not a=b}", "{!a=b}", "{not {a=b}}", "not {a=b}", "{not}{a=b}", "{a}", "{a=}", "{=b}", "{a=b=c}", "{A=b}", "{1*x<= 0}", "{1*x <= 00}", "{0*x <= 0}", "{51*x <= 0}", "{1*x <= 1001}", "{1*y 1*x <= 0}", "{1*x 1*x <= 0}", "{f(f(f(f(a))))=a}", "{a=b,a=b}", "{a=b;a=b}", "{a=b\n}", "{\na=b}", "{a=b\x00}", "{\xffa=b}", "{{}", "{}}", "&({a=b},{a =b})", "&({A=b},{a=b})", "!({a=b=c})",
		// A sign too many, too few, or another one, or in another place.
		"!", "&", "!!", "!{a=b}", "!!({a=b})", "!(!{a=b})", "(!{a=b})", "({a=b})!", "{a=b}!", "{!a=b}", "-({a=b})", "not({a=b})", "not ({a=b})", "¬({a=b})", "!!({a=b},{a=b})", "({a=b},{a=b})", "{a=b}&{a=b}", "({a=b}&{a=b})", "&{a=b},{a=b}", "{a=b},{a=b}&", "&&({a=b},{a=b})", "&|({a=b},{a=b})", "^({a=b},{a=b})", "=({a=b},{a=b})", "<({a=b},{a=b})", "=>({a=b},{a=b})", "->({a=b},{a=b})", "<>({a=b},{a=b})", "||({a=b},{a=b})", "∧({a=b},{a=b})", "+({a=b},{a=b})", "*({a=b},{a=b})", "a({a=b},{a=b})", "1({a=b},{a=b})", "\x01({a=b},{a=b})", "\x00({a=b})", "{({a=b},{a=b})", "}({a=b},{a=b})", ",({a=b},{a=b})", ")({a=b},{a=b})", "(({a=b},{a=b})", "%({a=b},{a=b})", "'({a=b},{a=b})", "?({a=b},{a=b})", "}({a=b})", " ({a=b})", "\"({a=b})",
		// Kids too many or too few, for each kind.
		"!()", "!({a=b},{a=b})", "!({a=b},)", "!(,{a=b})", "!(,)", "!({a=b}{a=b})", "&()", "&(,)", "&({a=b})", "&({a=b},)", "&(,{a=b})", "&({a=b},{a=b},{a=b})", "&({a=b},{a=b},)", "&(,{a=b},{a=b})", "&({a=b},,{a=b})", "&({a=b}{a=b})", "&({a=b}{a=b},{a=b})", "|({a=b})", "|({a=b},{a=b},{a=b})", ">({a=b})", ">({a=b},{a=b},{a=b})", "~({a=b})", "~({a=b},{a=b},{a=b})", "~()", ">()", "|()", "{a=b}()", "{a=b}({a=b})", "{a=b}({a=b},{a=b})", "{a=b,{a=b}}", "{a=b({a=b})}",
		// A bracket or a comma too many, too few, or in another place.
		"!({a=b}", "!{a=b})", "!({a=b}))", "!(({a=b}))", "!(({a=b})", "(!({a=b}))", "!({a=b})(", "!({a=b})()", "!)({a=b}(", "!){a=b}(", "!({a=b)}", "!{(a=b})", "!{(a=b)}", "!,({a=b})", "!(,{a=b})", "!({a=b},)", "!({a=b}),", ",!({a=b})", "&({a=b},{a=b}", "&{a=b},{a=b})", "&(({a=b},{a=b})", "&({a=b},{a=b}))", "&({a=b}),{a=b}", "&({a=b}),({a=b})", "&({a=b})({a=b})", "&({a=b}({a=b}))", "&,({a=b}{a=b})", "&({a=b};{a=b})", "&({a=b}.{a=b})", "&({a=b}&{a=b})", "&({a=b})&({a=b})", "&[{a=b},{a=b}]", "&{{a=b},{a=b}}", "&<{a=b},{a=b}>", "&({a=b},({a=b}))", "&({a=b},{a=b)}", "&({a=b,{a=b}})", "&({a=b},{a=b},", "&({a=b},", "&({a=b}", "&(", "&({a=b},!({a=b})", "&({a=b},!({a=b}))) ", "&(!({a=b},{a=b}))", "!(&({a=b}),{a=b})", "&(&({a=b},{a=b}),{a=b},{a=b})", "&(&({a=b},{a=b},{a=b}),{a=b})", "&(&({a=b}),{a=b})", "&({a=b},&({a=b}))", "&({a=b},&({a=b},{a=b},{a=b}))",
		// Spaces, and what is no part of a text.
		" {a=b}", "{a=b} ", "{a=b}\n", "\n{a=b}", "! ({a=b})", "!( {a=b})", "!({a=b} )", "& ({a=b},{a=b})", "&({a=b}, {a=b})", "&({a=b} ,{a=b})", "&({a=b},{a=b}) ", "&({a=b},\n{a=b})", "&({a=b},\t{a=b})", "!({a=b})\n", "!\x00({a=b})", "!({a=b})\x00", "\x00!({a=b})", "\xff", "\xff{a=b}", "{a=b}\xff", "!\xff({a=b})", "!(\xff{a=b})", "&({a=b}\xff{a=b})", "！({a=b})", "&（{a=b},{a=b}）", "&({a=b}，{a=b})", "｛a=b｝", "\ufeff{a=b}",
		// Text after the end.
		"{a=b}a", "{a=b}a=b", "!({a=b})!({a=b})", "!({a=b})!", "!({a=b}){a=b}", "{a=b}!({a=b})", "&({a=b},{a=b})&({a=b},{a=b})", "&({a=b},{a=b})&", "&({a=b},{a=b}){a=b}", "&({a=b},{a=b}),{a=b}", "&({a=b},{a=b}))", "{a=b}|{a=b}", "{a=b}&", "!({a=b})#", "{a=b}{", "{a=b}{a", "!({a=b}){", "!({a=b})}",
		// Too deep, or too many.
		"!(!(!(!(!({a=b})))))", "!(!(!(!(!(!({a=b}))))))", "&({a=b},&({a=b},&({a=b},&({a=b},!({a=b})))))", "&(&(&(&(!({a=b}),{a=b}),{a=b}),{a=b}),{a=b})", "&(&(&({a=b},{a=b}),&({a=b},{a=b})),&({a=b},{a=b}))", "&(&(&({a=b},{a=b}),&({a=b},{a=b})),!(!({a=b})))", "!(&(&(&({a=b},{a=b}),&({a=b},{a=b})),!({a=b})))", "&(&(&({a=b},{b=a}),&({a=a},{b=b})),&({c=c},{d=d}))", "&(&(&({a=b},{b=a}),&({a=a},{b=b})),&(&({c=c},{d=d}),{e=e}))",
		// Long ones.
		strings.Repeat("!", 1000000), strings.Repeat("!(", 1000000), strings.Repeat("!(", 1000000) + "{a=b}" + strings.Repeat(")", 1000000), strings.Repeat("(", 1000000), strings.Repeat(")", 1000000), strings.Repeat(",", 1000000), strings.Repeat("{", 1000000), strings.Repeat("}", 1000000), strings.Repeat("{}", 1000000), strings.Repeat("{a=b}", 300000), strings.Repeat("{a=b},", 300000), strings.Repeat("&({a=b},", 300000), "&(" + strings.Repeat("{a=b},", 300000) + "{a=b})", "{a=b}" + strings.Repeat(" ", 1000000), "{a=b}" + strings.Repeat("\x00", 1000000), "{a=b}" + strings.Repeat("(", 1000000), "!({a=b})" + strings.Repeat(")", 1000000), "{" + strings.Repeat("not ", 100000) + "a=b}", "{a=" + strings.Repeat("f(", 100000) + "a}", "{" + strings.Repeat("1*x ", 100000) + "<= 0}", "{" + strings.Repeat("a", 1000000), "{a=b}{" + strings.Repeat("{", 1000000) + "}", strings.Repeat("(,", 500000) + "{a=b}", "!({a=b}" + strings.Repeat(",", 1000000) + ")",
	} {
		if isFormText(text) {
			t.Errorf("%.40q is the text of a formula", text)
		}
		checkFormRead(t, text)
	}
}

// TestFormReadTakesJustTheTexts tries the texts that differ from a right one by a byte or two.
func TestFormReadTakesJustTheTexts(t *testing.T) {
	const some = "!&|>~(){},ab=not 1*<\n\x00"
	for text := range sampleForms() {
		for _, changed := range changedBytes(text, some) {
			checkFormRead(t, changed)
		}
	}
	for _, text := range []string{"{a=b}", "{not a=b}", "!({a=b})", "~({a=b},{a=b})"} {
		for _, changed := range changedBytes(text, everyByte()) {
			checkFormRead(t, changed)
		}
	}
	for _, text := range []string{"", "{a=b}", "!({a=b})", "&({a=b},{a=b})"} {
		for _, changed := range changedBytes(text, "!&({a=b}),") {
			for _, twice := range changedBytes(changed, "!|(){},") {
				checkFormRead(t, twice)
			}
		}
	}
}

// badForms break one condition of a well-formed formula, or more. They have an end.
func badForms() []impl.Form {
	same, sum := eqOf(app("a"), app("b")), sumOf(2, ints(1), app("x"))
	p, q := leaf(same), noLeaf(sum)
	list := []impl.Form{{}, {Lit: p.Lit}, {Lit: impl.Lit{No: true}}, {Kids: []impl.Form{p}}, {Kids: []impl.Form{p, q}}, {Lit: p.Lit, Kids: []impl.Form{p, q}}}
	// A kind that is none, with the fields of each kind.
	for _, kind := range append(strangeInts(), -6, -2, -1, 0, 7, 8, 255, 256, 257, 258, 259, 260, 261, 262) {
		list = append(list, impl.Form{Kind: kind}, impl.Form{Kind: kind, Lit: p.Lit}, impl.Form{Kind: kind, Lit: q.Lit}, formOf(kind, p), formOf(kind, p, q), formOf(kind, p, p, p))
	}
	// Kids too many or too few.
	for _, kind := range append(pairKinds, formLit, formNot) {
		for _, count := range []int{0, 1, 2, 3, 4, 257, 258, 1000} {
			f := formOf(kind, slices.Repeat([]impl.Form{p}, count)...)
			if kind == formLit {
				f.Lit = p.Lit
			}
			if !isForm(f) {
				list = append(list, f)
			}
		}
	}
	// A literal where none stands.
	for _, kind := range append(pairKinds, formNot) {
		good := formOf(kind, p, q)
		if kind == formNot {
			good = not(p)
		}
		for _, l := range []impl.Lit{p.Lit, q.Lit, {No: true}, {Atom: impl.Atom{Kind: 1}}, {Atom: impl.Atom{Kind: -1}}, {Atom: impl.Atom{Bound: 1}}, {Atom: impl.Atom{Bound: -1}}, {Atom: impl.Atom{Strict: true}}, {Atom: impl.Atom{A: app("a")}}, {Atom: impl.Atom{B: app("a")}}, {Atom: impl.Atom{A: impl.Term{Kids: make([]impl.Term, 1)}}}, {Atom: impl.Atom{B: impl.Term{Kids: make([]impl.Term, 1)}}}, {Atom: impl.Atom{Nums: make([]impl.Term, 1)}}, {Atom: impl.Atom{Nums: []impl.Term{app("x")}}}, {Atom: impl.Atom{Times: ints(0)}}, {Atom: impl.Atom{Times: ints(1)}}} {
			f := good
			f.Lit = l
			list = append(list, f)
		}
	}
	for _, a := range badAtoms() {
		list = append(list, leaf(a), noLeaf(a))
	}
	return list
}

// formsWith are formulas that have another one in each place, beside others that are well-formed; the limits are far.
func formsWith(f impl.Form) []impl.Form {
	p, q := leaf(eqOf(app("a"), app("b"))), noLeaf(sumOf(2, ints(1), app("x")))
	list := []impl.Form{not(f), not(not(f)), formOf(formAnd, not(f), p)}
	for _, kind := range pairKinds {
		list = append(list, formOf(kind, f, p), formOf(kind, p, f), formOf(kind, f, f), formOf(kind, formOf(formOr, q, f), p), formOf(kind, p, formOf(formIff, f, q)))
	}
	return list
}

func TestFormRefuses(t *testing.T) {
	bad, atoms := badForms(), 2*len(badAtoms())
	for i, f := range bad {
		if isForm(f) {
			t.Fatalf("the test's own %v is well-formed", f)
		}
		checkNoForm(t, "bad", i, f)
	}
	for _, f := range []impl.Form{leaf(eqOf(app("a"), app("b"))), noLeaf(sumOf(2, ints(1), app("x")))} {
		for _, g := range formsWith(f) {
			checkForm(t, g)
			if !isForm(g) {
				t.Errorf("%s is not well-formed", writeForm(g))
			}
		}
	}
	for i, f := range bad {
		// Of the atoms, that are many and were tried in each place of an atom, some will do.
		if i < len(bad)-atoms || i%41 == 0 {
			for _, g := range formsWith(f) {
				checkNoForm(t, "a formula with a bad one", i, g)
			}
		}
	}
}

// These have no end or seem to have none: a formula within so many FormNot, one that has the next lower one in both places, and one that contains itself so many levels deeper.
func formTower(f impl.Form, levels int) impl.Form {
	for range levels {
		f = not(f)
	}
	return f
}

func formBush(levels int, end impl.Form) impl.Form {
	f := end
	for range levels - 1 {
		f = formOf(formAnd, f, f)
	}
	return f
}

func formRing(levels int, last impl.Form) impl.Form {
	lists := make([][]impl.Form, levels)
	for i := range lists {
		lists[i] = make([]impl.Form, 2)
	}
	for i := range lists {
		for at := range lists[i] {
			lists[i][at] = formOf(formAnd, lists[(i+1)%levels]...)
		}
	}
	last.Kids = lists[0][0].Kids
	lists[0][0] = last
	return lists[levels-1][0]
}

// endlessForms are not well-formed, and have no end or seem to have none.
func endlessForms() []impl.Form {
	p := leaf(eqOf(app("a"), app("b")))
	alone := make([]impl.Form, 1)
	alone[0] = not(impl.Form{})
	alone[0].Kids = alone
	mixed := make([]impl.Form, 2)
	mixed[0], mixed[1] = p, formOf(formOr, mixed...)
	mixed[1].Kids = mixed
	turned := make([]impl.Form, 2)
	turned[0], turned[1] = formOf(formOr), p
	turned[0].Kids = turned
	tangle := make([]impl.Form, 50)
	for i := range tangle {
		tangle[i] = impl.Form{Kind: i % 7, Kids: tangle[i/2:]}
	}
	list := []impl.Form{
		alone[0], not(alone[0]), formOf(formAnd, alone[0], p), formOf(formAnd, p, alone[0]), mixed[1], turned[0], formOf(formIff, mixed...), formOf(formIff, turned...), tangle[0], tangle[49], formOf(formNot, tangle[:1]...), formOf(formAnd, tangle[:2]...), {Kind: formLit, Lit: p.Lit, Kids: alone}, {Kind: formLit, Lit: p.Lit, Kids: mixed},
		formRing(1, formOf(formAnd)), formRing(2, formOf(formAnd)), formRing(3, formOf(formOr)), formRing(2, impl.Form{}), formRing(5, not(p)), formBush(5, p), formBush(6, p), formBush(80, p), formBush(3000, p), formTower(p, 5), formTower(p, 100), formTower(p, 100000), formTower(alone[0], 3),
	}
	for i, a := range endlessAtoms() {
		list = append(list, leaf(a), not(noLeaf(a)), formOf(formAnd, p, leaf(a)), formOf(formOr, leaf(a), p))
		f := formOf(pairKinds[i%len(pairKinds)], p, p)
		f.Lit.Atom = a
		list = append(list, f)
	}
	return list
}

func TestFormRefusesEndless(t *testing.T) {
	for i, f := range endlessForms() {
		checkNoForm(t, "endless", i, f)
	}
}

// TestFormOfSharedMemory has formulas in one place in memory that stand in many places of a formula, which is well-formed as long as it is small.
func TestFormOfSharedMemory(t *testing.T) {
	kids := []impl.Form{leaf(eqOf(app("a"), app("b"))), noLeaf(sumOf(2, ints(1), app("x"))), leaf(eqOf(app("b"), app("a")))}
	inner := []impl.Form{formOf(formAnd, kids[:2]...), formOf(formImp, kids[1:]...), not(kids[2])}
	for _, f := range []impl.Form{formOf(formOr, inner[:2]...), formOf(formIff, inner[1:]...), formOf(formAnd, not(inner[0]), inner[0]), formOf(formAnd, formOf(formIff, kids[:2]...), formOf(formIff, kids[:2]...)), formBush(3, kids[0]), formBush(3, kids[1]), formOf(formNot, inner[:1]...), formOf(formNot, formOf(formNot, inner[1:2]...)), formOf(formOr, inner...), formBush(4, kids[0]), formBush(3, not(kids[0])), formBush(2, not(formBush(2, kids[0])))} {
		checkForm(t, f)
		if !equalForm(f, copyForm(f)) {
			t.Errorf("%s is not the same as a copy", writeForm(f))
		}
	}
}

// TestFormLimits has formulas as deep and as great as they may be, and one past that.
func TestFormLimits(t *testing.T) {
	var ends []impl.Form
	for _, name := range []string{"a", "b", "c", "d", "e", "f", "g", "h"} {
		ends = append(ends, leaf(eqOf(app(name), app("x"))))
	}
	p := ends[0]
	for levels := range formDeep + 4 {
		// The depth is that of the deepest kid, whichever it is.
		for _, f := range []impl.Form{formTower(p, levels), formOf(formAnd, p, formTower(p, levels-1)), formOf(formAnd, formTower(p, levels-1), p), formOf(formIff, formTower(p, levels-1), not(not(p))), formOf(formImp, not(not(p)), formTower(p, levels-1))} {
			want := formLevels(f) <= formDeep && formSize(f) <= formLimit
			if _, ok := impl.FormRead(writeForm(f)); ok != want || isForm(f) != want {
				t.Errorf("%s is well-formed: %v", writeForm(f), ok)
			}
			checkForm(t, f)
		}
		checkFormRead(t, strings.Repeat("!(", levels)+"{a=b}"+strings.Repeat(")", levels))
		checkFormRead(t, strings.Repeat("&({a=b},", levels)+"{a=b}"+strings.Repeat(")", levels))
		checkFormRead(t, strings.Repeat("&(", levels)+"{a=b}"+strings.Repeat(",{a=b})", levels))
	}
	sizes, atoms := map[int]int{}, map[int]int{}
	s := numbers(99)
	for range 4000 {
		// A list of ends is joined to one formula, which has more and more formulas.
		list := slices.Clone(ends[:1+s.below(len(ends))])
		for len(list) > 1 {
			i := s.below(len(list) - 1)
			list[i] = formOf(pairKinds[s.below(4)], list[i], list[i+1])
			list = slices.Delete(list, i+1, i+2)
			if s.below(5) == 0 {
				list[i] = not(list[i])
			}
		}
		f := list[0]
		checkForm(t, f)
		checkFormRead(t, writeForm(f))
		if formLevels(f) <= formDeep {
			sizes[formSize(f)]++
			atoms[len(atomsIn(f, nil))]++
		}
	}
	for _, size := range []int{formLimit - 1, formLimit, formLimit + 1, formLimit + 2, formLimit + 3} {
		if sizes[size] < 20 {
			t.Errorf("the sizes miss a case: %v", sizes)
		}
	}
	// As a formula with six atoms has at least eleven formulas, that limit is never met.
	for _, count := range []int{1, 2, 3, 4, 5, 6, 7, 8} {
		if atoms[count] < 20 {
			t.Errorf("the numbers of atoms miss a case: %v", atoms)
		}
	}
}

// formSig declares things and numbers for formulas.
const formSig = "a - 0\nb - 0\nf 0 0\nh 0 1\nw - 1\nx - 1\ny - 1\n"

func TestFormOk(t *testing.T) {
	for _, c := range []struct {
		sig, text string
		want      bool
	}{
		{formSig, "{a=b}", true}, {formSig, "{not a=b}", true}, {formSig, "{1*h(a) -2*x <= 5}", true}, {formSig, "&({a=b},!({1*x < 0}))", true}, {formSig, ">(~({a=f(a)},{not x=h(b)}),!({1*h(a) 1*x < 0}))", true}, {"a - 1\nb - 1\n", "{a=b}", true}, {"a - 1\nb - 1\n", "{1*a 1*b < 0}", true},
		// Atoms that are not valid, in each place.
		{"", "{a=b}", false}, {"a - 0\n", "{a=b}", false}, {"b - 0\n", "{a=b}", false}, {"a - 0\nb - 1\n", "{a=b}", false}, {"a - 0\n", "{1*a < 0}", false}, {formSig, "{a=x}", false}, {formSig, "{x=a}", false}, {formSig, "{1*a <= 0}", false}, {formSig, "{z=z}", false}, {formSig, "{h(x)=x}", false}, {formSig, "!({a=x})", false}, {formSig, "!({not a=x})", false}, {formSig, "&({a=x},{a=b})", false}, {formSig, "|({a=b},{a=x})", false}, {formSig, ">({a=b},!({a=x}))", false}, {formSig, "~(|({a=b},{x=a}),{a=b})", false}, {formSig, "|({a=b},|({not a=b},|({a=b},{1*a < 0})))", false}, {formSig, "&({a=b},{1*f(a) < 0})", false},
		// Numbers, also where each atom alone has less.
		{formSig, "{1*h(a) 1*w 1*x 1*y <= 0}", true}, {formSig, "&({1*h(a) 1*w <= 0},{1*x 1*y < 0})", true}, {formSig, "&({1*h(a) 1*w <= 0},&({1*x 1*y < 0},{not h(a)=y}))", true}, {formSig, "&({1*h(a) 1*w <= 0},&({1*x 1*y < 0},{not h(b)=y}))", false}, {formSig, "&(&({x=y},{w=w}),&({h(a)=h(a)},!({x=h(a)})))", true}, {formSig, "&(&({x=y},{w=w}),&({h(a)=h(a)},!({h(b)=x})))", false}, {formSig, "|({1*h(a) 1*h(b) 1*h(f(a)) 1*x <= 0},{a=b})", true}, {formSig, "|({1*h(a) 1*h(b) 1*h(f(a)) 1*x <= 0},{h(f(b))=h(f(b))})", false}, {formSig, "|({1*h(a) 1*h(b) 1*h(f(a)) 1*x <= 0},{not x=w})", false},
		// Terms: as many as there may be, and one more.
		{twentyFourSig, "&({f(f(f(a)))=f(f(f(b)))},&({h(h(h(a)))=h(h(h(b)))},&({i(i(i(a)))=i(i(i(b)))},&({not f(h(a))=f(h(b))},{c=c}))))", true}, {twentyFourSig, "&({f(f(f(a)))=f(f(f(b)))},&({h(h(h(a)))=h(h(h(b)))},&({i(i(i(a)))=i(i(i(b)))},&({not f(h(a))=f(h(b))},{h(f(a))=h(f(b))}))))", true}, {twentyFourSig, "&({f(f(f(a)))=f(f(f(b)))},&({h(h(h(a)))=h(h(h(b)))},&({i(i(i(a)))=i(i(i(b)))},&({not f(h(a))=f(h(b))},{not h(f(a))=h(f(b))}))))", true}, {twentyFourSig, "&({f(f(f(a)))=f(f(f(b)))},&({h(h(h(a)))=h(h(h(b)))},&({i(i(i(a)))=i(i(i(b)))},&({not f(h(a))=f(h(b))},{h(f(a))=c}))))", true}, {twentyFourSig, "&({f(f(f(a)))=f(f(f(b)))},&({h(h(h(a)))=h(h(h(b)))},&({i(i(i(a)))=i(i(i(b)))},&({not f(h(a))=f(h(b))},{f(h(a))=h(c)}))))", true}, {twentyFourSig, "&({f(f(f(a)))=f(f(f(b)))},&({h(h(h(a)))=h(h(h(b)))},&({i(i(i(a)))=i(i(i(b)))},&({not f(h(a))=f(h(b))},{h(f(a))=f(c)}))))", false}, {twentyFourSig, "&({f(f(f(a)))=f(f(f(b)))},&({h(h(h(a)))=h(h(h(b)))},&({i(i(i(a)))=i(i(i(b)))},&({not f(h(a))=f(h(b))},{not h(f(a))=f(c)}))))", false}, {twentyFourSig, "&({f(f(f(a)))=f(f(f(b)))},&({h(h(h(a)))=h(h(h(b)))},&({i(i(i(a)))=i(i(i(b)))},&({not f(h(a))=f(h(b))},{i(c)=i(i(c))}))))", false}, {twentyFourSig, "&({f(f(f(a)))=f(f(f(b)))},&({h(h(h(a)))=h(h(h(b)))},&({i(i(i(a)))=i(i(i(b)))},&({not f(h(a))=f(h(b))},{not h(i(a))=i(h(f(b)))}))))", false},
	} {
		s, f := readSig(t, c.sig), readForm(t, c.text)
		if isBoth(s, litsOf(atomsIn(f, nil))) != c.want {
			t.Errorf("the test's own %s is valid: %v; %d terms", c.text, !c.want, len(termsIn(litsOf(atomsIn(f, nil)))))
		}
		checkFormOk(t, s, f, c.want)
		checkFormIn(t, s, impl.Model{}, f)
	}
	for _, s := range append(invalidSigs(), sigOf(sym("a", 0), sym("b", 2)), sigOf(sym("a", 0), sym("c", 0), sym("b", 0)), sigOf(sym("a", 0), sym("b", 0, 0, 0, 0)), sigOf(sym("a", 0), sym("a", 0)), sigOf(sym("A", 0), sym("a", 0), sym("b", 0))) {
		for _, text := range []string{"{a=a}", "{a=b}", "!({not a=a})", "&({a=a},{a=a})"} {
			checkFormOk(t, s, readForm(t, text), false)
		}
		for _, y := range s.Syms {
			checkFormOk(t, s, leaf(eqOf(app(y.Name), app(y.Name))), false)
		}
	}
}

// checkFormIn checks FormModel of a formula that is well-formed, by the words of the document.
func checkFormIn(t *testing.T, s impl.Sig, m impl.Model, f impl.Form) (bool, bool) {
	t.Helper()
	atoms := atomsIn(f, nil)
	want, wantOk := false, isModel(s, m) && isBoth(s, litsOf(atoms))
	var vals []bool
	for _, l := range litsOf(atoms) {
		if wantOk {
			so, ok := truthIn(m, l)
			vals, wantOk = append(vals, so), ok
		}
	}
	if wantOk {
		want = isSo(f, atoms, vals)
	}
	if so, ok := impl.FormModel(s, m, f); so != want || ok != wantOk {
		t.Errorf("in %q, FormModel of %s is %v, %v; want %v, %v", writeModel(m), writeForm(f), so, ok, want, wantOk)
	}
	return want, wantOk
}

func TestFormModel(t *testing.T) {
	const rows = "a = 1\nb = 2\nf 1 = 2\nh 1 = 1/2\nx = -1/3\ny = 1000000000\n"
	for _, c := range []struct {
		rows, text string
		so, ok     bool
	}{
		{"", "{a=b}", true, true}, {"", "{not a=b}", false, true}, {rows, "{a=b}", false, true}, {rows, "{not a=b}", true, true}, {rows, "!({not a=b})", false, true}, {rows, "!(!({not a=b}))", true, true}, {rows, "&({f(a)=b},{3*x <= -1})", true, true}, {rows, "&({f(a)=b},{3*x < -1})", false, true}, {rows, "|({a=b},{2*h(a) 3*x <= 0})", true, true}, {rows, "|({a=b},{2*h(a) 3*x < 0})", false, true},
		{rows, ">({a=b},{x=h(a)})", true, true}, {rows, ">({f(a)=b},{x=h(a)})", false, true}, {rows, ">({f(a)=b},{not x=h(a)})", true, true}, {rows, "~({a=b},{x=h(a)})", true, true}, {rows, "~({a=b},{not x=h(a)})", false, true}, {rows, "~({f(a)=b},!({x=h(a)}))", true, true}, {rows, ">(&({not a=b},{f(a)=b}),~({a=b},!({1*x < 0})))", true, true},
		// An atom without a truth value, also where another one decides.
		{rows, "{2*y <= 0}", false, false}, {rows, "{not 2*y <= 0}", false, false}, {rows, "!({2*y <= 0})", false, false}, {rows, "!({not 2*y <= 0})", false, false}, {rows, "{1*y <= 0}", false, true}, {rows, "{not 1*y <= 0}", true, true}, {rows, "{1*x 1*y < 0}", false, false}, {rows, "{-1*x 1*y < 0}", false, false}, {rows, "{1*w 1*y < 0}", false, true},
		{rows, "&({a=b},{2*y <= 0})", false, false}, {rows, "&({2*y <= 0},{a=b})", false, false}, {rows, "|({a=a},{2*y <= 0})", false, false}, {rows, "|({2*y <= 0},{a=a})", false, false}, {rows, ">({a=b},{2*y <= 0})", false, false}, {rows, ">({2*y <= 0},{a=a})", false, false}, {rows, "~({2*y <= 0},{2*y <= 0})", false, false}, {rows, "~({a=b},{2*y <= 0})", false, false}, {rows, "|({a=a},&({a=b},!({not 2*y <= 0})))", false, false}, {rows, "|({a=a},&({a=b},!({not 1*y <= 0})))", true, true}, {rows, "|({2*y <= 0},{not 2*y <= 0})", false, false}, {rows, "&(|({a=a},{a=b}),|({a=a},{1*x 1*y < 0}))", false, false},
		// A model that is not valid under the signature.
		{"c = 1\n", "{a=b}", false, false}, {"a = 1/2\n", "{a=b}", false, false}, {"a 1 = 1\n", "{a=b}", false, false}, {"h 1/2 = 1\n", "{a=b}", false, false}, {"h 1/2 = 1\n", "|({a=a},{a=b})", false, false}, {"h 1 = 1/2\n", "{a=b}", true, true}, {"w = 1/2\n", "{1*w <= 0}", false, true}, {"z = 1/2\n", "{1*w <= 0}", false, false},
	} {
		s, m, f := readSig(t, formSig), readModel(t, c.rows), readForm(t, c.text)
		if so, ok := checkFormIn(t, s, m, f); so != c.so || ok != c.ok {
			t.Errorf("in %q, the test's own value of %s is %v, %v", c.rows, c.text, so, ok)
		}
		if so, ok := impl.FormModel(s, m, f); so != c.so || ok != c.ok {
			t.Errorf("in %q, FormModel of %s is %v, %v", c.rows, c.text, so, ok)
		}
	}
	s := readSig(t, formSig)
	for i, m := range badRows() {
		for _, text := range []string{"{a=a}", "!({a=b})", "|({a=a},{1*x <= 0})"} {
			if so, ok := impl.FormModel(s, m, readForm(t, text)); so || ok {
				t.Errorf("FormModel of %s in rows %d: %v, %v", text, i, so, ok)
			}
		}
	}
	// In this model each atom has a truth value, but together they have too many numbers, or no signature.
	f := readForm(t, "&({1*h(a) 1*w <= 0},&({1*x 1*y < 0},{not h(b)=y}))")
	if so, ok := impl.FormModel(s, impl.Model{}, f); so || ok {
		t.Errorf("FormModel of %s is %v, %v", writeForm(f), so, ok)
	}
	for _, l := range litsOf(impl.FormAtoms(f)) {
		if _, ok := impl.ModelLit(s, impl.Model{}, l); !ok {
			t.Errorf("%s has no truth value", writeLit(l))
		}
	}
}

// form makes up a formula of these atoms that is about so deep at most.
func (s *numbers) form(pool []impl.Atom, deep int) impl.Form {
	if deep == 1 || s.below(5) == 0 {
		return impl.Form{Kind: formLit, Lit: impl.Lit{Atom: pool[s.below(len(pool))], No: s.below(3) == 0}}
	}
	if s.below(4) == 0 {
		return not(s.form(pool, deep-1))
	}
	return formOf(pairKinds[s.below(4)], s.form(pool, deep-1), s.form(pool, deep-1-s.below(2)*min(1, deep-2)))
}

// smallForm makes up a formula of these atoms that is within the limits.
func (s *numbers) smallForm(pool []impl.Atom) impl.Form {
	for {
		if f := s.form(pool, 1+s.below(formDeep)); isForm(f) {
			return f
		}
	}
}

// spoilForm changes something of one formula in f.
func (s *numbers) spoilForm(f *impl.Form) {
	for len(f.Kids) > 0 && s.below(3) > 0 {
		f = &f.Kids[s.below(len(f.Kids))]
	}
	switch s.below(9) {
	case 0:
		f.Kind = s.below(8)
	case 1:
		f.Lit.No = !f.Lit.No
	case 2, 3:
		s.spoilAtom(&f.Lit.Atom)
	case 4:
		f.Kids = append(f.Kids, leaf(eqOf(app("a"), app("a"))))
	case 5:
		if len(f.Kids) > 0 {
			f.Kids = f.Kids[1:]
		}
	case 6:
		*f = not(*f)
	case 7:
		if len(f.Kids) == 2 {
			f.Kids[0], f.Kids[1] = f.Kids[1], f.Kids[0]
		}
	case 8:
		if len(f.Kids) > 0 {
			*f = f.Kids[0]
		}
	}
}

// TestFormIsAsDefined compares made-up formulas with the chapter by its words.
func TestFormIsAsDefined(t *testing.T) {
	s := numbers(9)
	found := map[string]int{}
	for range 6000 {
		var pool []impl.Atom
		for range 1 + s.below(12) {
			pool = append(pool, s.atom())
		}
		f := copyForm(s.form(pool, 1+s.below(formDeep+1)))
		if s.below(3) == 0 {
			s.spoilForm(&f)
		}
		checkForm(t, f)
		ok := isForm(f)
		found["form "+strconv.FormatBool(ok)]++
		if !ok {
			if s.below(3) == 0 {
				checkFormRead(t, impl.FormText(f))
			}
			continue
		}
		found["size "+strconv.Itoa(formSize(f))]++
		found["deep "+strconv.Itoa(formLevels(f))]++
		found["atoms "+strconv.Itoa(len(atomsIn(f, nil)))]++
	}
	for what, least := range map[string]int{"form true": 2000, "form false": 1000, "size 10": 100, "size 9": 100, "deep 5": 100, "deep 4": 200, "atoms 1": 200, "atoms 2": 200, "atoms 3": 200, "atoms 4": 50, "atoms 5": 10} {
		if found[what] < least {
			t.Errorf("the formulas miss the case %s: %v", what, found)
		}
	}
}

// atomsUnder makes up atoms that are mostly well-sorted.
func (s *numbers) atomsUnder(list impl.Sig, count int) []impl.Atom {
	var atoms []impl.Atom
	for _, l := range s.lits(list, count) {
		atoms = append(atoms, l.Atom)
	}
	return atoms
}

// TestFormModelIsAsDefined compares made-up formulas, signatures and models with the chapter by its words.
func TestFormModelIsAsDefined(t *testing.T) {
	s := numbers(99)
	found := map[string]int{}
	for range 8000 {
		list := readSig(t, madeUpBothSigs()[s.below(len(madeUpBothSigs()))])
		f := s.smallForm(s.atomsUnder(list, 1+s.below(4)))
		under := list
		if s.below(5) == 0 {
			under = readSig(t, madeUpBothSigs()[s.below(len(madeUpBothSigs()))])
		}
		m := s.model(list, s.below(12))
		if s.below(5) == 0 {
			s.spoilModel(&m, list)
		}
		valid := isBoth(under, litsOf(atomsIn(f, nil)))
		checkFormOk(t, under, f, valid)
		so, ok := checkFormIn(t, under, m, f)
		switch {
		case !valid:
			found["not valid"]++
		case !isModel(under, m):
			found["no model"]++
		default:
			found[strconv.FormatBool(ok)+" "+strconv.FormatBool(so)]++
		}
	}
	for what, least := range map[string]int{"not valid": 500, "no model": 300, "true true": 1000, "true false": 1000, "false false": 30} {
		if found[what] < least {
			t.Errorf("the formulas miss the case %s: %v", what, found)
		}
	}
}

// TestFormDependsOnAtoms is promise 9: a formula has the truth value in a model that FormIs returns for the truth values of its atoms; so models that agree in these agree in the formula, and other atoms with the same truth values make no difference.
func TestFormDependsOnAtoms(t *testing.T) {
	s := numbers(999)
	same, other := 0, 0
	for range 6000 {
		list := readSig(t, madeUpBothSigs()[s.below(len(madeUpBothSigs()))])
		pool := s.atomsUnder(list, 1+s.below(4))
		f := s.smallForm(pool)
		atoms := impl.FormAtoms(f)
		m := s.model(list, s.below(12))
		so, ok := impl.FormModel(list, m, f)
		if !ok {
			continue
		}
		vals := truthsIn(t, list, m, atoms)
		if is, isOk := impl.FormIs(f, vals); !isOk || is != so {
			t.Fatalf("in %q, FormModel of %s is %v, but FormIs of %v is %v, %v", writeModel(m), writeForm(f), so, vals, is, isOk)
		}
		for range 4 {
			changed := s.model(list, s.below(12))
			if _, ok := impl.FormModel(list, changed, f); !ok || !slices.Equal(truthsIn(t, list, changed, atoms), vals) {
				continue
			}
			if again, _ := impl.FormModel(list, changed, f); again != so {
				t.Fatalf("%s is %v in %q, but %v in %q", writeForm(f), so, writeModel(m), again, writeModel(changed))
			}
			same++
		}
		// Each atom is exchanged for one with the same truth value.
		exchanged := map[string]impl.Atom{}
		for i, a := range atoms {
			exchanged[writeAtom(a)] = a
			for range 5 {
				b := pool[s.below(len(pool))]
				if is, bOk := truthIn(m, impl.Lit{Atom: b}); bOk && is == vals[i] {
					exchanged[writeAtom(a)] = b
				}
			}
		}
		g := withAtoms(f, exchanged)
		if again, againOk := impl.FormModel(list, m, g); againOk && again != so {
			t.Fatalf("in %q, %s is %v, but %s is %v", writeModel(m), writeForm(f), so, writeForm(g), again)
		} else if againOk && !equalForm(f, g) {
			other++
		}
	}
	if same < 2000 || other < 500 {
		t.Errorf("only %d models and %d formulas are the same for the atoms", same, other)
	}
}

// truthsIn is the truth values of atoms, each of which has one.
func truthsIn(t *testing.T, s impl.Sig, m impl.Model, atoms []impl.Atom) []bool {
	t.Helper()
	var vals []bool
	for _, l := range litsOf(atoms) {
		so, ok := impl.ModelLit(s, m, l)
		if !ok {
			t.Fatalf("%s has no truth value in %q, but FormModel has one", writeLit(l), writeModel(m))
		}
		vals = append(vals, so)
	}
	return vals
}

// withAtoms is a formula in other memory that has these atoms in place of its own.
func withAtoms(f impl.Form, exchanged map[string]impl.Atom) impl.Form {
	g := impl.Form{Kind: f.Kind}
	if f.Kind == formLit {
		g.Lit = impl.Lit{Atom: exchanged[writeAtom(f.Lit.Atom)], No: f.Lit.No}
	}
	for _, kid := range f.Kids {
		g.Kids = append(g.Kids, withAtoms(kid, exchanged))
	}
	return g
}

// formsApart are formulas of which each differs from all others in a field; the ones that are not well-formed too.
func formsApart() []impl.Form {
	a, b := leaf(eqOf(app("a"), app("b"))), leaf(sumOf(2, ints(1), app("x")))
	list := []impl.Form{{Kind: -1}, {Kind: 7}, {Kind: 257}, {Kind: 1<<32 + 1}, {Lit: impl.Lit{No: true}}, {Kids: make([]impl.Form, 1)}, {Kids: make([]impl.Form, 2)}, {Kids: make([]impl.Form, 1000)}, {Kids: []impl.Form{{Kids: make([]impl.Form, 1)}}}, {Kids: []impl.Form{{Kids: make([]impl.Form, 1)}, {}}}, {Kids: []impl.Form{{}, {Kids: make([]impl.Form, 1)}}}, {Lit: a.Lit}, {Lit: a.Lit, Kids: []impl.Form{a}}, {Lit: b.Lit, Kids: []impl.Form{a}}, {Kind: 1, Lit: a.Lit, Kids: []impl.Form{a}}, {Kind: 2, Lit: a.Lit, Kids: []impl.Form{a}}, {Kind: 2, Lit: impl.Lit{No: true}, Kids: []impl.Form{a}}}
	for _, atom := range atomsApart() {
		list = append(list, leaf(atom), noLeaf(atom), not(leaf(atom)), formOf(formAnd, b, noLeaf(atom)))
	}
	for kind := range 7 {
		if kind != formLit {
			list = append(list, formOf(kind))
		}
		list = append(list, formOf(kind, a, a), formOf(kind, a, a, a), formOf(kind, b, a), formOf(kind, a, not(a)), formOf(kind, not(a), a), formOf(kind, a, not(b)), formOf(kind, formOf(kind, a, b), a), formOf(kind, a, formOf(kind, a, b)), formOf(kind, a, formOf(kind, a, not(b))), formOf(kind, not(not(a)), b))
	}
	return list
}

func TestFormSame(t *testing.T) {
	list := formsApart()
	for i, f := range list {
		for j, g := range list {
			if impl.FormSame(f, copyForm(g)) != (i == j) {
				t.Errorf("FormSame(%.300v, %.300v) is not %v", f, g, i == j)
			}
			if impl.FormSame(f, g) != (i == j) {
				t.Errorf("in the same memory, FormSame(%.300v, %.300v) is not %v", f, g, i == j)
			}
		}
	}
	none := impl.Form{Lit: impl.Lit{Atom: impl.Atom{A: impl.Term{Kids: []impl.Term{}}, Nums: []impl.Term{}, Times: []int{}}}, Kids: make([]impl.Form, 0, 3)}
	if !impl.FormSame(impl.Form{}, none) || !impl.FormSame(none, impl.Form{}) || !impl.FormSame(not(none), not(impl.Form{})) {
		t.Error("no elements are the same as nil")
	}
	for i, f := range badForms() {
		if !impl.FormSame(f, f) || !impl.FormSame(f, copyForm(f)) {
			t.Errorf("bad formula %d is not the same as itself", i)
		}
	}
	// What differs stands behind the end of a slice.
	p, q := leaf(eqOf(app("a"), app("b"))), leaf(eqOf(app("b"), app("a")))
	kids := []impl.Form{p, p, p, q}
	for _, c := range []struct {
		from, to, otherFrom, otherTo int
		same                         bool
	}{{0, 1, 1, 2, true}, {0, 2, 1, 3, true}, {0, 2, 0, 3, false}, {0, 3, 1, 4, false}, {1, 3, 2, 4, false}, {2, 4, 2, 4, true}, {0, 4, 0, 4, true}, {0, 4, 0, 3, false}} {
		f, g := formOf(formAnd, kids[c.from:c.to]...), formOf(formAnd, kids[c.otherFrom:c.otherTo]...)
		if impl.FormSame(f, g) != c.same || impl.FormSame(g, f) != c.same || impl.FormSame(not(f), not(g)) != c.same || impl.FormSame(formOf(formOr, f, g), formOf(formOr, g, f)) != c.same {
			t.Errorf("FormSame of kids %d to %d and kids %d to %d is not %v", c.from, c.to, c.otherFrom, c.otherTo, c.same)
		}
	}
}

func TestFormSameIsAsDefined(t *testing.T) {
	s := numbers(9999)
	same := 0
	for range 10000 {
		pool := []impl.Atom{s.atom(), s.atom()}
		f := copyForm(s.form(pool, 1+s.below(4)))
		g := copyForm(f)
		for range 1 + s.below(2) {
			s.spoilForm(&g)
		}
		if got := impl.FormSame(f, g); got != equalForm(f, g) || got != impl.FormSame(g, f) {
			t.Fatalf("FormSame(%v, %v) = %v", f, g, got)
		} else if got {
			same++
		}
	}
	if same < 300 {
		t.Errorf("only %d are the same", same)
	}
}

func TestFormSameOfSharedMemory(t *testing.T) {
	p, q := leaf(eqOf(app("a"), app("b"))), leaf(eqOf(app("a"), app("c")))
	for _, levels := range []int{1, 2, 5, 30, 3000} {
		f, g, h, longer := formBush(levels, p), formBush(levels, p), formBush(levels, q), formBush(levels+1, p)
		if !impl.FormSame(f, f) || !impl.FormSame(f, g) || impl.FormSame(f, h) || impl.FormSame(f, longer) || impl.FormSame(longer, f) {
			t.Errorf("formulas of depth %d, each of which has the next one twice", levels)
		}
	}
	for _, levels := range []int{1, 1000, 100000} {
		f, g, h, longer := formTower(p, levels), formTower(p, levels), formTower(q, levels), formTower(p, levels+1)
		if !impl.FormSame(f, f) || !impl.FormSame(f, g) || impl.FormSame(f, h) || impl.FormSame(f, longer) || impl.FormSame(longer, f) {
			t.Errorf("formulas of depth %d", levels)
		}
	}
	for m := 1; m <= 5; m++ {
		for n := 1; n <= 5; n++ {
			f, g := formRing(m, formOf(formAnd)), formRing(n, formOf(formAnd))
			if !impl.FormSame(f, g) || !impl.FormSame(formOf(formAnd, f, g), g) || impl.FormSame(f, formOf(formAnd, g)) || impl.FormSame(f, formBush(n+1, p)) {
				t.Errorf("rings of %d and %d levels", m, n)
			}
			if impl.FormSame(formRing(m, not(p)), formRing(n, not(p))) != (m == n) || impl.FormSame(formRing(m, not(p)), g) || impl.FormSame(g, formRing(m, not(p))) {
				t.Errorf("rings of %d and %d levels with another formula that comes once around", m, n)
			}
			f, g = leaf(eqOf(ring(m, "f"), ring(n, "f"))), leaf(eqOf(ring(n, "f"), ring(m, "f")))
			if !impl.FormSame(f, g) || impl.FormSame(f, leaf(eqOf(ring(n, "f"), ring(m, "g")))) || impl.FormSame(leaf(eqOf(ring(m, "g"), ring(n, "f"))), f) {
				t.Errorf("terms that contain themselves after %d and %d levels", m, n)
			}
		}
	}
	// Their lengths have no common divisor.
	if f, g := formRing(997, formOf(formAnd)), formRing(1009, formOf(formAnd)); !impl.FormSame(f, g) || impl.FormSame(f, formRing(1009, formOf(formOr))) {
		t.Error("long rings")
	}
	for i, f := range endlessForms() {
		if !impl.FormSame(f, f) || impl.FormSame(f, impl.Form{}) || impl.FormSame(f, formOf(7, f)) || impl.FormSame(formOf(7, f), f) || !impl.FormSame(formOf(7, f), formOf(7, f)) {
			t.Errorf("endless formula %d", i)
		}
	}
	// A great term, and a great sum, in a great many formulas.
	many := func(x impl.Term) impl.Form {
		a := sumOf(0, slices.Repeat(ints(1), 3000), slices.Repeat([]impl.Term{x}, 3000)...)
		a.A, a.B = x, x
		return formOf(formAnd, slices.Repeat([]impl.Form{leaf(a)}, 3000)...)
	}
	f, g := many(bush(3000, "a")), many(bush(3000, "a"))
	if !impl.FormSame(f, g) {
		t.Error("great terms are not the same in each place")
	}
	for _, spoilt := range []func(a *impl.Atom){func(a *impl.Atom) { a.A = bush(3000, "b") }, func(a *impl.Atom) { a.B = bush(3000, "b") }, func(a *impl.Atom) { a.Nums = slices.Repeat([]impl.Term{bush(3000, "b")}, 3000) }, func(a *impl.Atom) { a.Times = slices.Repeat(ints(2), 3000) }} {
		h := many(bush(3000, "a"))
		spoilt(&h.Kids[2999].Lit.Atom)
		if impl.FormSame(f, h) || impl.FormSame(h, f) {
			t.Error("an atom that is another one in the last place")
		}
	}
}

// formCells notes each place in the memory of formulas, also the unused ones; it reports whether one was noted before.
func formCells(list []impl.Form, forms map[*impl.Form]bool, terms map[*impl.Term]bool, numbers map[*int]bool) bool {
	twice := false
	all := list[:cap(list)]
	for i := range all {
		twice = twice || forms[&all[i]]
		forms[&all[i]] = true
		twice = atomCells(all[i].Lit.Atom, terms, numbers) || twice
		twice = formCells(all[i].Kids, forms, terms, numbers) || twice
	}
	return twice
}

// TestFormMemory checks that each result is new memory at every level, and that nothing writes to an argument, also beyond its length.
func TestFormMemory(t *testing.T) {
	s, m := readSig(t, "a - 0\nb - 0\nh 0 1\nsp - 0\nx - 1\n"), readModel(t, "a = 1\nh 1 = 1/2\nx = 2\n")
	// The formulas share memory with one another, and the lists have room beyond their lengths.
	things := []impl.Term{app("a"), app("b"), app("sp")}
	nums := []impl.Term{{Name: "h", Kids: things[:1]}, app("x"), app("sp")}
	times, vals := []int{1, -1, 7}, []bool{true, false, true, true}
	kids := []impl.Form{leaf(eqOf(things[0], things[1])), noLeaf(sumOf(0, times[:2], nums[:2]...)), leaf(eqOf(nums[0], nums[1])), leaf(sumOf(0, times[:1], nums[1:2]...))}
	inner := []impl.Form{formOf(formAnd, kids[:2]...), formOf(formOr, kids[1:3]...), formOf(formIff, kids[:2]...), not(kids[0])}
	forms := []impl.Form{kids[0], kids[1], inner[0], inner[1], formOf(formImp, inner[:2]...), formOf(formIff, inner[1:3]...), formOf(formNot, inner[3:]...), formOf(formAnd, kids[0], kids[0]), formOf(formAnd, formOf(formOr, kids[2], kids[3]), inner[0])}
	state := func() string {
		return writeForm(formOf(formAnd, kids...)) + writeForm(formOf(formAnd, inner...)) + writeForm(formOf(formOr, forms...)) + termTexts(things) + termTexts(nums) + writeInts(times) + writeModel(m) + impl.SigText(s) + strconv.FormatBool(vals[3])
	}
	before := state()
	formsSeen, terms, numbers := map[*impl.Form]bool{}, map[*impl.Term]bool{}, map[*int]bool{}
	formCells(forms, formsSeen, terms, numbers)
	formCells(kids, formsSeen, terms, numbers)
	for _, f := range forms {
		text, count := writeForm(f), len(atomsIn(f, nil))
		for range 2 {
			for _, a := range impl.FormAtoms(f) {
				if atomCells(a, terms, numbers) {
					t.Errorf("FormAtoms of %s shares memory", text)
				}
			}
			atoms := impl.FormAtoms(f)
			for i := range atoms[:cap(atoms)] {
				if i >= len(atoms) && !isZeroAtom(atoms[:cap(atoms)][i]) {
					t.Errorf("FormAtoms of %s has unused memory that is not new", text)
				}
			}
			if back := readForm(t, text); formCells([]impl.Form{back}, formsSeen, terms, numbers) {
				t.Errorf("%s is read into memory that is shared", text)
			}
			if !impl.FormOk(s, f) || !impl.FormSame(f, f) || impl.FormText(f) != text {
				t.Errorf("%s is not valid", text)
			}
			if _, ok := impl.FormIs(f, vals[:count]); !ok {
				t.Errorf("FormIs of %s is not ok", text)
			}
			if _, ok := impl.FormModel(s, m, f); !ok {
				t.Errorf("FormModel of %s is not ok", text)
			}
		}
	}
	if state() != before {
		t.Errorf("an argument has changed: %s; was %s", state(), before)
	}
}
