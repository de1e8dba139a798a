package tests

import (
	"math"
	"regexp"
	"slices"
	"strconv"
	"strings"
	"testing"

	"loop.example/compurgator/impl"
)

// These repeat the document's numbers, so that wrong constants of impl fail too.
const (
	thing     = 0
	num       = 1
	argLimit  = 2
	symLimit  = 7
	termLimit = 12
	deepLimit = 4
)

func TestTermConstants(t *testing.T) {
	if impl.SortThing != thing || impl.SortNum != num {
		t.Error(impl.SortThing, impl.SortNum)
	}
	if impl.ArgMost != argLimit || impl.SymMost != symLimit || impl.TermMost != termLimit || impl.TermDeep != deepLimit {
		t.Error(impl.ArgMost, impl.SymMost, impl.TermMost, impl.TermDeep)
	}
}

// sym and app write symbols and terms shorter; they may be invalid.
func sym(name string, sort int, args ...int) impl.Sym {
	return impl.Sym{Name: name, Args: args, Sort: sort}
}

func app(name string, kids ...impl.Term) impl.Term { return impl.Term{Name: name, Kids: kids} }

func sigOf(syms ...impl.Sym) impl.Sig { return impl.Sig{Syms: syms} }

// badNames are texts of some length that are no names.
func badNames() []string {
	return []string{
		"", "abc", "aaaa", "A", "Z", "aB", "Ab", "a1", "1", "1a", "_", "a_", "-", "a ", " a", " ", "  ", "a\n", "\na", "\n", "a\x00", "\x00", "\x00a",
		"`", "{", "@", "[", "a`", "{a", "(", ")", ",", "a(", "f(a)", "\xff", "a\xff", "\xe1", "é", "ä", "ａ", "а", "\u00aa", "\u017f",
		strings.Repeat("a", 100000), strings.Repeat("a", 256), strings.Repeat("a", 257), strings.Repeat("a", 258),
	}
}

func TestNameOk(t *testing.T) {
	letters := "abcdefghijklmnopqrstuvwxyz"
	for a := range 256 {
		one := string([]byte{byte(a)})
		oneOk := strings.Contains(letters, one)
		if impl.NameOk(one) != oneOk {
			t.Errorf("NameOk(%q) = %v", one, !oneOk)
		}
		for b := range 256 {
			two := string([]byte{byte(a), byte(b)})
			twoOk := oneOk && strings.Contains(letters, two[1:])
			if impl.NameOk(two) != twoOk {
				t.Errorf("NameOk(%q) = %v", two, !twoOk)
			}
		}
	}
	for _, name := range badNames() {
		if impl.NameOk(name) {
			t.Errorf("NameOk(%.20q)", name)
		}
	}
}

// sampleSigs are valid signatures with their texts.
func sampleSigs() map[string]impl.Sig {
	return map[string]impl.Sig{
		"":                              {},
		"a - 0\n":                       sigOf(sym("a", thing)),
		"a - 1\n":                       sigOf(sym("a", num)),
		"zz - 0\n":                      sigOf(sym("zz", thing)),
		"f 0 0\n":                       sigOf(sym("f", thing, thing)),
		"f 0 1\n":                       sigOf(sym("f", num, thing)),
		"f 1 0\n":                       sigOf(sym("f", thing, num)),
		"f 00 1\n":                      sigOf(sym("f", num, thing, thing)),
		"f 01 0\n":                      sigOf(sym("f", thing, thing, num)),
		"f 10 0\n":                      sigOf(sym("f", thing, num, thing)),
		"f 11 1\n":                      sigOf(sym("f", num, num, num)),
		"a - 0\nf 0 0\nv 10 1\nx - 1\n": sigOf(sym("a", thing), sym("f", thing, thing), sym("v", num, num, thing), sym("x", num)),
		"a - 0\naa - 0\nab 1 1\nb 11 0\nba - 1\n": sigOf(sym("a", thing), sym("aa", thing), sym("ab", num, num), sym("b", thing, num, num), sym("ba", num)),
		"a - 0\nb - 0\nc - 0\nd - 1\ne 0 0\nf 00 1\ng 11 1\n": sigOf(sym("a", thing), sym("b", thing), sym("c", thing), sym("d", num), sym("e", thing, thing),
			sym("f", num, thing, thing), sym("g", num, num, num)),
	}
}

// invalidSigs each break one condition of a valid signature, or more.
func invalidSigs() []impl.Sig {
	list := []impl.Sig{
		// Too many symbols, ascending and not.
		sigOf(sym("a", 0), sym("b", 0), sym("c", 0), sym("d", 0), sym("e", 0), sym("f", 0), sym("g", 0), sym("h", 0)),
		sigOf(make([]impl.Sym, symLimit+1)...), sigOf(make([]impl.Sym, 1000)...),
		// Names that do not ascend, at each place.
		sigOf(sym("a", 0), sym("a", 0)), sigOf(sym("a", 0), sym("a", 1, 0)), sigOf(sym("b", 0), sym("a", 0)), sigOf(sym("aa", 0), sym("a", 0)), sigOf(sym("b", 0), sym("ab", 0)),
		sigOf(sym("az", 0), sym("ay", 0)), sigOf(sym("ab", 0), sym("ab", 0)), sigOf(sym("a", 0), sym("c", 0), sym("b", 0)), sigOf(sym("a", 0), sym("b", 0), sym("a", 0)),
		sigOf(sym("b", 0), sym("a", 0), sym("c", 0)), sigOf(sym("a", 0), sym("b", 0), sym("b", 0)), sigOf(sym("a", 0), sym("a", 0), sym("b", 0)),
		sigOf(sym("a", 0), sym("b", 0), sym("c", 0), sym("d", 0), sym("e", 0), sym("g", 0), sym("f", 0)),
		// Too many arguments.
		sigOf(sym("f", 0, 0, 0, 0)), sigOf(sym("f", 0, 1, 1, 1, 1)), sigOf(sym("f", 1, make([]int, 1000)...)), sigOf(sym("a", 0), sym("f", 0, 0, 0, 0), sym("g", 0)),
	}
	for _, sort := range []int{-1, 2, 3, 9, 10, 255, 256, 257, '0', '1', math.MaxInt32, math.MinInt32, math.MaxInt, math.MinInt, 1 << 32} {
		list = append(list, sigOf(sym("f", sort)), sigOf(sym("f", sort, 0, 1)), sigOf(sym("f", 0, sort)), sigOf(sym("f", 0, sort, 0)), sigOf(sym("f", 1, 1, sort)),
			sigOf(sym("a", 0), sym("f", 0, 0, sort)), sigOf(sym("a", sort), sym("f", 0, 0)))
	}
	for _, name := range badNames() {
		list = append(list, sigOf(sym(name, 0)), sigOf(sym(name, 1, 0, 1)))
		// Each list ascends, so that only the name is wrong.
		if name < "b" {
			list = append(list, sigOf(sym(name, 0), sym("b", 0)))
		}
		if name > "b" {
			list = append(list, sigOf(sym("b", 0), sym(name, 0)))
		}
	}
	return list
}

func TestSigOk(t *testing.T) {
	for text, s := range sampleSigs() {
		if !impl.SigOk(s) {
			t.Errorf("%q is valid", text)
		}
	}
	for _, s := range invalidSigs() {
		if impl.SigOk(s) {
			t.Errorf("SigOk(%.200v)", s)
		}
	}
}

// equalSig compares field by field, without the function under test.
func equalSig(a impl.Sig, b impl.Sig) bool {
	if len(a.Syms) != len(b.Syms) {
		return false
	}
	for i, y := range a.Syms {
		z := b.Syms[i]
		if y.Name != z.Name || y.Sort != z.Sort || !slices.Equal(y.Args, z.Args) {
			return false
		}
	}
	return true
}

// TestSigText and the next ones are promise 4 for signatures.
func TestSigText(t *testing.T) {
	for text, s := range sampleSigs() {
		if got := impl.SigText(s); got != text {
			t.Errorf("SigText(%v) = %q; want %q", s, got, text)
		}
		if back, ok := impl.SigRead(text); !ok || !equalSig(back, s) {
			t.Errorf("SigRead(%q) = %v, %v; want %v", text, back, ok, s)
		}
	}
	for _, s := range invalidSigs() {
		if text := impl.SigText(s); text != "" {
			t.Errorf("SigText(%.200v) = %.200q; want the empty text", s, text)
		}
	}
}

func TestSigTextReadsBack(t *testing.T) {
	s := numbers(4)
	counts := map[int]int{}
	for range 20000 {
		want := s.sig()
		text := impl.SigText(want)
		if !isSigText(text) || strings.Count(text, "\n") != len(want.Syms) {
			t.Fatalf("SigText(%v) = %q", want, text)
		}
		if back, ok := impl.SigRead(text); !ok || !equalSig(back, want) {
			t.Fatalf("%q is read back as %v, %v", text, back, ok)
		}
		counts[len(want.Syms)]++
	}
	if len(counts) != symLimit+1 {
		t.Errorf("the signatures miss a number of symbols: %v", counts)
	}
}

// sig makes up a valid signature.
func (s *numbers) sig() impl.Sig {
	var names []string
	for range s.below(symLimit + 1) {
		name := s.name()
		if !slices.Contains(names, name) {
			names = append(names, name)
		}
	}
	slices.Sort(names)
	var list impl.Sig
	for _, name := range names {
		y := impl.Sym{Name: name, Sort: s.below(2)}
		for range s.below(argLimit + 1) {
			y.Args = append(y.Args, s.below(2))
		}
		list.Syms = append(list.Syms, y)
	}
	return list
}

// name makes up a name.
func (s *numbers) name() string {
	name := string(rune('a' + s.below(26)))
	if s.below(2) == 0 {
		name += string(rune('a' + s.below(26)))
	}
	return name
}

func TestSigReadRefuses(t *testing.T) {
	for _, text := range []string{
		// A newline too few or too many, or another one.
		"a - 0", "a - 0\nb - 0", "\n", "\n\n", "a - 0\n\n", "\na - 0\n", "a - 0\n\nb - 0\n", "a - 0\r\n", "a - 0\r", "a - 0\n\r", "a - 0b - 0\n", "a - 0 b - 0\n", "a - 0\x00", "a - 0\n\x00", "a\n- 0\n", "a -\n0\n", "a - 0\u2028",
		// A space too few or too many, or another one.
		"a -0\n", "a- 0\n", "a-0\n", "a  - 0\n", "a -  0\n", " a - 0\n", "a - 0 \n", "a - 0\n ", " ", "  ", "  \n", " \n", "a\t- 0\n", "a -\t0\n", "a\u00a0- 0\n", "f 0 0 0\n", "f 0 0 0 0\n", "f  0\n", "f  0 0\n", "f 0  0\n", "f 0  \n",
		// Words too few or too many.
		"a\n", "a \n", "a -\n", "a - \n", "a 0\n", "- 0\n", " - 0\n", "a - 0 0\n", "a - - 0\n", "a - 0 -\n", "a - 0 x\n", "f 0 0\nf\n", "0\n", "-\n",
		// Arguments as they are not written.
		"f 000 0\n", "f 0000 0\n", "f 2 0\n", "f 20 0\n", "f 02 0\n", "f 9 0\n", "f -- 0\n", "f -0 0\n", "f 0- 0\n", "f - 0 0\n", "f 0,0 0\n", "f +0 0\n", "f x 0\n", "f / 0\n", "f : 0\n", "f 0: 0\n", "f \x00 0\n", "f \xff 0\n", "f \x30\x00 0\n", "f \u0660 0\n", "f . 0\n", "f _ 0\n", "f 0_0 0\n", "f , 0\n",
		// Sorts as they are not written.
		"a - 2\n", "a - 9\n", "a - -1\n", "a - -0\n", "a - +0\n", "a - +1\n", "a - 00\n", "a - 01\n", "a - 10\n", "a - 11\n", "a - x\n", "a - -\n", "a - 0x0\n", "a - 0x1\n", "a - 0.0\n", "a - \x00\n", "a - \xff\n", "a - \u0661\n", "a - 0_0\n", "a - 256\n", "a - 4294967296\n", "a - 18446744073709551616\n", "a - 18446744073709551617\n",
		// Names that are no names.
		"A - 0\n", "abc - 0\n", "a1 - 0\n", "1 - 0\n", "- - 0\n", "_ - 0\n", "\x00 - 0\n", "\xff - 0\n", "é - 0\n", "a\x00 - 0\n", "aB - 0\n", "a, - 0\n", "f( - 0\n",
		// Symbols out of order, twice, or too many.
		"b - 0\na - 0\n", "a - 0\na - 0\n", "a - 0\na - 1\n", "a - 0\na 0 0\n", "ab - 0\na - 0\n", "b - 0\nab - 0\n", "a - 0\nc - 0\nb - 0\n", "a - 0\nb - 0\na - 0\n", "a - 0\nb - 0\nb - 0\n",
		"a - 0\nb - 0\nc - 0\nd - 0\ne - 0\nf - 0\ng - 0\nh - 0\n", "a - 0\nb - 0\nc - 0\nd - 0\ne - 0\nf - 0\ng - 0\n\n", "a - 0\nb - 0\nc - 0\nd - 0\ne - 0\nf - 0\ng - 0\nh",
		// Long ones.
		strings.Repeat("\n", 100000), strings.Repeat(" ", 100000), strings.Repeat("a", 100000), strings.Repeat("0", 100000), strings.Repeat("a - 0\n", 20000), "f " + strings.Repeat("0", 100000) + " 0\n",
		"a - " + strings.Repeat("0", 100000) + "\n", "a - 0\n" + strings.Repeat("\x00", 100000), strings.Repeat("a", 100000) + " - 0\n", "f 0 0\n" + strings.Repeat(" 0 0\n", 20000),
	} {
		if isSigText(text) {
			t.Errorf("%.40q is the text of a signature", text)
		}
		checkSigRead(t, text)
	}
}

var sigShape = regexp.MustCompile(`\A(?:[a-z]{1,2} (?:-|[01]{1,2}) [01]\n)*\z`)

// isSigText is what the document says of the texts, without the functions under test.
func isSigText(text string) bool {
	if !sigShape.MatchString(text) {
		return false
	}
	lines := strings.Split(text, "\n")
	lines = lines[:len(lines)-1]
	for i, line := range lines {
		if i > 0 && strings.Fields(lines[i-1])[0] >= strings.Fields(line)[0] {
			return false
		}
	}
	return len(lines) <= symLimit
}

func checkSigRead(t *testing.T, text string) {
	t.Helper()
	got, ok := impl.SigRead(text)
	if want := isSigText(text); ok != want {
		t.Errorf("SigRead(%.60q) = %v, %v; want %v", text, got, ok, want)
	}
	if ok && impl.SigText(got) != text || !ok && len(got.Syms) != 0 {
		t.Errorf("SigRead(%.60q) = %v, %v", text, got, ok)
	}
}

// TestSigReadTakesJustTheTexts tries the texts that differ from a right one by a byte or two.
func TestSigReadTakesJustTheTexts(t *testing.T) {
	const some = "abz{A -012+\n\r\x00\xff"
	for text := range sampleSigs() {
		for _, changed := range changedBytes(text, some) {
			checkSigRead(t, changed)
		}
	}
	for _, text := range []string{"", "a - 0\n", "f 10 1\n", "b - 1\nc 0 0\n"} {
		for _, changed := range changedBytes(text, some) {
			for _, twice := range changedBytes(changed, "ac -01\n") {
				checkSigRead(t, twice)
			}
		}
	}
	for _, text := range []string{"a - 0\n", "b 01 1\nc 0 0\n"} {
		for _, changed := range changedBytes(text, everyByte()) {
			checkSigRead(t, changed)
		}
	}
}

func everyByte() string {
	all := make([]byte, 256)
	for i := range all {
		all[i] = byte(i)
	}
	return string(all)
}

// changedBytes is every text that has one byte of text less, twice or in exchange for the one behind it, or one of some bytes more or in place of one.
func changedBytes(text string, some string) []string {
	var list []string
	for at := range len(text) + 1 {
		for i := range len(some) {
			list = append(list, text[:at]+some[i:i+1]+text[at:])
		}
		if at == len(text) {
			continue
		}
		list = append(list, text[:at]+text[at+1:], text[:at+1]+text[at:], text[:at])
		for i := range len(some) {
			list = append(list, text[:at]+some[i:i+1]+text[at+1:])
		}
		if at+1 < len(text) {
			list = append(list, text[:at]+text[at+1:at+2]+text[at:at+1]+text[at+2:])
		}
	}
	return list
}

func TestSigSame(t *testing.T) {
	// Each of these differs from all others in a field; the invalid ones too.
	list := []impl.Sig{
		{}, sigOf(sym("", 0)), sigOf(sym("", 1)), sigOf(sym("", 0, 0)), sigOf(sym("", 0), sym("", 0)),
		sigOf(sym("a", 0)), sigOf(sym("a", 1)), sigOf(sym("b", 0)), sigOf(sym("aa", 0)), sigOf(sym("A", 0)), sigOf(sym("a\x00", 0)), sigOf(sym("\xff", 0)), sigOf(sym("\xfe", 0)),
		sigOf(sym("a", -1)), sigOf(sym("a", 2)), sigOf(sym("a", 256)), sigOf(sym("a", math.MaxInt)), sigOf(sym("a", math.MinInt)), sigOf(sym("a", 1<<32)),
		sigOf(sym("a", 0, 0)), sigOf(sym("a", 0, 1)), sigOf(sym("a", 0, 0, 0)), sigOf(sym("a", 0, 0, 1)), sigOf(sym("a", 0, 1, 0)), sigOf(sym("a", 0, 0, 0, 0)), sigOf(sym("a", 0, math.MinInt)),
		sigOf(sym("a", 0), sym("b", 0)), sigOf(sym("b", 0), sym("a", 0)), sigOf(sym("a", 0), sym("a", 0)), sigOf(sym("a", 0), sym("b", 1)), sigOf(sym("a", 0), sym("b", 0, 0)), sigOf(sym("a", 0, 0), sym("b", 0)),
		sigOf(sym("a", 0), sym("b", 0), sym("c", 0)), sigOf(make([]impl.Sym, symLimit+1)...), sigOf(make([]impl.Sym, symLimit+2)...),
	}
	for i, a := range list {
		for j, b := range list {
			if impl.SigSame(a, copySig(b)) != (i == j) {
				t.Errorf("SigSame(%v, %v) is not %v", a, b, i == j)
			}
		}
	}
	if !impl.SigSame(impl.Sig{}, impl.Sig{Syms: []impl.Sym{}}) || !impl.SigSame(sigOf(sym("a", 0)), sigOf(impl.Sym{Name: "a", Args: []int{}})) {
		t.Error("no elements are the same as nil")
	}
	for _, s := range append(invalidSigs(), sampleSigs()["a - 0\nf 0 0\nv 10 1\nx - 1\n"]) {
		if !impl.SigSame(s, s) || !impl.SigSame(s, copySig(s)) {
			t.Errorf("%.100v is not the same as itself", s)
		}
	}
}

// copySig is s in other memory.
func copySig(s impl.Sig) impl.Sig {
	var other impl.Sig
	for _, y := range s.Syms {
		other.Syms = append(other.Syms, impl.Sym{Name: strings.Clone(y.Name), Args: slices.Clone(y.Args), Sort: y.Sort})
	}
	return other
}

// writeTerm writes any term that has an end, without the function under test.
func writeTerm(x impl.Term) string {
	if len(x.Kids) == 0 {
		return x.Name
	}
	var kids []string
	for _, kid := range x.Kids {
		kids = append(kids, writeTerm(kid))
	}
	return x.Name + "(" + strings.Join(kids, ",") + ")"
}

// brief writes the upper levels of a term, which may have no end.
func brief(x impl.Term, levels int) string {
	if levels == 0 {
		return "..."
	}
	var kids []string
	for _, kid := range x.Kids[:min(len(x.Kids), argLimit+2)] {
		kids = append(kids, brief(kid, levels-1))
	}
	return strconv.Quote(x.Name[:min(len(x.Name), 10)]) + "(" + strings.Join(kids, ",") + ")"
}

// termShape is the text of a term that is within the limits, but for the number of its names.
var termShape = regexp.MustCompile(`\A` + shapeOf(deepLimit) + `\z`)

// shapeOf is a regular expression for the texts of terms that are at most so deep.
func shapeOf(deep int) string {
	if deep == 1 {
		return `[a-z]{1,2}`
	}
	kid := shapeOf(deep - 1)
	return `[a-z]{1,2}(?:\(` + kid + `(?:,` + kid + `)?\))?`
}

var letters = regexp.MustCompile(`[a-z]+`)

// isTermText is what the document says of the texts, without the functions under test.
func isTermText(text string) bool {
	return termShape.MatchString(text) && len(letters.FindAllString(text, -1)) <= termLimit
}

// readTerm reads a term that the test itself needs, and checks that it has that text.
func readTerm(t *testing.T, text string) impl.Term {
	t.Helper()
	x, ok := impl.TermRead(text)
	if !ok || impl.TermText(x) != text || writeTerm(x) != text {
		t.Fatalf("TermRead(%q) = %v, %v", text, x, ok)
	}
	return x
}

func isZeroTerm(x impl.Term) bool { return x.Name == "" && len(x.Kids) == 0 }

// sampleTerms are well-formed terms with their texts; some are at the limits.
func sampleTerms() map[string]impl.Term {
	a, x := app("a"), app("x")
	return map[string]impl.Term{
		"a":              a,
		"zz":             app("zz"),
		"f(a)":           app("f", a),
		"ff(aa)":         app("ff", app("aa")),
		"f(a,x)":         app("f", a, x),
		"f(x,a)":         app("f", x, a),
		"f(a,a)":         app("f", a, a),
		"f(a,g(a))":      app("f", a, app("g", a)),
		"f(g(a),a)":      app("f", app("g", a), a),
		"a(a(a(a)))":     app("a", app("a", app("a", a))),
		"f(g(h(a)))":     app("f", app("g", app("h", a))),
		"v(x,f(a))":      app("v", x, app("f", a)),
		"f(g(a,x),h(a))": app("f", app("g", a, x), app("h", a)),
		// As many terms as there may be, and a few less.
		"f(g(h(a,b),h(c,d)),g(h(x),y))":  app("f", app("g", app("h", a, app("b")), app("h", app("c"), app("d"))), app("g", app("h", x), app("y"))),
		"f(f(f(a,a),f(a,a)),f(f(a,a)))":  app("f", app("f", app("f", a, a), app("f", a, a)), app("f", app("f", a, a))),
		"f(f(f(a,a),f(a)),f(f(a),f(a)))": app("f", app("f", app("f", a, a), app("f", a)), app("f", app("f", a), app("f", a))),
		"f(a,f(f(a,a),f(a,a)))":          app("f", a, app("f", app("f", a, a), app("f", a, a))),
	}
}

// badTerms break one condition of a well-formed term, or more, and have an end.
func badTerms() []impl.Term {
	a := app("a")
	pair := app("f", a, a)
	list := []impl.Term{
		{}, {Kids: []impl.Term{a}}, app("", a, a),
		// Too many arguments.
		app("f", a, a, a), app("f", a, a, a, a), app("f", make([]impl.Term, 1000)...), app("g", app("f", a, a, a)), app("g", a, app("f", a, a, a)), app("g", app("f", a, a, a), a), app("h", app("g", a, app("f", a, a, a))),
		// Too deep, on each side.
		app("f", app("f", app("f", app("f", a)))), app("f", a, app("f", a, app("f", a, app("f", a)))), app("f", app("f", app("f", app("f", a), a), a), a), app("f", app("f", app("f", app("f", app("f", a))))),
		// One term too many, and more.
		app("f", app("f", pair, pair), app("f", pair, a)), app("f", app("f", pair, a), app("f", pair, pair)), app("f", app("f", pair, app("f", a)), app("f", pair, app("f", a))), app("f", app("f", pair, pair), app("f", pair, pair)),
	}
	for _, name := range badNames() {
		bad := app(name)
		list = append(list, bad, app(name, a), app("f", bad), app("f", bad, a), app("f", a, bad), app("f", app(name, a)), app("f", a, app("f", app("f", bad))), app("f", app("f", app("f", a, bad)), a))
	}
	return list
}

// chain is a term of so many names, one within the other.
func chain(deep int, end string) impl.Term {
	x := app(end)
	for range deep - 1 {
		x = app("f", x)
	}
	return x
}

// bush is a term that is so deep and has the next lower one twice; written out, it has no room.
func bush(deep int, end string) impl.Term {
	x := app(end)
	for range deep - 1 {
		x = app("f", x, x)
	}
	return x
}

// ring is a term that contains itself so many levels deeper, or a term at the last of them that is called otherwise.
func ring(levels int, last string) impl.Term {
	lists := make([][]impl.Term, levels)
	for i := range lists {
		lists[i] = make([]impl.Term, 1)
	}
	for i := range lists {
		lists[i][0] = impl.Term{Name: "f", Kids: lists[(i+1)%levels]}
	}
	lists[0][0].Name = last
	return lists[levels-1][0]
}

// endlessTerms are not well-formed, and have no end or seem to have none.
func endlessTerms() []impl.Term {
	return []impl.Term{
		ring(1, "f"), ring(2, "f"), ring(3, "a"), app("f", ring(1, "f")), app("f", app("a"), ring(2, "f")), app("f", ring(1, "f"), ring(1, "f")),
		bush(5, "a"), bush(80, "a"), bush(3000, "a"), app("g", bush(80, "a")), chain(100000, "a"), app("", ring(1, "")), ring(1, ""),
	}
}

// TestTermText and the next ones are promise 4 for terms.
func TestTermText(t *testing.T) {
	for text, x := range sampleTerms() {
		if got := impl.TermText(x); got != text {
			t.Errorf("TermText(%v) = %q; want %q", x, got, text)
		}
		if back, ok := impl.TermRead(text); !ok || !equalTerm(back, x) {
			t.Errorf("TermRead(%q) = %v, %v; want %v", text, back, ok, x)
		}
	}
	for _, x := range badTerms() {
		if text := impl.TermText(x); text != "" {
			t.Errorf("TermText(%.100v) = %.100q; want the empty text", x, text)
		}
	}
	for i, x := range endlessTerms() {
		if text := impl.TermText(x); text != "" {
			t.Errorf("endless term %d: %.100q; want the empty text", i, text)
		}
	}
	if x := app("a", []impl.Term{}...); impl.TermText(x) != "a" {
		t.Error("no arguments are the same as nil")
	}
}

// equalTerm compares two terms that have an end, without the function under test.
func equalTerm(a impl.Term, b impl.Term) bool {
	return a.Name == b.Name && slices.EqualFunc(a.Kids, b.Kids, equalTerm)
}

// allShapes is every term of one name that is at most so deep and has at most so many arguments.
func allShapes(name string, deep int, args int) []impl.Term {
	list := []impl.Term{app(name)}
	if deep == 1 {
		return list
	}
	lists := [][]impl.Term{nil}
	for range args {
		var longer [][]impl.Term
		for _, kids := range lists {
			for _, kid := range allShapes(name, deep-1, args) {
				longer = append(longer, append(slices.Clone(kids), kid))
			}
		}
		lists = longer
		for _, kids := range lists {
			list = append(list, app(name, kids...))
		}
	}
	return list
}

// sizeOf counts the names of a term, and deepOf its levels.
func sizeOf(x impl.Term) int {
	size := 1
	for _, kid := range x.Kids {
		size += sizeOf(kid)
	}
	return size
}

func deepOf(x impl.Term) int {
	deep := 0
	for _, kid := range x.Kids {
		deep = max(deep, deepOf(kid))
	}
	return deep + 1
}

func widthOf(x impl.Term) int {
	width := len(x.Kids)
	for _, kid := range x.Kids {
		width = max(width, widthOf(kid))
	}
	return width
}

// TestTermOfEachShape tries all terms of a name up to one level too many, and up to one argument too many.
func TestTermOfEachShape(t *testing.T) {
	taken, refused := 0, 0
	sizes, depths := map[int]bool{}, map[int]bool{}
	for _, x := range append(allShapes("a", deepLimit+1, argLimit), allShapes("bc", 3, argLimit+1)...) {
		ok := sizeOf(x) <= termLimit && deepOf(x) <= deepLimit && widthOf(x) <= argLimit
		written := writeTerm(x)
		text, want := impl.TermText(x), written
		if !ok {
			want = ""
		}
		back, backOk := impl.TermRead(written)
		parts := impl.TermParts([]impl.Term{x})
		if text != want || backOk != ok || ok != (len(parts) > 0) || ok && !equalTerm(back, x) || !ok && !isZeroTerm(back) {
			t.Fatalf("%s: TermText %q, TermRead %v, %v; want %v", written, text, back, backOk, ok)
		}
		if ok {
			taken++
			sizes[sizeOf(x)], depths[deepOf(x)] = true, true
		} else {
			refused++
		}
	}
	if taken < 100 || refused < 100 || len(sizes) != termLimit || len(depths) != deepLimit {
		t.Errorf("the shapes miss a case: %d taken, %d refused, sizes %v, depths %v", taken, refused, sizes, depths)
	}
}

func TestTermReadRefuses(t *testing.T) {
	for _, text := range []string{
		// A name that is followed by brackets with nothing in them, and an argument that is missing.
		"", "f()", "f(())", "()", "(a)", "f(,)", "f(a,)", "f(,a)", "f(a,,a)", "f(g())", "f(g(),a)", "f(a,g())", "f()()", "f(a)()", "f()(a)",
		// A bracket or comma too few or too many, or in another place.
		"f(", "f)", "(", ")", ",", "f,", ",f", "a,a", "f(a", "fa)", "f(a))", "f((a)", "f((a))", "(f(a))", "f(a)(a)", "f(a)a", "f(a),", "f(a),a", "f(a,a", "f(a,a))", "f(a(a)", "f(g(a)", "f(a)g(a)", "f(g(a)a)", "f(g(a)(a))", "f(a g)", "f)a(", "f(a)b", "f(a;a)", "f[a]", "f{a}", "f<a>", "f.a",
		// Spaces and other bytes.
		" a", "a ", "f (a)", "f( a)", "f(a )", "f(a, a)", "f(a ,a)", "f(a) ", "f a", "a\n", "\na", "f(a)\n", "f(a\n)", "a\x00", "\x00", "f(a)\x00", "f(a\x00)", "f(\x00)", "f(\xff)", "\xff", "a\xff", "f(a,\xe1)", "é", "f(é)", "f(a，a)", "f（a)",
		// Names that are no names.
		"A", "aB", "abc", "f(abc)", "abc(a)", "f(a,abc)", "1", "a1", "f(1)", "f(a,1)", "_", "-", "f(-)", "f(g(A))",
		// Too many arguments, levels and terms.
		"f(a,a,a)", "f(a,a,a,a)", "g(f(a,a,a))", "g(a,f(a,a,a))", "g(f(a,a,a),a)", "f(f(f(f(a))))", "f(a,f(a,f(a,f(a))))", "f(f(f(f(a),a),a),a)", "f(f(f(a,a),f(a,a)),f(f(a,a),a))", "f(f(f(a,a),a),f(f(a,a),f(a,a)))", "f(f(f(a,a),f(a,a)),f(f(a,a),f(a,a)))",
		// Long ones.
		strings.Repeat("a", 100000), strings.Repeat("(", 10000000), strings.Repeat(")", 1000000), strings.Repeat(",", 1000000), strings.Repeat("f(", 10000000), strings.Repeat("f(", 100000) + "a" + strings.Repeat(")", 100000), "f(" + strings.Repeat("a,", 1000000) + "a)", "f(a" + strings.Repeat(")", 100000), strings.Repeat("f(a,", 100000),
		"f(f(f(" + strings.Repeat("a,", 100000), "f(a)" + strings.Repeat("(a)", 100000), strings.Repeat("\x00", 100000), "f(a)" + strings.Repeat(" ", 100000),
	} {
		if isTermText(text) {
			t.Errorf("%.40q is the text of a term", text)
		}
		checkTermRead(t, text)
	}
}

func checkTermRead(t *testing.T, text string) {
	t.Helper()
	got, ok := impl.TermRead(text)
	if want := isTermText(text); ok != want {
		t.Errorf("TermRead(%.60q) = %v, %v; want %v", text, got, ok, want)
	}
	if ok && (impl.TermText(got) != text || writeTerm(got) != text) || !ok && !isZeroTerm(got) {
		t.Errorf("TermRead(%.60q) = %v, %v", text, got, ok)
	}
}

// TestTermReadTakesJustTheTexts tries the texts that differ from a right one by a byte or two.
func TestTermReadTakesJustTheTexts(t *testing.T) {
	const some = "(,)abz`{A1 -\n\x00\xff"
	for text := range sampleTerms() {
		for _, changed := range changedBytes(text, some) {
			checkTermRead(t, changed)
			for _, twice := range changedBytes(changed, "(,)a") {
				checkTermRead(t, twice)
			}
		}
	}
	for _, text := range []string{"", "a", "f(a,g(b))"} {
		for _, changed := range changedBytes(text, everyByte()) {
			checkTermRead(t, changed)
		}
	}
	// And all short texts of these bytes.
	texts := []string{""}
	for range 7 {
		var longer []string
		for _, text := range texts {
			for _, b := range []string{"(", ",", ")", "a"} {
				longer = append(longer, text+b)
				checkTermRead(t, text+b)
			}
		}
		texts = longer
	}
}

// term makes up a term with an end that is at most so deep, and of few names.
func (s *numbers) term(deep int) impl.Term {
	if deep == 1 {
		return app([]string{"a", "b", "x", "aa"}[s.below(4)])
	}
	x := app([]string{"f", "g", "ff"}[s.below(3)])
	for range s.below(argLimit + 1) {
		x.Kids = append(x.Kids, s.term(deep-1))
	}
	return x
}

func TestTermTextReadsBack(t *testing.T) {
	s := numbers(44)
	taken := 0
	for range 20000 {
		x := s.term(1 + s.below(deepLimit))
		text := impl.TermText(x)
		if sizeOf(x) > termLimit {
			continue
		}
		taken++
		if back, ok := impl.TermRead(text); text != writeTerm(x) || !ok || !equalTerm(back, x) {
			t.Fatalf("%v is written as %q and read back as %v, %v", x, text, back, ok)
		}
	}
	if taken < 10000 {
		t.Errorf("only %d terms", taken)
	}
}

func readSig(t *testing.T, text string) impl.Sig {
	t.Helper()
	s, ok := impl.SigRead(text)
	if !ok || impl.SigText(s) != text {
		t.Fatalf("SigRead(%q) = %v, %v", text, s, ok)
	}
	return s
}

func checkTermSort(t *testing.T, s impl.Sig, x impl.Term, want int, wantOk bool) {
	t.Helper()
	if sort, ok := impl.TermSort(s, x); sort != want || ok != wantOk {
		t.Errorf("TermSort(%.200v, %s) = %d, %v; want %d, %v", s, brief(x, deepLimit+1), sort, ok, want, wantOk)
	}
}

func TestTermSort(t *testing.T) {
	const none = -1
	s := readSig(t, "a - 0\nf 0 0\nh 0 1\nn 11 1\nt 10 0\nv 01 1\nx - 1\n")
	for _, c := range []struct {
		text string
		sort int
	}{
		{"a", thing}, {"x", num}, {"f(a)", thing}, {"h(a)", num}, {"n(x,x)", num}, {"t(x,a)", thing}, {"v(a,x)", num},
		{"f(f(f(a)))", thing}, {"h(f(f(a)))", num}, {"f(t(x,a))", thing}, {"n(h(a),n(x,x))", num}, {"v(t(x,a),h(a))", num}, {"v(f(a),v(a,x))", num}, {"t(n(x,h(a)),f(t(x,a)))", thing},
		// As many terms as there may be.
		{"n(n(n(x,x),n(x,x)),n(h(a),x))", num}, {"v(t(n(x,x),t(x,a)),v(f(a),x))", num},
		// A name that is not declared, at some level.
		{"b", none}, {"aa", none}, {"ab", none}, {"z", none}, {"fa", none}, {"q(a)", none}, {"f(b)", none}, {"f(f(b))", none}, {"n(x,y)", none}, {"n(y,x)", none}, {"n(x,n(x,y))", none}, {"f(q(a))", none},
		// Arguments too few or too many, at some level.
		{"f", none}, {"h", none}, {"n", none}, {"n(x)", none}, {"v(a)", none}, {"t(x)", none}, {"f(a,a)", none}, {"f(a,x)", none}, {"a(a)", none}, {"x(x)", none}, {"a(a,a)", none}, {"f(f)", none}, {"h(f)", none}, {"n(x,n)", none}, {"n(n(x),x)", none}, {"f(a(a))", none}, {"h(f(a,a))", none},
		// Sorts that do not fit, at some level.
		{"f(x)", none}, {"h(x)", none}, {"n(a,x)", none}, {"n(x,a)", none}, {"n(a,a)", none}, {"t(a,x)", none}, {"t(a,a)", none}, {"t(x,x)", none}, {"v(x,a)", none}, {"v(a,a)", none}, {"v(x,x)", none},
		{"f(h(a))", none}, {"h(h(a))", none}, {"n(f(a),x)", none}, {"n(x,f(a))", none}, {"f(f(x))", none}, {"h(f(x))", none}, {"n(h(x),x)", none}, {"n(x,h(x))", none}, {"n(x,n(x,a))", none}, {"f(f(f(x)))", none}, {"v(a,h(f(x)))", none}, {"n(n(n(x,x),n(x,x)),n(h(a),a))", none},
	} {
		x := readTerm(t, c.text)
		if c.sort == none {
			checkTermSort(t, s, x, 0, false)
		} else {
			checkTermSort(t, s, x, c.sort, true)
		}
	}
	for text, y := range sampleSigs() {
		for _, x := range y.Syms {
			if len(x.Args) == 0 {
				checkTermSort(t, readSig(t, text), app(x.Name), x.Sort, true)
			}
		}
	}
	checkTermSort(t, impl.Sig{}, app("a"), 0, false)
}

func TestTermSortRefuses(t *testing.T) {
	// Of these, only the limits of a term are broken, not the sorts.
	s := readSig(t, "a - 1\nb 11 1\nf 1 1\n")
	a := app("a")
	checkTermSort(t, s, app("f", app("f", app("f", a))), num, true)
	checkTermSort(t, s, app("f", app("f", app("f", app("f", a)))), 0, false)
	pair := app("b", a, a)
	checkTermSort(t, s, app("b", app("b", pair, pair), app("f", pair)), num, true)
	checkTermSort(t, s, app("b", app("b", pair, pair), app("b", pair, a)), 0, false)
	checkTermSort(t, s, app("b", app("b", pair, pair), app("b", pair, pair)), 0, false)
	for _, x := range append(badTerms(), endlessTerms()...) {
		checkTermSort(t, s, x, 0, false)
		checkTermSort(t, sigOf(sym("a", thing), sym("f", thing, thing, thing)), x, 0, false)
		checkTermSort(t, impl.Sig{}, x, 0, false)
	}
	// The invalid signatures declare the terms, but for what is wrong with them.
	for _, bad := range invalidSigs() {
		for _, x := range []impl.Term{a, app("b"), app("f"), app("f", a), app("f", a, a), app("g"), app("h"), app("f", a, a, a)} {
			checkTermSort(t, bad, x, 0, false)
		}
		for _, y := range bad.Syms {
			checkTermSort(t, bad, app(y.Name), 0, false)
		}
	}
	// A symbol that is wrong elsewhere than in the term.
	for _, bad := range []impl.Sig{
		sigOf(sym("a", 0), sym("b", 2)), sigOf(sym("a", 0), sym("b", 0, 2)), sigOf(sym("a", 0), sym("B", 0)), sigOf(sym("A", 0), sym("a", 0)), sigOf(sym("a", 0), sym("b", 0), sym("b", 0)), sigOf(sym("a", 0), sym("c", 0), sym("b", 0)), sigOf(sym("a", 0), sym("b", 0, 0, 0, 0)),
	} {
		checkTermSort(t, bad, a, 0, false)
	}
}

// sortOf is the sort of any term with an end, or -1, by the document and without the function under test.
func sortOf(s impl.Sig, x impl.Term) int {
	for _, y := range s.Syms {
		if y.Name != x.Name || len(y.Args) != len(x.Kids) {
			continue
		}
		for i, kid := range x.Kids {
			if sortOf(s, kid) != y.Args[i] {
				return -1
			}
		}
		return y.Sort
	}
	return -1
}

func TestTermSortIsAsDefined(t *testing.T) {
	s := numbers(444)
	found := map[int]int{}
	for range 40000 {
		// All names of the terms, each with some arguments.
		var list impl.Sig
		for _, name := range []string{"a", "aa", "b", "f", "ff", "g", "x"} {
			y := sym(name, s.below(2))
			if name[0] == 'f' || name[0] == 'g' {
				for range s.below(argLimit + 1) {
					y.Args = append(y.Args, s.below(2))
				}
			}
			list.Syms = append(list.Syms, y)
		}
		x := s.term(1 + s.below(deepLimit))
		want := sortOf(list, x)
		if sizeOf(x) > termLimit {
			want = -1
		}
		checkTermSort(t, list, x, max(want, 0), want >= 0)
		found[want]++
	}
	if found[-1] < 1000 || found[thing] < 1000 || found[num] < 1000 {
		t.Errorf("the terms miss a case: %v", found)
	}
}

func TestTermSame(t *testing.T) {
	a, b := app("a"), app("b")
	// Each of these differs from all others somewhere; the ones that are not well-formed too.
	list := []impl.Term{
		{}, a, b, app("aa"), app("A"), app("a\x00"), app("\xff"), app("\xfe"), app("f(a)"), app("f(a,b)"), app("f()"), app("f"),
		app("", impl.Term{}), app("", impl.Term{}, impl.Term{}), app("", app("", impl.Term{})),
		app("f", a), app("f", b), app("g", a), app("f", a, a), app("f", a, b), app("f", b, a), app("f", b, b), app("f", a, a, a), app("f", a, a, b), app("f", a, a, a, a), app("f", app("a,a")), app("f", app("f", a)), app("f", app("f", a, a)),
		app("f", app("g", a)), app("f", app("f", b)), app("f", app("g", a), a), app("f", a, app("g", a)), app("f", app("g", a, b), a), app("f", app("g", b, a), a), app("f", app("g", a), b), app("f", app("g", b), a), app("g", app("f", a), a),
		app("f", app("g", a), app("g", a)), app("f", app("g", a), app("g", b)), app("f", app("g", b), app("g", a)), app("f", app("g", a), app("h", a)), app("f", app("g", a), app("g", a, a)),
		app("f", app("f", app("f", app("f", a)))), app("f", app("f", app("f", app("f", b)))), app("f", app("f", app("f", app("f", app("f", a))))), app("f", make([]impl.Term, 1000)...), app("f", make([]impl.Term, 1001)...),
	}
	for i, x := range list {
		for j, y := range list {
			if impl.TermSame(x, copyTerm(y)) != (i == j) {
				t.Errorf("TermSame(%.100v, %.100v) is not %v", x, y, i == j)
			}
			if impl.TermSame(x, y) != (i == j) {
				t.Errorf("in the same memory, TermSame(%.100v, %.100v) is not %v", x, y, i == j)
			}
		}
	}
	if !impl.TermSame(app("a"), impl.Term{Name: "a", Kids: []impl.Term{}}) || !impl.TermSame(app("f", a), app("f", impl.Term{Name: "a", Kids: make([]impl.Term, 0, 3)})) {
		t.Error("no arguments are the same as nil")
	}
	for _, x := range badTerms() {
		if !impl.TermSame(x, x) || !impl.TermSame(x, copyTerm(x)) || impl.TermSame(x, app("q", x)) || impl.TermSame(app("q", x), x) {
			t.Errorf("%.100v is the same as another, or not as itself", x)
		}
	}
}

// copyTerm is a term with an end in other memory.
func copyTerm(x impl.Term) impl.Term {
	other := impl.Term{Name: strings.Clone(x.Name)}
	for _, kid := range x.Kids {
		other.Kids = append(other.Kids, copyTerm(kid))
	}
	return other
}

func TestTermSameIsAsDefined(t *testing.T) {
	s := numbers(4444)
	same := 0
	for range 50000 {
		x, y := s.term(1+s.below(3)), s.term(1+s.below(3))
		if got := impl.TermSame(x, y); got != (writeTerm(x) == writeTerm(y)) {
			t.Fatalf("TermSame(%v, %v) = %v", x, y, got)
		} else if got {
			same++
		}
		// One name at some place is another one.
		other := copyTerm(x)
		at := &other
		for len(at.Kids) > 0 && s.below(3) > 0 {
			at = &at.Kids[s.below(len(at.Kids))]
		}
		at.Name += "z"
		if !impl.TermSame(x, copyTerm(x)) || impl.TermSame(x, other) || impl.TermSame(other, x) {
			t.Fatalf("TermSame of %v and %v, or of a copy", x, other)
		}
	}
	if same < 500 {
		t.Errorf("only %d are the same", same)
	}
}

// TestTermSameOfSharedMemory compares terms that stand in a great many places.
func TestTermSameOfSharedMemory(t *testing.T) {
	for _, deep := range []int{1, 2, 5, 30, 80, 3000} {
		x, y, z, longer := bush(deep, "a"), bush(deep, "a"), bush(deep, "b"), bush(deep+1, "a")
		if !impl.TermSame(x, x) || !impl.TermSame(x, y) || impl.TermSame(x, z) || impl.TermSame(x, longer) || impl.TermSame(longer, x) {
			t.Errorf("terms of depth %d, each of which has the next one twice", deep)
		}
	}
	for _, deep := range []int{2, 1000, 1000000} {
		x, y, z, longer := chain(deep, "a"), chain(deep, "a"), chain(deep, "b"), chain(deep+1, "a")
		if !impl.TermSame(x, x) || !impl.TermSame(x, y) || impl.TermSame(x, z) || impl.TermSame(x, longer) || impl.TermSame(longer, x) {
			t.Errorf("terms of depth %d", deep)
		}
	}
	// The lists begin in the same place, and have different lengths; the second one is a part of the first one.
	kids := []impl.Term{app("a"), app("a"), app("a"), app("b")}
	part := func(from int, to int) impl.Term { return impl.Term{Name: "f", Kids: kids[from:to]} }
	for _, c := range []struct {
		x, y impl.Term
		same bool
	}{
		{part(0, 2), part(1, 3), true}, {part(0, 2), part(0, 3), false}, {part(0, 3), part(1, 4), false}, {part(0, 2), part(0, 2), true}, {part(0, 1), part(2, 3), true}, {part(0, 1), part(3, 4), false},
		{app("g", part(0, 1), part(0, 2)), app("g", part(1, 2), part(1, 3)), true},
		{app("g", part(0, 1), part(0, 3)), app("g", part(1, 2), part(1, 4)), false},
		{app("g", part(0, 3), part(0, 1)), app("g", part(1, 4), part(1, 2)), false},
		{app("g", part(0, 2), part(1, 3)), app("g", part(1, 3), part(2, 4)), false},
	} {
		if impl.TermSame(c.x, c.y) != c.same || impl.TermSame(c.y, c.x) != c.same {
			t.Errorf("TermSame(%v, %v) is not %v", c.x, c.y, c.same)
		}
	}
}

// TestTermSameWithoutEnd compares terms that contain themselves: they are equal if they are at every level.
func TestTermSameWithoutEnd(t *testing.T) {
	for m := 1; m <= 6; m++ {
		for n := 1; n <= 6; n++ {
			x, y := ring(m, "f"), ring(n, "f")
			if !impl.TermSame(x, y) || !impl.TermSame(app("f", x), y) || impl.TermSame(app("g", x), y) || impl.TermSame(x, app("f", y, y)) {
				t.Errorf("rings of %d and %d levels", m, n)
			}
			if impl.TermSame(ring(m, "a"), ring(n, "a")) != (m == n) || impl.TermSame(ring(m, "a"), y) || impl.TermSame(y, ring(m, "a")) {
				t.Errorf("rings of %d and %d levels with a name that comes once around", m, n)
			}
			if impl.TermSame(x, chain(n, "f")) || impl.TermSame(chain(n, "f"), x) || impl.TermSame(x, bush(n, "f")) {
				t.Errorf("a ring of %d levels and a term of %d", m, n)
			}
		}
	}
	if !impl.TermSame(ring(997, "f"), ring(1009, "f")) || impl.TermSame(ring(997, "f"), ring(1009, "a")) || !impl.TermSame(ring(100000, "a"), ring(100000, "a")) {
		t.Error("long rings")
	}
	list := endlessTerms()
	for i, x := range list {
		if !impl.TermSame(x, x) || impl.TermSame(x, app("q", x)) || impl.TermSame(x, impl.Term{}) {
			t.Errorf("endless term %d", i)
		}
	}
}

// termTexts is the texts of terms.
func termTexts(list []impl.Term) string {
	var texts []string
	for _, x := range list {
		texts = append(texts, writeTerm(x))
	}
	return strings.Join(texts, " ")
}

func TestTermParts(t *testing.T) {
	for _, c := range [][2]string{
		{"", ""},
		{"a", "a"},
		{"f(a,g(a))", "a g(a) f(a,g(a))"},
		// The order of the subterms: those of the arguments come first, from the first to the last.
		{"f(a,b)", "a b f(a,b)"}, {"f(b,a)", "b a f(b,a)"}, {"f(g(a),b)", "a g(a) b f(g(a),b)"}, {"f(b,g(a))", "b a g(a) f(b,g(a))"}, {"f(g(h(a)))", "a h(a) g(h(a)) f(g(h(a)))"},
		{"f(g(a,b),h(c,d))", "a b g(a,b) c d h(c,d) f(g(a,b),h(c,d))"}, {"z y x", "z y x"}, {"f(b) f(a)", "b f(b) a f(a)"},
		// A term, or a part, that is there twice.
		{"a a", "a"}, {"a b a", "a b"}, {"f(a,a)", "a f(a,a)"}, {"f(a) f(a)", "a f(a)"}, {"f(g(a),g(a))", "a g(a) f(g(a),g(a))"}, {"f(g(a),a)", "a g(a) f(g(a),a)"}, {"a(a(a(a)))", "a a(a) a(a(a)) a(a(a(a)))"},
		// A term that is part of two others, and one that comes before or behind the one that it is a part of.
		{"f(a) g(a)", "a f(a) g(a)"}, {"f(h(a)) g(h(a))", "a h(a) f(h(a)) g(h(a))"}, {"a f(a)", "a f(a)"}, {"f(a) a", "a f(a)"}, {"f(b,a) f(a,b)", "b a f(b,a) f(a,b)"}, {"v(x,f(a)) f(a) a", "x a f(a) v(x,f(a))"}, {"g(a) f(b,g(a))", "a g(a) b f(b,g(a))"},
		// The same name with other arguments, or more of them.
		{"f f(a) f(a,a) f(a,b)", "f a f(a) f(a,a) b f(a,b)"}, {"f(f,f(f))", "f f(f) f(f,f(f))"}, {"a aa b", "a aa b"}, {"f(a,b) f(ab)", "a b f(a,b) ab f(ab)"}, {"f(a) f(b)", "a f(a) b f(b)"},
		// As many terms as there may be.
		{"f(g(h(a,b),h(c,d)),g(h(x),y))", "a b h(a,b) c d h(c,d) g(h(a,b),h(c,d)) x h(x) y g(h(x),y) f(g(h(a,b),h(c,d)),g(h(x),y))"},
		{"f(f(f(a,a),f(a,a)),f(f(a,a)))", "a f(a,a) f(f(a,a),f(a,a)) f(f(a,a)) f(f(f(a,a),f(a,a)),f(f(a,a)))"},
	} {
		var list []impl.Term
		for _, text := range strings.Fields(c[0]) {
			list = append(list, readTerm(t, text))
		}
		if got := termTexts(impl.TermParts(list)); got != c[1] {
			t.Errorf("TermParts of %s: %s; want %s", c[0], got, c[1])
		}
	}
	if len(impl.TermParts(nil)) != 0 || len(impl.TermParts([]impl.Term{})) != 0 {
		t.Error("no terms have no parts")
	}
}

func TestTermPartsRefuses(t *testing.T) {
	good := app("f", app("a"), app("b"))
	for i, bad := range append(badTerms(), endlessTerms()...) {
		for _, list := range [][]impl.Term{{bad}, {bad, good}, {good, bad}, {good, bad, good}, {bad, bad}} {
			if got := impl.TermParts(list); len(got) != 0 {
				t.Errorf("bad term %d: TermParts is %.100q", i, termTexts(got))
			}
		}
	}
}

// partTexts is the texts of the parts, by the document and without the function under test.
func partTexts(list []impl.Term, known []string) []string {
	for _, x := range list {
		known = partTexts(x.Kids, known)
		if text := writeTerm(x); !slices.Contains(known, text) {
			known = append(known, text)
		}
	}
	return known
}

func TestTermPartsAreAsDefined(t *testing.T) {
	s := numbers(44444)
	for range 20000 {
		var list []impl.Term
		for range s.below(6) {
			if x := s.term(1 + s.below(deepLimit)); sizeOf(x) <= termLimit {
				list = append(list, x)
			}
		}
		if got, want := termTexts(impl.TermParts(list)), strings.Join(partTexts(list, nil), " "); got != want {
			t.Fatalf("TermParts of %s: %s; want %s", termTexts(list), got, want)
		}
	}
	// There is no limit here for the number of terms, or of different ones.
	var many []impl.Term
	for i := range 26 * 26 {
		many = append(many, app("f", app(string([]byte{byte('a' + i/26), byte('a' + i%26)}))))
	}
	for range 8 {
		many = append(many, many...)
	}
	if got := impl.TermParts(many); len(got) != 2*26*26 || writeTerm(got[2*26*26-1]) != "f(zz)" {
		t.Errorf("%d parts of many terms", len(got))
	}
}

// termCells notes each place in the memory of terms, also the unused ones; it reports whether one was noted before.
func termCells(list []impl.Term, known map[*impl.Term]bool) bool {
	twice := false
	all := list[:cap(list)]
	for i := range all {
		twice = twice || known[&all[i]]
		known[&all[i]] = true
	}
	for _, x := range list {
		twice = termCells(x.Kids, known) || twice
	}
	return twice
}

// sortCells does the same for the sorts of the arguments, and for the symbols.
func sortCells(s impl.Sig, ints map[*int]bool, syms map[*impl.Sym]bool) bool {
	twice := false
	all := s.Syms[:cap(s.Syms)]
	for i := range all {
		twice = twice || syms[&all[i]]
		syms[&all[i]] = true
		args := all[i].Args[:cap(all[i].Args)]
		for j := range args {
			twice = twice || ints[&args[j]]
			ints[&args[j]] = true
		}
	}
	return twice
}

// TestTermMemory checks that each result is new memory at every level, and that nothing writes to an argument, also beyond its length.
func TestTermMemory(t *testing.T) {
	// The arguments share memory with one another, and have room beyond their lengths.
	shared := []impl.Term{app("a"), app("b"), app("y"), app("z")}
	list := []impl.Term{{Name: "f", Kids: shared[:2]}, {Name: "g", Kids: shared[:1]}, {Name: "f", Kids: shared[:2]}, app("spare"), app("h", app("spare"))}
	list = append(list, impl.Term{Name: "h", Kids: list[:2]})
	state := func() string { return termTexts(list) + " / " + termTexts(shared) }
	before := state()
	cells := map[*impl.Term]bool{}
	termCells(list, cells)
	termCells(shared, cells)
	arguments := []impl.Term{list[5], list[0], list[5]}
	parts, again := impl.TermParts(arguments), impl.TermParts(arguments)
	if got := termTexts(parts); got != "a b f(a,b) g(a) h(f(a,b),g(a))" || termTexts(again) != got {
		t.Fatal(got)
	}
	termCells(arguments, cells)
	if termCells(parts, cells) || termCells(again, cells) {
		t.Error("the results of TermParts share memory")
	}
	for _, x := range sampleTerms() {
		one := []impl.Term{x}
		known := map[*impl.Term]bool{}
		termCells(one, known)
		if termCells(impl.TermParts(one), known) || termCells(impl.TermParts(one), known) {
			t.Errorf("the parts of %s share memory", writeTerm(x))
		}
	}
	for range 2 {
		x := readTerm(t, "f(g(a,a),g(a,a))")
		if termCells(x.Kids, cells) {
			t.Error("the results of TermRead share memory")
		}
	}
	s := sigOf(sym("a", 0), sym("f", 0, 0, 0), sym("g", 0, 1), sym("x", 1))
	impl.TermSame(list[5], list[5])
	impl.TermText(list[5])
	impl.TermSort(impl.Sig{Syms: s.Syms[:3]}, list[5])
	if state() != before || !equalSig(s, sigOf(sym("a", 0), sym("f", 0, 0, 0), sym("g", 0, 1), sym("x", 1))) {
		t.Errorf("an argument has changed: %s, %v", state(), s)
	}
	ints, syms := map[*int]bool{}, map[*impl.Sym]bool{}
	for range 2 {
		if sortCells(readSig(t, "a - 0\nf 00 0\ng 0 1\nh 00 0\n"), ints, syms) {
			t.Error("the results of SigRead share memory")
		}
	}
}

func TestSigArgumentsStayAsTheyAre(t *testing.T) {
	args := []int{0, 1, 1, 5}
	syms := []impl.Sym{{Name: "b", Args: args[:2]}, {Name: "c", Args: args[1:3], Sort: 1}, {Name: "a", Args: args[:4], Sort: 7}}
	s := impl.Sig{Syms: syms[:2]}
	x := app("b", app("a"))
	if got := impl.SigText(s); got != "b 01 0\nc 11 1\n" {
		t.Errorf("%q", got)
	}
	impl.SigOk(impl.Sig{Syms: syms})
	impl.SigText(impl.Sig{Syms: syms})
	impl.SigSame(s, impl.Sig{Syms: syms})
	impl.TermSort(s, x)
	want := sigOf(sym("b", 0, 0, 1), sym("c", 1, 1, 1), sym("a", 7, 0, 1, 1, 5))
	if !equalSig(impl.Sig{Syms: syms}, want) {
		t.Errorf("an argument has changed: %v", syms)
	}
}

// TestTermLimitsInTexts reads as many symbols and terms as there may be, and one more.
func TestTermLimitsInTexts(t *testing.T) {
	text := ""
	for i := range symLimit + 3 {
		_, ok := impl.SigRead(text)
		if ok != (i <= symLimit) {
			t.Errorf("%d symbols: %v", i, ok)
		}
		text += string(rune('a'+i)) + " " + strconv.Itoa(i%2) + " 0\n"
	}
	for deep := 1; deep <= deepLimit+3; deep++ {
		_, ok := impl.TermRead(strings.Repeat("f(", deep-1) + "a" + strings.Repeat(")", deep-1))
		if ok != (deep <= deepLimit) {
			t.Errorf("depth %d: %v", deep, ok)
		}
	}
	for count := range argLimit + 3 {
		_, ok := impl.TermRead("f(" + strings.Join(slices.Repeat([]string{"a"}, count), ",") + ")")
		if ok != (1 <= count && count <= argLimit) {
			t.Errorf("%d arguments: %v", count, ok)
		}
		_, ok = impl.SigRead("f " + strings.Repeat("1", count) + " 0\n")
		if ok != (1 <= count && count <= argLimit) {
			t.Errorf("%d sorts of arguments: %v", count, ok)
		}
	}
}
