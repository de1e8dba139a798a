package tests

import (
	"math"
	"math/big"
	"regexp"
	"slices"
	"strconv"
	"strings"
	"testing"

	"loop.example/compurgator/impl"
)

// This repeats the document's number, so that a wrong constant of impl fails too.
const modelLimit = 40

func TestModelConstants(t *testing.T) {
	if impl.ModelMost != modelLimit {
		t.Error(impl.ModelMost)
	}
}

// row, whole and modelOf write models shorter; they may be invalid.
func row(name string, val impl.Rat, args ...impl.Rat) impl.Row {
	return impl.Row{Name: name, Args: args, Val: val}
}

func whole(n int) impl.Rat { return impl.Rat{N: n, D: 1} }

func over(n int, d int) impl.Rat { return impl.Rat{N: n, D: d} }

func modelOf(rows ...impl.Row) impl.Model { return impl.Model{Rows: rows} }

// writeRatio writes any fraction, without the function under test.
func writeRatio(a impl.Rat) string {
	if a.D == 1 {
		return strconv.Itoa(a.N)
	}
	return strconv.Itoa(a.N) + "/" + strconv.Itoa(a.D)
}

// writeModel writes any model, without the function under test.
func writeModel(m impl.Model) string {
	text := ""
	for _, r := range m.Rows {
		text += r.Name
		for _, arg := range r.Args {
			text += " " + writeRatio(arg)
		}
		text += " = " + writeRatio(r.Val) + "\n"
	}
	return text
}

// equalModel compares field by field, without the function under test.
func equalModel(a impl.Model, b impl.Model) bool {
	return slices.EqualFunc(a.Rows, b.Rows, func(x impl.Row, y impl.Row) bool {
		return x.Name == y.Name && slices.Equal(x.Args, y.Args) && x.Val == y.Val
	})
}

// copyModel is a model in other memory.
func copyModel(m impl.Model) impl.Model {
	var other impl.Model
	for _, r := range m.Rows {
		other.Rows = append(other.Rows, row(r.Name, r.Val, slices.Clone(r.Args)...))
	}
	return other
}

// isRatio is what the document says of a valid fraction.
func isRatio(a impl.Rat) bool {
	return a.D > 0 && a.D <= ratLimit && -ratLimit <= a.N && a.N <= ratLimit && bigOf(a).Denom().Int64() == int64(a.D)
}

// rowOrder compares the rows of valid fractions in the document's order.
func rowOrder(a impl.Row, b impl.Row) int {
	if a.Name != b.Name {
		return strings.Compare(a.Name, b.Name)
	}
	if len(a.Args) != len(b.Args) {
		return len(a.Args) - len(b.Args)
	}
	for i := range a.Args {
		if order := bigOf(a.Args[i]).Cmp(bigOf(b.Args[i])); order != 0 {
			return order
		}
	}
	return 0
}

// hasRows is what the document says of well-formed rows.
func hasRows(m impl.Model) bool {
	for _, r := range m.Rows {
		if !nameShape.MatchString(r.Name) || len(r.Args) > argLimit || !isRatio(r.Val) || slices.ContainsFunc(r.Args, func(a impl.Rat) bool { return !isRatio(a) }) {
			return false
		}
	}
	for i := 1; i < len(m.Rows); i++ {
		if rowOrder(m.Rows[i-1], m.Rows[i]) >= 0 {
			return false
		}
	}
	return len(m.Rows) <= modelLimit
}

// isModel is what the document says of a model that is valid under a valid signature.
func isModel(s impl.Sig, m impl.Model) bool {
	return hasRows(m) && !slices.ContainsFunc(m.Rows, func(r impl.Row) bool {
		return !slices.ContainsFunc(s.Syms, func(y impl.Sym) bool { return tellsOf(r, y) })
	})
}

// tellsOf reports whether a row agrees with a symbol.
func tellsOf(r impl.Row, y impl.Sym) bool {
	if r.Name != y.Name || len(r.Args) != len(y.Args) || y.Sort == thing && r.Val.D != 1 {
		return false
	}
	for i, arg := range r.Args {
		if y.Args[i] == thing && arg.D != 1 {
			return false
		}
	}
	return true
}

// sampleModels are well-formed rows with their texts; some are at the limits.
func sampleModels() map[string]impl.Model {
	most, least := whole(ratLimit), over(1, ratLimit)
	return map[string]impl.Model{
		"":                                   {},
		"a = 1\n":                            modelOf(row("a", whole(1))),
		"zz = 0\n":                           modelOf(row("zz", whole(0))),
		"x = -1/2\n":                         modelOf(row("x", over(-1, 2))),
		"a = 1\nh 1 = 1/2\n":                 modelOf(row("a", whole(1)), row("h", over(1, 2), whole(1))),
		"f 0 0 = 0\n":                        modelOf(row("f", whole(0), whole(0), whole(0))),
		"a = 0\naa = 0\nb = 0\n":             modelOf(row("a", whole(0)), row("aa", whole(0)), row("b", whole(0))),
		"a = 3\na 1 = 2\na 0 0 = 1\n":        modelOf(row("a", whole(3)), row("a", whole(2), whole(1)), row("a", whole(1), whole(0), whole(0))),
		"a 9 9 = 3\naa = 2\nab = 1\nb = 0\n": modelOf(row("a", whole(3), whole(9), whole(9)), row("aa", whole(2)), row("ab", whole(1)), row("b", whole(0))),
		"h -2 = 0\nh -1 = 0\nh 0 = 0\nh 1 = 0\nh 9 = 0\nh 10 = 0\n":                   modelOf(row("h", whole(0), whole(-2)), row("h", whole(0), whole(-1)), row("h", whole(0), whole(0)), row("h", whole(0), whole(1)), row("h", whole(0), whole(9)), row("h", whole(0), whole(10))),
		"h -1/2 = 4\nh -1/3 = 3\nh 1/3 = 2\nh 1/2 = 1\nh 2/3 = 0\nh 1 = -1\n":         modelOf(row("h", whole(4), over(-1, 2)), row("h", whole(3), over(-1, 3)), row("h", whole(2), over(1, 3)), row("h", whole(1), over(1, 2)), row("h", whole(0), over(2, 3)), row("h", whole(-1), whole(1))),
		"f -1 5 = 1\nf 0 4 = 1\nf 1 -1 = 1\nf 1 1/3 = 1\nf 1 1/2 = 1\nf 3/2 -9 = 1\n": modelOf(row("f", whole(1), whole(-1), whole(5)), row("f", whole(1), whole(0), whole(4)), row("f", whole(1), whole(1), whole(-1)), row("f", whole(1), whole(1), over(1, 3)), row("f", whole(1), whole(1), over(1, 2)), row("f", whole(1), over(3, 2), whole(-9))),
		"h -1000000000 = -1000000000\nh -1/1000000000 = -1/1000000000\nh 1/1000000000 = 1/1000000000\nh 999999999/1000000000 = 1000000000/999999999\nh 1000000000 = 1000000000\n": modelOf(
			row("h", whole(-ratLimit), whole(-ratLimit)), row("h", over(-1, ratLimit), over(-1, ratLimit)), row("h", least, least), row("h", over(ratLimit, ratLimit-1), over(ratLimit-1, ratLimit)), row("h", most, most)),
		"f 1000000000 -1000000000 = -999999999/1000000000\nf 1000000000 1000000000 = -1000000000/999999999\n": modelOf(row("f", over(1-ratLimit, ratLimit), most, whole(-ratLimit)), row("f", over(-ratLimit, ratLimit-1), most, most)),
		// Neighbours among fractions, which differ by less than a double can show.
		"h 999999997/999999998 = 1\nh 999999998/999999999 = 2\nh 999999999/1000000000 = 3\n": modelOf(row("h", whole(1), over(999999997, 999999998)), row("h", whole(2), over(999999998, 999999999)), row("h", whole(3), over(999999999, ratLimit))),
	}
}

// manyRowsOf is so many rows that ascend.
func manyRowsOf(count int) impl.Model {
	var m impl.Model
	for i := range count {
		m.Rows = append(m.Rows, row("h", over(1, 2), whole(i-7)))
	}
	return m
}

func TestModelText(t *testing.T) {
	list := sampleModels()
	list[writeModel(manyRowsOf(modelLimit))] = manyRowsOf(modelLimit)
	list[writeModel(manyRowsOf(modelLimit-1))] = manyRowsOf(modelLimit - 1)
	for text, m := range list {
		if writeModel(m) != text || !hasRows(m) || !isModelText(text) {
			t.Fatalf("the test's own %q is not the text of %v", text, m)
		}
		checkRows(t, m)
	}
}

// checkRows checks the texts of any rows.
func checkRows(t *testing.T, m impl.Model) {
	t.Helper()
	ok, text := hasRows(m), writeModel(m)
	want := map[bool]string{true: text}[ok]
	if got := impl.ModelText(m); got != want {
		t.Errorf("ModelText(%.200v) = %.200q; want %.200q", m, got, want)
	}
	back, backOk := impl.ModelRead(text)
	if backOk != ok || ok && !equalModel(back, m) || !ok && len(back.Rows) > 0 {
		t.Errorf("ModelRead(%.200q) = %.200v, %v; want %v", text, back, backOk, ok)
	}
	if !impl.ModelSame(m, copyModel(m)) {
		t.Errorf("%.200v is not the same as itself", m)
	}
}

// badRows break one condition of well-formed rows, or more.
func badRows() []impl.Model {
	one, two := whole(1), whole(2)
	list := []impl.Model{
		modelOf(impl.Row{}), modelOf(impl.Row{Val: one}), modelOf(impl.Row{Name: "a"}), modelOf(make([]impl.Row, 1000)...),
		// Too many rows, or arguments.
		manyRowsOf(modelLimit + 1), manyRowsOf(1000), modelOf(row("f", one, one, one, one)), modelOf(row("f", one, slices.Repeat([]impl.Rat{one}, 1000)...)), modelOf(row("f", one, make([]impl.Rat, 1000)...)), modelOf(row("a", one), row("f", one, one, one, one), row("g", one)),
		// Rows that are there twice, also with other values.
		modelOf(row("a", one), row("a", one)), modelOf(row("a", one), row("a", two)), modelOf(row("h", one, one), row("h", one, one)), modelOf(row("h", one, one), row("h", two, one)), modelOf(row("h", two, one), row("h", one, one)), modelOf(row("f", one, one, two), row("f", two, one, two)), modelOf(row("a", one), row("b", one), row("b", two)), modelOf(row("a", one), row("a", two), row("b", two)),
		modelOf(row("h", one, over(1, 2)), row("h", one, over(1, 2))), modelOf(row("h", one, one), row("h", one, two), row("h", one, one)),
		// Names out of order, at each place.
		modelOf(row("b", one), row("a", one)), modelOf(row("aa", one), row("a", one)), modelOf(row("b", one), row("aa", one)), modelOf(row("ab", one), row("aa", one)), modelOf(row("b", one), row("a", one), row("c", one)), modelOf(row("a", one), row("c", one), row("b", one)), modelOf(row("b", one), row("a", one, one)), modelOf(row("b", one), row("a", one, one, one)),
		// Numbers of arguments out of order.
		modelOf(row("a", one, one), row("a", one)), modelOf(row("a", one, one, one), row("a", one)), modelOf(row("a", one, one, one), row("a", one, two)), modelOf(row("a", one), row("a", one, one, one), row("a", one, two)),
		// Arguments out of order, the first, the last, with different denominators.
		modelOf(row("h", one, two), row("h", one, one)), modelOf(row("h", one, one), row("h", one, whole(0))), modelOf(row("h", one, whole(-1)), row("h", one, whole(-2))), modelOf(row("h", one, whole(10)), row("h", one, whole(9))), modelOf(row("h", one, over(1, 2)), row("h", one, over(1, 3))), modelOf(row("h", one, over(2, 3)), row("h", one, over(3, 5))), modelOf(row("h", one, over(-1, 3)), row("h", one, over(-1, 2))), modelOf(row("h", one, one), row("h", one, over(1, 2))), modelOf(row("h", one, over(3, 2)), row("h", one, one)),
		modelOf(row("f", one, two, one), row("f", one, one, two)), modelOf(row("f", one, one, two), row("f", one, one, one)), modelOf(row("f", one, over(1, 2), one), row("f", one, over(1, 3), two)), modelOf(row("f", one, one, over(1, 2)), row("f", one, one, over(1, 3))), modelOf(row("h", one, over(999999999, ratLimit)), row("h", one, over(999999998, 999999999))), modelOf(row("f", one, whole(ratLimit), one), row("f", one, whole(-ratLimit), two)),
	}
	for _, bad := range invalidRats() {
		list = append(list, modelOf(row("a", bad)), modelOf(row("h", bad, one)), modelOf(row("h", one, bad)), modelOf(row("f", one, bad, one)), modelOf(row("f", one, one, bad)), modelOf(row("f", bad, bad, bad)), modelOf(row("a", one), row("b", bad), row("c", one)), modelOf(row("a", one), row("a", one, bad), row("b", one)))
	}
	for _, name := range badNames() {
		list = append(list, modelOf(row(name, one)), modelOf(row(name, one, one)), modelOf(row(name, whole(0), one, two)))
		if name < "b" {
			list = append(list, modelOf(row(name, one), row("b", one)))
		}
		if name > "b" {
			list = append(list, modelOf(row("b", one), row(name, one)))
		}
	}
	return list
}

// TestModelRefuses tries rows that are not well-formed in each of the functions.
func TestModelRefuses(t *testing.T) {
	list := []impl.Sig{readSig(t, ""), readSig(t, "a - 1\nb - 1\nf 11 1\nh 1 1\nx - 1\n"), readSig(t, "a - 0\nb - 0\nc - 0\nf 00 0\nh 0 0\n"), readSig(t, "a 1 1\nb - 1\nx - 1\n"), readSig(t, "a 11 1\naa - 1\nb - 1\n"), sigOf(sym("", num), sym("x", num))}
	for i, m := range badRows() {
		if hasRows(m) {
			t.Fatalf("the test's own rows %v are well-formed", m)
		}
		checkRows(t, m)
		for _, s := range list {
			checkNoModel(t, strconv.Itoa(i), s, m)
		}
	}
}

// checkNoModel checks all functions that ask for a valid model.
func checkNoModel(t *testing.T, what string, s impl.Sig, m impl.Model) {
	t.Helper()
	if impl.ModelOk(s, m) {
		t.Errorf("%s: ModelOk(%v, %.200v)", what, s, m)
	}
	for _, x := range []impl.Term{app("a"), app("b"), app("x"), app("h", app("b")), {}} {
		if val, ok := impl.ModelTerm(s, m, x); ok || val != (impl.Rat{}) {
			t.Errorf("%s: ModelTerm(%v, %.200v, %v) = %v, %v", what, s, m, x, val, ok)
		}
		for _, a := range []impl.Atom{eqOf(x, x), sumOf(boundLimit, ints(1), x), {}} {
			for _, no := range []bool{false, true} {
				if so, ok := impl.ModelLit(s, m, impl.Lit{Atom: a, No: no}); so || ok {
					t.Errorf("%s: ModelLit(%v, %.200v, %s) = %v, %v", what, s, m, writeAtom(a), so, ok)
				}
				if impl.ModelAll(s, m, []impl.Lit{{Atom: a, No: no}}) {
					t.Errorf("%s: ModelAll(%v, %.200v, %s)", what, s, m, writeAtom(a))
				}
			}
		}
	}
	if impl.ModelAll(s, m, nil) || impl.ModelAll(s, m, []impl.Lit{}) {
		t.Errorf("%s: ModelAll(%v, %.200v) of no literals", what, s, m)
	}
}

// readModel reads a model that the test itself needs, and checks that it has that text.
func readModel(t *testing.T, text string) impl.Model {
	t.Helper()
	m, ok := impl.ModelRead(text)
	if !ok || impl.ModelText(m) != text || writeModel(m) != text {
		t.Fatalf("ModelRead(%q) = %v, %v", text, m, ok)
	}
	return m
}

var modelShape = regexp.MustCompile(`\A(?:[a-z]{1,2}(?: (?:0|-?[1-9][0-9]{0,9})(?:/[1-9][0-9]{0,9})?){0,2} = (?:0|-?[1-9][0-9]{0,9})(?:/[1-9][0-9]{0,9})?\n)*\z`)

// isModelText is what the document says of the texts of models, without the functions under test.
func isModelText(text string) bool {
	if !modelShape.MatchString(text) {
		return false
	}
	var m impl.Model
	for line := range strings.Lines(text) {
		words := strings.Fields(strings.Replace(line, "=", "", 1))
		var vals []impl.Rat
		for _, word := range words[1:] {
			upper, lower, cut := strings.Cut(word, "/")
			if cut && lower == "1" {
				return false
			}
			n, _ := strconv.Atoi(upper)
			d, _ := strconv.Atoi("0" + lower)
			vals = append(vals, impl.Rat{N: n, D: max(d, 1)})
		}
		last := len(vals) - 1
		m.Rows = append(m.Rows, row(words[0], vals[last], vals[:last]...))
	}
	return hasRows(m)
}

// checkModelRead checks what is read from any text.
func checkModelRead(t *testing.T, text string) {
	t.Helper()
	m, ok := impl.ModelRead(text)
	if want := isModelText(text); ok != want {
		t.Errorf("ModelRead(%.60q) = %.200v, %v; want %v", text, m, ok, want)
	}
	if ok && (impl.ModelText(m) != text || writeModel(m) != text || !hasRows(m)) || !ok && len(m.Rows) > 0 {
		t.Errorf("ModelRead(%.60q) = %.200v, %v", text, m, ok)
	}
}

func TestModelReadRefuses(t *testing.T) {
	for _, text := range []string{
		// No newline at the end, empty lines, other line breaks.
		"a = 1", "a = 1\nb = 2", "\n", "\n\n", "a = 1\n\n", "\na = 1\n", "a = 1\n\nb = 2\n", "a = 1\r\n", "a = 1\r", "a = 1\n\r", "a = 1\n ", "a = 1\n\t\n", "a = 1;b = 2\n", "a = 1 b = 2\n", "a = 1, b = 2\n", "a = 1\vb = 2\n", "a = 1\u2028b = 2\n", " ", "  \n", " \n",
		// A name, a value or the sign missing, or there twice.
		"a\n", "a \n", "a =\n", "a = \n", "a  \n", "= 1\n", " = 1\n", "=\n", "==\n", " = \n", "a 1\n", "a 1 \n", "1\n", "a = = 1\n", "a == 1\n", "a = 1 =\n", "a = 1 = 1\n", "a = 1 1\n", "a = 1 2 3\n", "h 1 =\n", "h 1 = \n", "h 1\n", "h 1 2\n", "h 1 2 3\n", "a a = 1\n", "a b = 1\n", "a = b\n", "a = a\n", "h x = 1\n", "h 1 x = 1\n", "h 1 = x\n", "f 1 x = 1\n", "f x 1 = 1\n", "1 = a\n", "1 = 1\n", "1 h = 1\n", "h 1 = = 1\n", "h = 1 = 1\n", "h = 1 1\n", "f = 1 1 1\n",
		// Another sign.
		"a := 1\n", "a < 1\n", "a != 1\n", "a - 1\n", "a > 1\n", "a : 1\n", "a ＝ 1\n", "a is 1\n", "a =1\n", "a= 1\n", "a=1\n", "a =\n1\n", "a\n= 1\n", "h(1) = 1\n", "h 1, 2 = 1\n", "f 1,2 = 1\n", "f(1,2) = 1\n",
		// Spaces too many or missing, or other ones.
		" a = 1\n", "a = 1 \n", "a  = 1\n", "a =  1\n", "a  1 = 1\n", "h  1 = 1\n", "h 1  = 1\n", "h 1 =  1\n", "h1 = 1\n", "h 1= 1\n", "h 1 =1\n", "f 1  2 = 1\n", "f 12= 1\n", "a\t= 1\n", "a =\t1\n", "h\t1 = 1\n", "a\u00a0= 1\n", "a = 1\u00a0\n", "a = - 1\n", "a = 1 /2\n", "a = 1/ 2\n", "a = 1 / 2\n", "h - 1 = 1\n", "h 1 / 2 = 1\n", "a = 1\n b = 1\n", "a = 1 \nb = 1\n",
		// Fractions that are not in lowest terms, or written in another way.
		"a = 2/2\n", "a = 2/4\n", "a = 1/1\n", "a = 4/2\n", "a = 0/1\n", "a = 0/2\n", "a = -2/4\n", "h 2/4 = 1\n", "h 0/1 = 1\n", "h 5/1 = 1\n", "f 1 2/4 = 1\n", "f 2/4 1 = 1\n", "a = 1/0\n", "a = 0/0\n", "h 1/0 = 1\n", "h 0/0 = 1\n", "f 0/0 0/0 = 0/0\n", "a = 1/-2\n", "a = -1/-2\n", "h 1/-2 = 1\n", "a = 1/2/3\n", "a = 1//2\n", "a = /2\n", "a = 1/\n", "a = /\n", "a = 0.5\n", "a = 1.0\n", "a = .5\n", "a = 5.\n", "h 0.5 = 1\n", "a = 1e3\n", "a = 0x1\n", "a = 1_0\n", "a = (1)\n", "a = 1:2\n", "a = 1÷2\n", "a = ½\n", "a = \u0661\n", "a = １\n",
		// Leading zeros, plus signs, and zeros below zero.
		"a = 00\n", "a = 01\n", "a = -01\n", "a = 1/02\n", "a = 01/2\n", "a = +1\n", "a = +0\n", "a = -0\n", "a = -0/1\n", "a = --1\n", "a = +1/2\n", "a = 1/+2\n", "a = -\n", "a = +\n", "a = 1-\n", "h 00 = 1\n", "h 01 = 1\n", "h +1 = 1\n", "h -0 = 1\n", "h - = 1\n", "h 1/02 = 1\n", "f 1 -0 = 1\n", "f -0 1 = 1\n", "f 1 +1 = 1\n", "f 1 01 = 1\n", "f 01 1 = 1\n",
		// Numbers out of range.
		"a = 1000000001\n", "a = -1000000001\n", "a = 1/1000000001\n", "a = -1/1000000001\n", "a = 1000000001/2\n", "a = 2000000000/3\n", "h 1000000001 = 1\n", "h -1000000001 = 1\n", "h 1/1000000001 = 1\n", "f 1 1000000001 = 1\n", "f 1/1000000001 1 = 1\n", "a = 2147483648\n", "a = 4294967296\n", "a = 4294967297\n", "a = 1/4294967297\n", "a = 9223372036854775807\n", "a = 9223372036854775808\n", "a = -9223372036854775808\n", "a = 18446744073709551617\n", "a = 1/18446744073709551617\n", "h 18446744073709551617 = 1\n", "a = 10000000000\n",
		// Names that are none.
		"A = 1\n", "aA = 1\n", "abc = 1\n", "a1 = 1\n", "1a = 1\n", "a' = 1\n", "_ = 1\n", "a_ = 1\n", "- = 1\n", "é = 1\n", "aé = 1\n", "A 1 = 1\n", "abc 1 2 = 1\n", "a(a) = 1\n",
		// Arguments too many.
		"f 1 1 1 = 1\n", "f 1 1 1 1 = 1\n", "f 1 2 3 = 1\n", "f 1 1 = 1 = 1\n", "f 1 1 = = 1\n", "f 1 1  = 1\n", "f 1 1 1 1\n",
		// Rows out of order, or there twice.
		"a = 1\na = 1\n", "a = 1\na = 2\n", "b = 1\na = 1\n", "aa = 1\na = 1\n", "b = 1\naa = 1\n", "h 1 = 1\nh = 1\n", "h 1 1 = 1\nh 2 = 1\n", "h 1 1 = 1\nh = 1\n", "h 1 = 1\nh 0 = 1\n", "h 10 = 1\nh 9 = 1\n", "h -1 = 1\nh -2 = 1\n", "h 1 = 1\nh -1 = 1\n", "h 1/2 = 1\nh 1/3 = 1\n", "h -1/3 = 1\nh -1/2 = 1\n", "h 1 = 1\nh 1/2 = 1\n", "h 2/3 = 1\nh 3/5 = 1\n", "h 1/2 = 1\nh 1/2 = 2\n", "f 1 1 = 1\nf 0 2 = 1\n", "f 1 2 = 1\nf 1 1 = 1\n", "f 1 1/2 = 1\nf 1 1/3 = 1\n", "f 1 1 = 1\nf 1 1 = 1\n", "a = 1\nc = 1\nb = 1\n", "a = 1\nb = 1\na 1 = 1\n",
		// Bytes that are not ASCII, and others that are not written.
		"\xff", "\xff\n", "\x00", "\x00\n", "a = 1\n\xff", "a = 1\xff\n", "a = \xff\n", "\xffa = 1\n", "a\xff = 1\n", "a \xff= 1\n", "a = 1\n\x00", "a = 1\x00\n", "a\x00 = 1\n", "\ufeffa = 1\n", "h \xff = 1\n", "h 1\xff = 1\n",
		// Long ones.
		strings.Repeat("\n", 1000000), strings.Repeat(" ", 1000000), strings.Repeat("=", 1000000), strings.Repeat("a", 1000000), strings.Repeat("1 ", 1000000), "a " + strings.Repeat("1 ", 1000000) + "= 1\n", "a" + strings.Repeat(" = 1", 1000000) + "\n", "a" + strings.Repeat(" =", 1000000) + " 1\n", strings.Repeat("a = 1\n", 1000000), strings.Repeat("a", 100000) + " = 1\n", "a = " + strings.Repeat("1", 100000) + "\n", "a = " + strings.Repeat("0", 100000) + "1\n", "a = 1/" + strings.Repeat("1", 100000) + "\n", "a = 1" + strings.Repeat("/1", 100000) + "\n", "a = " + strings.Repeat("-", 100000) + "1\n", "h " + strings.Repeat("0", 100000) + " = 1\n", "a = 1\n" + strings.Repeat("\n", 100000), "a = 1" + strings.Repeat(" ", 100000) + "\n", strings.Repeat(" \n", 100000), strings.Repeat("= \n", 100000),
		writeModel(manyRowsOf(modelLimit)) + "\n", writeModel(manyRowsOf(modelLimit)) + "x", writeModel(manyRowsOf(modelLimit)) + " = ", strings.TrimSuffix(writeModel(manyRowsOf(modelLimit)), "\n"), writeModel(manyRowsOf(modelLimit + 1)), writeModel(manyRowsOf(2000)),
	} {
		if isModelText(text) {
			t.Errorf("%.40q is the text of a model", text)
		}
		checkModelRead(t, text)
	}
}

// TestModelReadTakesJustTheTexts tries the texts that differ from a right one by a byte or two.
func TestModelReadTakesJustTheTexts(t *testing.T) {
	const some = "ahz= /-+0129\n\t\x00\xff"
	for text := range sampleModels() {
		for _, changed := range changedBytes(text, some) {
			checkModelRead(t, changed)
		}
	}
	for _, text := range []string{"", "a = 1\n", "x = -1/2\n", "h 0 = 3\n", "f 1 -2 = 0\n", "a = 1\nb = 2\n"} {
		for _, changed := range changedBytes(text, some) {
			for _, twice := range changedBytes(changed, "ab= /-012\n") {
				checkModelRead(t, twice)
			}
		}
	}
	for _, text := range []string{"h 1 2/3 = -4\n", "a = 1\naa 1/2 = 0\n"} {
		for _, changed := range changedBytes(text, everyByte()) {
			checkModelRead(t, changed)
		}
	}
}

// TestModelOrder tries each two, and some more, of rows in either order.
func TestModelOrder(t *testing.T) {
	var list []impl.Row
	for _, text := range []string{"a = 1\na 2 = 0\na 0 0 = 1\n", "aa = 0\nab = 0\nb = 0\nb 9 = 1\nba = 0\n", "h -1000000000 = 0\nh -1 = 0\nh -1/1000000000 = 0\nh 0 = 0\nh 1/3 = 0\nh 1/2 = 0\nh 1000000000 = 0\n", "f -3/2 3 = 0\nf -3/2 7/2 = 0\nf 0 -1 = 0\nf 0 1 = 0\nf 1/3 0 = 0\nf 1/2 0 = 0\nf 10 -10 = 0\n", "h 999999998/999999999 = 0\nh 999999999/1000000000 = 0\n"} {
		list = append(list, readModel(t, text).Rows...)
	}
	for _, a := range list {
		for _, b := range list {
			checkRows(t, modelOf(a, b))
			other := b
			other.Val = over(1, 2)
			checkRows(t, modelOf(a, other))
		}
	}
	s := numbers(77)
	ascending := 0
	for range 4000 {
		var rows []impl.Row
		for range 3 + s.below(3) {
			rows = append(rows, list[s.below(len(list))])
		}
		if s.below(2) == 0 {
			slices.SortFunc(rows, rowOrder)
		}
		checkRows(t, modelOf(rows...))
		if hasRows(modelOf(rows...)) {
			ascending++
		}
	}
	if ascending < 500 || ascending > 3500 {
		t.Errorf("%d of the models ascend", ascending)
	}
}

// modelSig has both sorts in each place.
const modelSig = "a - 0\nb - 0\nf 0 0\nh 0 1\nn 11 1\nt 10 0\nx - 1\n"

func TestModelOk(t *testing.T) {
	s := readSig(t, modelSig)
	for _, c := range []struct {
		text string
		ok   bool
	}{
		{"", true}, {"a = 0\n", true}, {"a = -7\n", true}, {"a = 1000000000\nb = -1000000000\n", true}, {"x = 1/2\n", true}, {"x = -1/1000000000\n", true}, {"f 0 = 0\nf 1 = 0\n", true}, {"h -1 = 1/3\nh 0 = 2\n", true}, {"n 1/2 1/3 = 1/4\nn 1/2 1/2 = 1\n", true}, {"t 1/2 3 = 4\n", true}, {"a = 1\nb = 2\nf 1 = 2\nh 1 = 1/2\nn 0 1/2 = 3\nt 2/3 1 = 4\nx = 5\n", true},
		// A thing that is half: the value, and each argument.
		{"a = 1/2\n", false}, {"b = -1/2\n", false}, {"a = 1/1000000000\n", false}, {"f 1 = 1/2\n", false}, {"f 1/2 = 1\n", false}, {"f 1/2 = 1/2\n", false}, {"h 1/2 = 1\n", false}, {"h 999999999/1000000000 = 1\n", false}, {"t 1/2 1 = 1/2\n", false}, {"t 1/2 1/2 = 1\n", false}, {"t 1 1/2 = 1\n", false}, {"a = 1\nb = 1/2\n", false}, {"a = 1/2\nb = 1\n", false}, {"f 0 = 0\nf 1 = 1/2\nf 2 = 0\n", false}, {"h 0 = 1/2\nh 1/2 = 1/2\nh 1 = 1/2\n", false},
		// A symbol that is not declared.
		{"c = 1\n", false}, {"z = 0\n", false}, {"aa = 1\n", false}, {"fa 1 = 1\n", false}, {"a = 1\naa = 1\n", false}, {"a = 1\nx = 1\nxx = 1\n", false}, {"g 1 = 1\n", false}, {"n 1 1 = 1\nnn 1 1 = 1\n", false},
		// Another number of arguments.
		{"a 0 = 1\n", false}, {"a 0 0 = 1\n", false}, {"a = 1\na 0 = 1\n", false}, {"x 1 = 1\n", false}, {"f = 1\n", false}, {"f 1 1 = 1\n", false}, {"h = 1\n", false}, {"h = 1\nh 0 = 1\n", false}, {"h 0 = 1\nh 0 0 = 1\n", false}, {"n = 0\n", false}, {"n 1 = 1\n", false}, {"n 1 = 1\nn 1 1 = 1\n", false}, {"t 1 = 1\n", false},
	} {
		m := readModel(t, c.text)
		if got := impl.ModelOk(s, m); got != c.ok || got != isModel(s, m) {
			t.Errorf("ModelOk of %q is %v", c.text, got)
		}
		if !c.ok {
			checkNoModel(t, c.text, s, m)
		} else if !impl.ModelAll(s, m, nil) || !impl.ModelAll(s, m, []impl.Lit{}) {
			t.Errorf("ModelAll of %q is false of no literals", c.text)
		}
		if impl.ModelOk(impl.Sig{}, m) != (c.text == "") {
			t.Errorf("ModelOk of %q without symbols", c.text)
		}
	}
	if !impl.ModelOk(s, manyRowsOf(modelLimit)) || impl.ModelOk(s, manyRowsOf(modelLimit+1)) {
		t.Error("as many rows as there may be, or one more")
	}
}

// TestModelRefusesSignatures tries signatures that are not valid, but declare the symbols.
func TestModelRefusesSignatures(t *testing.T) {
	bad := append(invalidSigs(), sigOf(sym("a", num), sym("b", 2)), sigOf(sym("a", num), sym("b", num, 2)), sigOf(sym("a", num), sym("f", num, num), sym("f", num)), sigOf(sym("b", num), sym("a", num)), sigOf(sym("A", num), sym("a", num), sym("b", num)))
	for i, s := range bad {
		for _, text := range []string{"", "a = 1\n", "a = 1\nb = 1\n", "f 1 = 1\n"} {
			checkNoModel(t, "signature "+strconv.Itoa(i), s, readModel(t, text))
		}
	}
}

// valueIn is the value of a well-sorted term in a valid model, without the functions under test.
func valueIn(m impl.Model, x impl.Term) impl.Rat {
	var args []impl.Rat
	for _, kid := range x.Kids {
		args = append(args, valueIn(m, kid))
	}
	for _, r := range m.Rows {
		if r.Name == x.Name && slices.Equal(r.Args, args) {
			return r.Val
		}
	}
	return whole(0)
}

const (
	someRows = "a = 1\nb = 2\nf 0 = 5\nf 1 = 2\nf 2 = 0\nh 0 = 7\nh 1 = 1/2\nh 2 = -1/3\nh 5 = 1000000000\nn 0 0 = 1/7\nn 1/3 1/2 = 11\nn 1/2 -1/3 = 12\nn 1/2 1/3 = 13\nn 1/2 1/2 = 14\nn 1/2 1 = 15\nn 1 1/2 = 16\nt -1/3 2 = 3\nt 1/2 1 = -4\nt 1/2 2 = 1\nx = -1/3\n"
	noRows   = ""
	zeroRows = "a = 0\nf 0 = 0\nh 0 = 0\nn 0 0 = 0\nx = 0\n"
)

func TestModelTerm(t *testing.T) {
	s := readSig(t, modelSig)
	for _, c := range [][3]string{
		{someRows, "a", "1"}, {someRows, "b", "2"}, {someRows, "x", "-1/3"}, {someRows, "f(a)", "2"}, {someRows, "f(b)", "0"}, {someRows, "f(f(b))", "5"}, {someRows, "f(f(a))", "0"}, {someRows, "f(f(f(a)))", "5"}, {someRows, "h(a)", "1/2"}, {someRows, "h(b)", "-1/3"}, {someRows, "h(f(a))", "-1/3"}, {someRows, "h(f(b))", "7"}, {someRows, "h(f(f(b)))", "1000000000"},
		{someRows, "n(h(a),h(a))", "14"}, {someRows, "n(h(a),x)", "12"}, {someRows, "n(x,h(a))", "0"}, {someRows, "n(h(a),h(b))", "12"}, {someRows, "n(x,x)", "0"}, {someRows, "n(n(x,x),n(x,x))", "1/7"}, {someRows, "n(n(x,x),x)", "0"}, {someRows, "n(x,n(x,x))", "0"}, {someRows, "t(x,b)", "3"}, {someRows, "t(h(a),a)", "-4"}, {someRows, "t(h(a),f(a))", "1"}, {someRows, "f(t(h(a),f(a)))", "2"}, {someRows, "h(t(h(a),b))", "1/2"}, {someRows, "t(x,a)", "0"}, {someRows, "h(t(x,a))", "7"}, {someRows, "f(t(x,b))", "0"}, {someRows, "h(t(x,b))", "0"},
		{noRows, "a", "0"}, {noRows, "x", "0"}, {noRows, "f(f(a))", "0"}, {noRows, "n(h(a),n(x,x))", "0"}, {zeroRows, "a", "0"}, {zeroRows, "b", "0"}, {zeroRows, "f(f(a))", "0"}, {zeroRows, "n(h(a),n(x,x))", "0"}, {"f 0 = 1\n", "f(a)", "1"}, {"f 0 = 1\n", "f(f(a))", "0"}, {"f 0 = 1\n", "f(f(f(a)))", "1"}, {"a = 0\nf 0 = 1\n", "f(b)", "1"}, {"b = 3\n", "a", "0"}, {"a = 3\n", "b", "0"}, {"n 1 2 = 3\n", "n(x,x)", "0"},
		{"h 0 = 1\nn 0 1 = 2\nn 1 0 = 3\n", "n(x,h(a))", "2"}, {"h 0 = 1\nn 0 1 = 2\nn 1 0 = 3\n", "n(h(a),x)", "3"}, {"x = 1000000000\n", "x", "1000000000"}, {"x = -1000000000/999999999\n", "x", "-1000000000/999999999"}, {"a = 1000000000\nh 999999999 = 1\nh 1000000000 = -1\n", "h(a)", "-1"}, {"n 1 1/1000000000 = 5\nn 1 1/999999999 = 6\nx = 1\n", "n(x,x)", "0"},
	} {
		m, x := readModel(t, c[0]), readTerm(t, c[1])
		val, ok := impl.ModelTerm(s, m, x)
		if !ok || writeRatio(val) != c[2] || val != valueIn(m, x) {
			t.Errorf("ModelTerm of %s in %q = %v, %v; want %s", c[1], c[0], val, ok, c[2])
		}
	}
}

func TestModelTermRefuses(t *testing.T) {
	s, m := readSig(t, modelSig), readModel(t, someRows)
	list := append(badTerms(), endlessTerms()...)
	for _, text := range []string{"c", "z", "aa", "f", "h", "n", "f(x)", "h(x)", "h(h(a))", "n(x)", "n(a,x)", "n(x,a)", "t(a,x)", "t(x)", "a(a)", "x(x)", "f(a,a)", "f(c)", "h(f(x))", "f(f(c))", "n(x,h(x))", "t(x,x)", "f(f(f(x)))", "n(n(x,x),n(x,a))"} {
		list = append(list, readTerm(t, text))
	}
	for i, x := range list {
		for _, rows := range []impl.Model{m, {}, modelOf(row("c", whole(1)))} {
			if val, ok := impl.ModelTerm(s, rows, x); ok || val != (impl.Rat{}) {
				t.Errorf("ModelTerm of term %d, %s: %v, %v", i, brief(x, 3), val, ok)
			}
		}
	}
}

// anyTerm is the term that a text begins with, also past the limits, and the rest of the text.
func anyTerm(text string) (impl.Term, string) {
	name := letters.FindString(text)
	x, rest := impl.Term{Name: name}, text[len(name):]
	for mark := "("; strings.HasPrefix(rest, mark); mark = "," {
		var kid impl.Term
		kid, rest = anyTerm(rest[1:])
		x.Kids = append(x.Kids, kid)
	}
	if len(x.Kids) > 0 {
		rest = strings.TrimPrefix(rest, ")")
	}
	return x, rest
}

// TestModelTermLimits takes terms that are as deep and as large as they may be, and ones past that.
func TestModelTermLimits(t *testing.T) {
	s := readSig(t, "a - 0\nf 0 0\ng 00 0\n")
	m := readModel(t, "a = 1\nf 1 = 2\nf 2 = 3\nf 3 = 4\nf 4 = 9\ng 1 1 = 4\ng 2 3 = 5\ng 4 4 = 6\ng 6 3 = 7\ng 6 4 = 8\n")
	for _, c := range []struct {
		text string
		want int
		ok   bool
	}{
		{"f(f(f(a)))", 4, true}, {"f(f(f(f(a))))", 9, false}, {"g(g(g(a,a),g(a,a)),f(f(a)))", 7, true}, {"g(g(g(a,a),g(a,a)),g(a,a))", 8, true}, {"g(g(g(a,a),g(a,a)),f(f(f(a))))", 8, false}, {"g(g(g(a,a),g(a,a)),f(g(a,a)))", 0, true}, {"g(g(g(a,a),g(a,a)),g(f(a),a))", 0, true}, {"g(g(g(a,a),g(a,a)),g(f(a),f(a)))", 0, false}, {"g(f(a),f(f(a)))", 5, true},
	} {
		x, _ := anyTerm(c.text)
		val, ok := impl.ModelTerm(s, m, x)
		if ok != c.ok || ok && val != whole(c.want) || !ok && val != (impl.Rat{}) || valueIn(m, x) != whole(c.want) {
			t.Errorf("ModelTerm of %s: %v, %v; want %d", c.text, val, ok, c.want)
		}
	}
}

// litSig has a number for each place of a sum.
const litSig = "a - 0\nb - 0\nh 0 1\nw - 1\nx - 1\ny - 1\nz - 1\n"

func TestModelLit(t *testing.T) {
	s := readSig(t, litSig)
	for _, c := range []struct {
		rows string
		text string
		so   bool
	}{
		// Equations of things, and of numbers.
		{"", "a=b", true}, {"a = 1\n", "a=b", false}, {"a = 1\n", "b=a", false}, {"a = 1\nb = 1\n", "a=b", true}, {"b = -1\n", "a=b", false}, {"a = 1\n", "a=a", true}, {"h 0 = 1/2\nx = 1/2\n", "h(a)=x", true}, {"h 0 = 1/2\nx = 1/3\n", "h(a)=x", false}, {"h 0 = 1/2\nx = 1\n", "x=h(a)", false}, {"a = 1\nh 0 = 1/2\nx = 1/2\n", "h(a)=x", false}, {"x = 1000000000\ny = 999999999\n", "x=y", false}, {"x = 1/1000000000\ny = 1/999999999\n", "x=y", false}, {"x = 1/2\ny = -1/2\n", "x=y", false}, {"x = 1\ny = 1\n", "x=y", true}, {"x = 1/2\ny = 1/3\nz = 1/2\n", "x=z", true},
		// A sum below its bound, at it, and above it.
		{"", "1*x <= 0", true}, {"", "1*x < 0", false}, {"", "1*x < 1", true}, {"", "1*x <= -1", false}, {"", "-1*x < 0", false}, {"x = 1\n", "1*x <= 1", true}, {"x = 1\n", "1*x < 1", false}, {"x = 1\n", "1*x <= 0", false}, {"x = 1\n", "1*x < 0", false}, {"x = 1\n", "1*x < 2", true}, {"x = 1\n", "-1*x <= -1", true}, {"x = 1\n", "-1*x < -1", false}, {"x = 1\n", "-1*x < 0", true}, {"x = 1\n", "-1*x <= -2", false},
		{"x = 1/2\n", "1*x <= 0", false}, {"x = 1/2\n", "1*x < 1", true}, {"x = 1/2\n", "2*x <= 1", true}, {"x = 1/2\n", "2*x < 1", false}, {"x = 1/2\n", "3*x <= 1", false}, {"x = -1/2\n", "1*x < 0", true}, {"x = -1/2\n", "1*x <= -1", false}, {"x = 1/1000000000\n", "1*x <= 0", false}, {"x = 1/1000000000\n", "50*x <= 0", false}, {"x = -1/1000000000\n", "1*x < 0", true}, {"x = 999999999/1000000000\n", "1*x < 1", true}, {"x = 1000000000/999999999\n", "1*x <= 1", false},
		{"x = 20\n", "50*x <= 1000", true}, {"x = 20\n", "50*x < 1000", false}, {"x = 20\n", "-50*x <= -1000", true}, {"x = 20\n", "-50*x < -1000", false}, {"x = 20000000\n", "50*x < 1000", false}, {"x = -20000000\n", "50*x < -1000", true}, {"x = 1000000000\n", "1*x <= 1000", false}, {"x = -1000000000\n", "1*x <= -1000", true}, {"x = 1000000000\n", "-1*x < -1000", true},
		// More terms.
		{"h 0 = 1/2\nx = -1\n", "2*h(a) 1*x <= 0", true}, {"h 0 = 1/2\nx = -1\n", "2*h(a) 1*x < 0", false}, {"h 0 = 1/2\nx = 1/3\n", "2*h(a) -3*x <= 0", true}, {"h 0 = 1/2\nx = 1/3\n", "2*h(a) -3*x < 0", false}, {"h 0 = 1/2\nx = 1/3\n", "3*h(a) -2*x <= 0", false}, {"a = 1\nh 0 = 2\nh 1 = 3\n", "1*h(a) -1*h(b) <= 1", true}, {"a = 1\nh 0 = 2\nh 1 = 3\n", "1*h(a) -1*h(b) < 1", false}, {"w = 1\nx = 2\ny = 3\nz = 4\n", "1*w 1*x 1*y 1*z <= 10", true}, {"w = 1\nx = 2\ny = 3\nz = 4\n", "1*w 1*x 1*y 1*z <= 9", false}, {"w = 1\nx = 2\ny = 3\nz = 4\n", "4*w -3*x 2*y -1*z <= 0", true}, {"w = 1\nx = 2\ny = 3\nz = 4\n", "4*w -3*x 2*y -1*z < 0", false}, {"w = 1/2\nx = 1/3\ny = 1/5\nz = 1/7\n", "10*w 9*x 5*y 14*z <= 11", true}, {"w = 1/2\nx = 1/3\ny = 1/5\nz = 1/7\n", "10*w 9*x 5*y 14*z < 11", false}, {"w = 1/2\nx = 1/3\ny = 1/5\nz = 1/7\n", "10*w 9*x 5*y 14*z <= 10", false},
		// Sums that stay representable on the way, in this order alone.
		{"w = -1\nx = 1000000000\ny = 1\n", "1*w 1*x 1*y <= 1000", false}, {"w = 1000000000\nx = -1000000000\ny = 1000000000\nz = -1000000000\n", "1*w 1*x 1*y 1*z <= 0", true}, {"w = 1000000000\nx = -1000000000\ny = 1000000000\nz = -1000000000\n", "1*w 1*x 1*y 1*z < 0", false}, {"w = 500000000\nx = 500000000\n", "1*w 1*x < 0", false}, {"w = 500000000\n", "2*w < 0", false}, {"w = -500000000\nx = -500000000\n", "1*w 1*x < -1000", true}, {"w = 1/1000000000\nx = -1/1000000000\ny = 1/999999999\n", "1*w 1*x 1*y <= 0", false}, {"w = 1/1000000000\nx = 1/1000000000\n", "1*w 1*x < 1", true}, {"w = 1/31622\nx = 1/31623\n", "1*w 1*x < 1", true}, {"w = 1/50\n", "50*w <= 1", true}, {"w = 1000000000/7\n", "7*w < 0", false},
	} {
		m := readModel(t, c.rows)
		checkLitIn(t, s, m, readLit(t, c.text), c.so, true)
	}
}

// checkLitIn checks a literal and its negation in a valid model.
func checkLitIn(t *testing.T, s impl.Sig, m impl.Model, l impl.Lit, so bool, ok bool) {
	t.Helper()
	if exactSo, exactOk := truthIn(m, l); exactSo != so || exactOk != ok {
		t.Errorf("the test's own truth value of %s in %q is %v, %v", writeLit(l), writeModel(m), exactSo, exactOk)
	}
	if got, gotOk := impl.ModelLit(s, m, l); got != so || gotOk != ok {
		t.Errorf("ModelLit of %s in %q = %v, %v; want %v, %v", writeLit(l), writeModel(m), got, gotOk, so, ok)
	}
	not := impl.Lit{Atom: l.Atom, No: !l.No}
	if got, gotOk := impl.ModelLit(s, m, not); got != (ok && !so) || gotOk != ok {
		t.Errorf("ModelLit of %s in %q = %v, %v; want %v, %v", writeLit(not), writeModel(m), got, gotOk, ok && !so, ok)
	}
	if impl.ModelAll(s, m, []impl.Lit{l}) != (ok && so) || impl.ModelAll(s, m, []impl.Lit{not}) != (ok && !so) || impl.ModelAll(s, m, []impl.Lit{l, not}) || impl.ModelAll(s, m, []impl.Lit{not, l}) {
		t.Errorf("ModelAll of %s in %q, or of its negation", writeLit(l), writeModel(m))
	}
}

// truthIn is the truth value of a well-sorted literal in a valid model, in math/big and without the functions under test.
func truthIn(m impl.Model, l impl.Lit) (bool, bool) {
	if l.Atom.Kind == atomEq {
		return (valueIn(m, l.Atom.A) == valueIn(m, l.Atom.B)) != l.No, true
	}
	total := new(big.Rat)
	for i, x := range l.Atom.Nums {
		product := bigMul(big.NewRat(int64(l.Atom.Times[i]), 1), bigOf(valueIn(m, x)))
		total = bigAdd(total, product)
		if !representable(product) || !representable(total) {
			return false, false
		}
	}
	order := total.Cmp(big.NewRat(int64(l.Atom.Bound), 1))
	return (order < 0 || order == 0 && !l.Atom.Strict) != l.No, true
}

// TestModelLitTooGreat has products and sums that are not representable, at each place.
func TestModelLitTooGreat(t *testing.T) {
	s := readSig(t, litSig)
	for _, c := range [][2]string{
		// A product.
		{"x = 1000000000\n", "2*x <= 0"}, {"x = 500000001\n", "2*x <= 0"}, {"x = 500000001\n", "-2*x <= 0"}, {"x = -500000001\n", "2*x < 0"}, {"x = 20000001\n", "50*x <= 0"}, {"x = -20000001\n", "-50*x < 0"}, {"x = 1000000000/7\n", "2*x <= 0"}, {"x = 999999999/1000000000\n", "3*x <= 0"}, {"w = 1\nx = 1000000000\n", "1*w 2*x <= 0"}, {"w = -1000000000\nx = 1000000000\n", "1*w 2*x <= 0"}, {"w = -1000000000\nx = 1000000000\n", "2*w 2*x <= 0"}, {"w = 1000000000\n", "2*w 1*x 1*y 1*z <= 0"}, {"x = 1000000000\n", "1*w 2*x 1*y 1*z <= 0"}, {"y = 1000000000\n", "1*w 1*x 2*y 1*z <= 0"}, {"z = 1000000000\n", "1*w 1*x 1*y 2*z <= 0"}, {"z = 1000000000\n", "1*w 1*x 1*y -2*z < 1000"}, {"a = 1\nh 1 = 1000000000\n", "2*h(a) 1*x <= 0"},
		// A sum, also where the rest of it would make up for that.
		{"w = 1000000000\nx = 1\n", "1*w 1*x <= 0"}, {"w = -1000000000\nx = 1\n", "1*w -1*x <= 0"}, {"w = 1000000000\nx = 1\ny = -1\n", "1*w 1*x 1*y <= 0"}, {"w = 1000000000\nx = 1000000000\ny = -1000000000\nz = -1000000000\n", "1*w 1*x 1*y 1*z <= 0"}, {"w = 1\nx = 1000000000\ny = -1\n", "1*w 1*x 1*y <= 0"}, {"x = 1000000000\ny = 1\n", "1*w 1*x 1*y 1*z <= 0"}, {"y = 1000000000\nz = 1\n", "1*w 1*x 1*y 1*z <= 0"}, {"w = 500000000\nx = 500000000\ny = 1\n", "1*w 1*x 1*y <= 0"}, {"w = -1000000000\nx = -1000000000\n", "1*w 1*x < 1000"}, {"w = 1\nx = 1/1000000000\n", "1*w 1*x <= 0"},
		{"w = 1/1000000000\nx = 1/999999999\n", "1*w 1*x <= 0"}, {"w = 1/1000000000\nx = 1/999999999\ny = -1/999999999\n", "1*w 1*x 1*y <= 0"}, {"w = 1/31623\nx = 1/31624\n", "1*w 1*x < 1"}, {"w = 1/31623\nx = 1/31624\n", "1*w -1*x < 1"}, {"w = 1/2\nx = 999999999/1000000000\ny = -1/2\n", "1*w 1*x 1*y <= 0"}, {"w = 1000000000\nx = 1/2\ny = -1/2\n", "1*w 1*x 1*y <= 0"},
	} {
		checkLitIn(t, s, readModel(t, c[0]), readLit(t, c[1]), false, false)
		checkLitIn(t, s, readModel(t, c[0]), readLit(t, "not "+c[1]), false, false)
	}
	// Each value at the limits, times each coefficient.
	x := app("x")
	for _, val := range sampleRats() {
		for _, n := range []int{1, -1, 2, -2, 3, 7, 12, 49, -49, 50, -50} {
			l := impl.Lit{Atom: sumOf(1, ints(n), x)}
			so, ok := truthIn(modelOf(row("x", val)), l)
			checkLitIn(t, s, modelOf(row("x", val)), l, so, ok)
		}
	}
}

// TestModelLitRefuses tries literals that are not well-formed or not well-sorted.
func TestModelLitRefuses(t *testing.T) {
	s := readSig(t, modelSig)
	fine := readLit(t, "a=a")
	list := append(badAtoms(), endlessAtoms()...)
	for _, text := range []string{"a=x", "x=a", "f(a)=h(a)", "c=c", "a=c", "f=f", "f(x)=a", "a=f(x)", "h(x)=x", "z=z", "a(a)=a", "1*a <= 0", "1*z <= 0", "1*h(x) <= 0", "1*a 1*x <= 0", "1*n(x,a) 1*x <= 0", "1*x 1*z <= 0", "1*h <= 0", "1*f(a) < 1000"} {
		list = append(list, readLit(t, text).Atom)
	}
	for i, a := range list {
		for _, m := range []impl.Model{{}, readModel(t, someRows)} {
			for _, no := range []bool{false, true} {
				l := impl.Lit{Atom: a, No: no}
				if so, ok := impl.ModelLit(s, m, l); so || ok {
					t.Errorf("ModelLit of atom %d, kind %d: %v, %v", i, a.Kind, so, ok)
				}
				if impl.ModelAll(s, m, []impl.Lit{l}) || impl.ModelAll(s, m, []impl.Lit{fine, l}) || impl.ModelAll(s, m, []impl.Lit{l, fine}) {
					t.Errorf("ModelAll of atom %d, kind %d", i, a.Kind)
				}
			}
		}
	}
}

func TestModelAll(t *testing.T) {
	s, m := readSig(t, modelSig), readModel(t, someRows)
	so := []string{"a=a", "not a=b", "f(a)=b", "h(b)=x", "1*x < 0", "3*x <= -1", "not 3*x < -1", "2*h(a) 3*x <= 0", "not 1*h(f(f(b))) <= 1000"}
	var lits []impl.Lit
	for _, text := range so {
		lits = append(lits, readLit(t, text))
	}
	if !impl.ModelAll(s, m, lits) || !impl.ModelAll(s, m, slices.Repeat(lits, 200)) || !impl.ModelAll(s, m, nil) {
		t.Error("all of these are true")
	}
	for i := range lits {
		// One that is false, one whose sum is too great, one that is not valid, at each place.
		for _, l := range []impl.Lit{{Atom: lits[i].Atom, No: !lits[i].No}, readLit(t, "2*h(f(f(b))) <= 0"), readLit(t, "not 2*h(f(f(b))) <= 0"), readLit(t, "not a=x"), {}, {No: true}} {
			changed := slices.Clone(lits)
			changed[i] = l
			if impl.ModelAll(s, m, changed) || impl.ModelAll(s, m, changed[i:]) || impl.ModelAll(s, m, changed[:i+1]) || impl.ModelAll(s, m, slices.Insert(slices.Clone(lits), i, l)) {
				t.Errorf("ModelAll with %q as literal %d", writeLit(l), i)
			}
		}
		if !impl.ModelAll(s, m, lits[i:]) || !impl.ModelAll(s, m, lits[:i]) {
			t.Errorf("ModelAll of a part, at %d", i)
		}
	}
}

// row makes up a row for a symbol: mostly small values of the right sorts.
func (s *numbers) row(y impl.Sym) impl.Row {
	r := row(y.Name, s.value(y.Sort))
	for _, sort := range y.Args {
		r.Args = append(r.Args, s.value(sort))
	}
	return r
}

// value makes up a value of a sort.
func (s *numbers) value(sort int) impl.Rat {
	if sort == thing {
		return whole(s.around(2))
	}
	if s.below(12) == 0 {
		list := sampleRats()
		return list[s.below(len(list))]
	}
	val := big.NewRat(int64(s.around(3)), int64(1+s.below(3)))
	return impl.Rat{N: int(val.Num().Int64()), D: int(val.Denom().Int64())}
}

// model makes up a valid model of at most so many rows.
func (s *numbers) model(list impl.Sig, count int) impl.Model {
	var m impl.Model
	for range count {
		m.Rows = append(m.Rows, s.row(list.Syms[s.below(len(list.Syms))]))
	}
	slices.SortStableFunc(m.Rows, rowOrder)
	m.Rows = slices.CompactFunc(m.Rows, func(a impl.Row, b impl.Row) bool { return rowOrder(a, b) == 0 })
	m.Rows = m.Rows[:min(len(m.Rows), modelLimit)]
	return m
}

// spoilModel changes something of a model.
func (s *numbers) spoilModel(m *impl.Model, list impl.Sig) {
	if len(m.Rows) == 0 {
		m.Rows = append(m.Rows, row(s.name(), whole(s.around(2))))
		return
	}
	i, j := s.below(len(m.Rows)), s.below(len(m.Rows))
	bad := invalidRats()
	switch s.below(9) {
	case 0:
		m.Rows[i], m.Rows[j] = m.Rows[j], m.Rows[i]
	case 1:
		m.Rows = slices.Insert(m.Rows, i, m.Rows[i])
	case 2:
		m.Rows[i].Name = s.name()
	case 3:
		m.Rows[i].Args = append(slices.Clone(m.Rows[i].Args), s.value(s.below(2)))
	case 4:
		m.Rows[i].Val = over(1+2*s.around(2), 2)
	case 5:
		m.Rows[i].Val = bad[s.below(len(bad))]
	case 6, 7:
		if len(m.Rows[i].Args) > 0 {
			m.Rows[i].Args = slices.Clone(m.Rows[i].Args)
			m.Rows[i].Args[s.below(len(m.Rows[i].Args))] = []impl.Rat{over(1, 2), over(-3, 2), whole(1), bad[s.below(len(bad))]}[s.below(4)]
		}
	case 8:
		m.Rows = append(m.Rows, s.row(list.Syms[s.below(len(list.Syms))]))
	}
}

// madeUpModelSigs have rows of both sorts in each place.
func madeUpModelSigs() []string {
	return append(madeUpSigs(), modelSig, litSig, "a - 0\nf 0 0\nh 0 1\nn 1 1\nx - 1\n", "a - 0\nn 11 1\nx - 1\ny - 1\n")
}

// TestModelIsAsDefined compares made-up models, terms and literals with the chapter by its words.
func TestModelIsAsDefined(t *testing.T) {
	s := numbers(7)
	found := map[string]int{}
	for range 20000 {
		list := readSig(t, madeUpModelSigs()[s.below(len(madeUpModelSigs()))])
		m := s.model(list, []int{0, 1, 4, 12, 40, 200}[s.below(6)])
		if s.below(3) == 0 {
			s.spoilModel(&m, list)
		}
		checkRows(t, m)
		ok := isModel(list, m)
		if impl.ModelOk(list, m) != ok {
			t.Fatalf("ModelOk(%v, %q) is not %v", list, writeModel(m), ok)
		}
		found["model "+strconv.FormatBool(ok)]++
		if !ok {
			checkNoModel(t, "made-up", list, m)
			continue
		}
		if len(m.Rows) > 30 {
			found["many rows"]++
		}
		checkMadeUpTerms(t, &s, list, m, found)
	}
	for what, least := range map[string]int{"model true": 5000, "model false": 2000, "many rows": 200, "value 0": 5000, "value other": 3000, "value half": 500, "truth true": 3000, "truth false": 3000, "truth none": 60} {
		if found[what] < least {
			t.Errorf("the models miss the case %s: %v", what, found)
		}
	}
}

// checkMadeUpTerms checks terms and literals in a valid model.
func checkMadeUpTerms(t *testing.T, s *numbers, list impl.Sig, m impl.Model, found map[string]int) {
	t.Helper()
	sorts := []int{thing}
	if strings.Contains(impl.SigText(list), "- 1") {
		sorts = append(sorts, num)
	}
	sort := sorts[s.below(len(sorts))]
	x, y := s.sortedTerm(list, sort, 1+s.below(4)), s.sortedTerm(list, sort, 1+s.below(3))
	if isTerm(x) {
		val, ok := impl.ModelTerm(list, m, x)
		if !ok || val != valueIn(m, x) {
			t.Fatalf("ModelTerm of %s in %q = %v, %v; want %v", writeTerm(x), writeModel(m), val, ok, valueIn(m, x))
		}
		found["value "+map[bool]string{true: "0", false: "other"}[val.N == 0]]++
		if val.D != 1 {
			found["value half"]++
		}
	}
	l := impl.Lit{Atom: eqOf(x, y), No: s.below(2) == 0}
	if len(sorts) == 2 && s.below(3) > 0 {
		l.Atom = s.sumUnder(list)
		l.Atom.Strict = s.below(2) == 0
	}
	if !isAtom(l.Atom) || !isSortedAtom(list, l.Atom) {
		if so, ok := impl.ModelLit(list, m, l); so || ok {
			t.Fatalf("ModelLit of %s: %v, %v", writeLit(l), so, ok)
		}
		return
	}
	so, ok := truthIn(m, l)
	checkLitIn(t, list, m, l, so, ok)
	found["truth "+map[bool]string{true: strconv.FormatBool(so), false: "none"}[ok]]++
}

// TestModelLitDependsOnValues is promise 7: two models that agree in the values of the terms agree in the truth value, and a literal that has other terms of the same values has the same truth value.
func TestModelLitDependsOnValues(t *testing.T) {
	s := numbers(777)
	list := readSig(t, modelSig)
	same, other := 0, 0
	for range 20000 {
		l := impl.Lit{Atom: eqOf(s.sortedTerm(list, num, 3), s.sortedTerm(list, num, 3)), No: s.below(2) == 0}
		switch s.below(3) {
		case 0:
			l.Atom = eqOf(s.sortedTerm(list, thing, 3), s.sortedTerm(list, thing, 3))
		case 1:
			l.Atom = s.sumUnder(list)
		}
		if !impl.AtomOk(list, l.Atom) {
			continue
		}
		m := s.model(list, s.below(20))
		so, ok := impl.ModelLit(list, m, l)
		// A model that differs in some rows, and is the same for the terms.
		changed := s.model(list, s.below(20))
		if !slices.ContainsFunc(impl.LitTerms(l), func(x impl.Term) bool { return valueIn(m, x) != valueIn(changed, x) }) {
			if again, againOk := impl.ModelLit(list, changed, l); again != so || againOk != ok {
				t.Fatalf("ModelLit of %s: %v, %v in %q, but %v, %v in %q", writeLit(l), so, ok, writeModel(m), again, againOk, writeModel(changed))
			}
			same++
		}
		if swapped, done := s.otherTerms(list, m, l); done {
			if again, againOk := impl.ModelLit(list, m, swapped); again != so || againOk != ok {
				t.Fatalf("in %q, ModelLit of %s: %v, %v, but of %s: %v, %v", writeModel(m), writeLit(l), so, ok, writeLit(swapped), again, againOk)
			}
			other++
		}
	}
	if same < 1000 || other < 1000 {
		t.Errorf("only %d models and %d literals are the same for the terms", same, other)
	}
}

// otherTerms is a literal that has other terms of the same values, if some are found.
func (s *numbers) otherTerms(list impl.Sig, m impl.Model, l impl.Lit) (impl.Lit, bool) {
	changed := impl.Lit{Atom: copyAtom(l.Atom), No: l.No}
	places := []*impl.Term{&changed.Atom.A, &changed.Atom.B}
	if l.Atom.Kind == atomSum {
		places = places[:0]
		for i := range changed.Atom.Nums {
			places = append(places, &changed.Atom.Nums[i])
		}
	}
	for _, place := range places {
		for range 20 {
			x := s.sortedTerm(list, sortOf(list, *place), 1+s.below(3))
			if valueIn(m, x) == valueIn(m, *place) {
				*place = x
				break
			}
		}
	}
	return changed, !equalAtom(changed.Atom, l.Atom) && isAtom(changed.Atom)
}

// modelsApart are models of which each differs from all others in a field; the ones that are not well-formed too.
func modelsApart() []impl.Model {
	one, two := whole(1), whole(2)
	return []impl.Model{
		{}, modelOf(impl.Row{}), modelOf(impl.Row{}, impl.Row{}), modelOf(row("a", impl.Rat{})), modelOf(row("", one)), modelOf(row("a", one)), modelOf(row("b", one)), modelOf(row("A", one)), modelOf(row("a", two)), modelOf(row("a", whole(-1))), modelOf(row("a", over(1, 2))), modelOf(row("a", over(2, 4))), modelOf(row("a", over(2, 2))), modelOf(row("a", over(-1, -1))), modelOf(row("a", over(1, 0))), modelOf(row("a", over(math.MinInt, math.MaxInt))), modelOf(row("a", over(1<<32, 1))), modelOf(row("a", over(1, 1<<32))), modelOf(row("a", over(0, 1))), modelOf(row("a", over(0, 2))),
		modelOf(row("a", one, one)), modelOf(row("a", one, two)), modelOf(row("a", two, one)), modelOf(row("a", one, impl.Rat{})), modelOf(row("a", one, impl.Rat{}, impl.Rat{})), modelOf(row("a", one, one, one)), modelOf(row("a", one, one, two)), modelOf(row("a", one, two, one)), modelOf(row("a", one, one, one, one)), modelOf(row("a", one, one, one, two)), modelOf(row("a", one, over(1, 2))), modelOf(row("a", one, over(2, 4))), modelOf(row("a", one, over(1<<32, 1))),
		modelOf(row("a", one), row("a", one)), modelOf(row("a", one), row("b", one)), modelOf(row("b", one), row("a", one)), modelOf(row("a", one), row("b", two)), modelOf(row("a", two), row("b", one)), modelOf(row("a", one), row("b", one), row("c", one)), modelOf(row("a", one, one), row("b", one)), modelOf(row("a", one), row("b", one, one)), modelOf(row("ab", one)), modelOf(row("a", one), row("", impl.Rat{})), manyRowsOf(modelLimit), manyRowsOf(modelLimit + 1), manyRowsOf(1000),
	}
}

func TestModelSame(t *testing.T) {
	list := modelsApart()
	for i, a := range list {
		for j, b := range list {
			if impl.ModelSame(a, copyModel(b)) != (i == j) || impl.ModelSame(a, b) != (i == j) {
				t.Errorf("ModelSame(%.200v, %.200v) is not %v", a, b, i == j)
			}
		}
	}
	empty := modelOf(impl.Row{Name: "a", Args: []impl.Rat{}, Val: whole(1)})
	if !impl.ModelSame(impl.Model{}, impl.Model{Rows: []impl.Row{}}) || !impl.ModelSame(modelOf(row("a", whole(1))), empty) || !impl.ModelSame(empty, modelOf(row("a", whole(1)))) {
		t.Error("no elements are the same as nil")
	}
	if got := impl.ModelText(empty); got != "a = 1\n" || !impl.ModelOk(readSig(t, litSig), empty) {
		t.Errorf("%q", got)
	}
	s := numbers(7777)
	same := 0
	sig := readSig(t, modelSig)
	for range 10000 {
		a := s.model(sig, s.below(6))
		b := copyModel(a)
		s.spoilModel(&b, sig)
		if got := impl.ModelSame(a, b); got != equalModel(a, b) || got != impl.ModelSame(b, a) {
			t.Fatalf("ModelSame(%v, %v) = %v", a, b, got)
		} else if got {
			same++
		}
	}
	if same < 300 {
		t.Errorf("only %d are the same", same)
	}
}

// modelCells notes each place in the memory of a model, also the unused ones; it reports whether one was noted before.
func modelCells(m impl.Model, rows map[*impl.Row]bool, vals map[*impl.Rat]bool) bool {
	twice := false
	all := m.Rows[:cap(m.Rows)]
	for i := range all {
		twice = twice || rows[&all[i]]
		rows[&all[i]] = true
		args := all[i].Args[:cap(all[i].Args)]
		for j := range args {
			twice = twice || vals[&args[j]]
			vals[&args[j]] = true
		}
	}
	return twice
}

// TestModelMemory checks that a model is read into new memory, and that nothing writes to an argument, also beyond its length.
func TestModelMemory(t *testing.T) {
	// The rows share their arguments' memory, and the lists have room beyond their lengths.
	args := []impl.Rat{whole(0), whole(1), over(5, 7)}
	rows := []impl.Row{row("a", whole(1)), row("h", over(1, 2), args[:1]...), row("h", over(1, 3), args[1:2]...), row("t", whole(1), args[:2]...), row("x", over(1, 2)), row("spare", whole(9), args...)}
	m := modelOf(rows[:5]...)
	state := func() string { return writeModel(modelOf(rows...)) + writeRatio(args[2]) }
	before := state()
	s := readSig(t, modelSig)
	lits := []impl.Lit{readLit(t, "h(a)=h(f(a))"), readLit(t, "not 1*h(a) 1*x < 0"), readLit(t, "a=a")}
	if !impl.ModelOk(s, m) || !impl.ModelSame(m, m) || impl.ModelAll(s, m, lits) || !impl.ModelAll(s, m, lits[1:2]) {
		t.Error("the model is valid")
	}
	for range 3 {
		if val, ok := impl.ModelTerm(s, m, app("h", app("t", app("n", app("x"), app("x")), app("a")))); !ok || val != over(1, 3) {
			t.Error(val, ok)
		}
		if so, ok := impl.ModelLit(s, m, lits[0]); so || !ok {
			t.Error(so, ok)
		}
	}
	knownRows, knownVals := map[*impl.Row]bool{}, map[*impl.Rat]bool{}
	modelCells(modelOf(rows...), knownRows, knownVals)
	text := impl.ModelText(m)
	if text != "a = 1\nh 0 = 1/2\nh 1 = 1/3\nt 0 1 = 1\nx = 1/2\n" {
		t.Errorf("%q", text)
	}
	for _, text := range []string{text, someRows, zeroRows, writeModel(manyRowsOf(modelLimit)), text} {
		for range 2 {
			if modelCells(readModel(t, text), knownRows, knownVals) {
				t.Errorf("%q is read into memory that is shared", text)
			}
		}
	}
	if state() != before {
		t.Errorf("an argument has changed: %s; was %s", state(), before)
	}
}
