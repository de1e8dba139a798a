package impl

import (
	"strconv"
	"strings"
)

// Rat is a fraction.
type Rat struct {
	N int
	D int
}

// RatMost is how great the two numbers of a fraction may be.
const RatMost = 1000000000

// RatOk says whether a fraction is one: in least numbers, the lower one above 0.
func RatOk(a Rat) bool { return a.valid() }

// RatOf is the fraction of two numbers.
func RatOf(n int, d int) (Rat, bool) {
	if d == 0 || !inRatRange(int64(n)) || !inRatRange(int64(d)) {
		return Rat{}, false
	}
	if d < 0 {
		n, d = -n, -d
	}
	return Rat{N: n, D: d}.wide().narrow()
}

// RatAdd is a sum.
func RatAdd(a Rat, b Rat) (Rat, bool) {
	if !a.valid() || !b.valid() {
		return Rat{}, false
	}
	return a.wide().plus(b.wide()).narrow()
}

// RatMul is a product.
func RatMul(a Rat, b Rat) (Rat, bool) {
	if !a.valid() || !b.valid() {
		return Rat{}, false
	}
	return a.wide().times(b.wide()).narrow()
}

// RatLess says whether a fraction is less than another one.
func RatLess(a Rat, b Rat) bool {
	return a.valid() && b.valid() && a.wide().less(b.wide())
}

// RatMid is half of the sum of two.
func RatMid(a Rat, b Rat) (Rat, bool) {
	// The sum must itself be a Rat, even where half of it would be one anyway.
	sum, ok := RatAdd(a, b)
	if !ok {
		return Rat{}, false
	}
	return sum.wide().times(wideRat{n: 1, d: 2}).narrow()
}

// RatText writes a fraction.
func RatText(a Rat) string {
	if !a.valid() {
		return ""
	}
	var text strings.Builder
	text.WriteString(strconv.Itoa(a.N))
	if a.D != 1 {
		text.WriteByte('/')
		text.WriteString(strconv.Itoa(a.D))
	}
	return text.String()
}

// RatRead reads a fraction.
func RatRead(text string) (Rat, bool) {
	upper, lower, split := strings.Cut(text, "/")
	if !split {
		lower = "1"
	}
	n, upperErr := strconv.Atoi(upper)
	d, lowerErr := strconv.Atoi(lower)
	if upperErr != nil || lowerErr != nil {
		return Rat{}, false
	}
	a := Rat{N: n, D: d}
	// Atoi also takes a plus sign, leading zeros and -0, which RatText never
	// writes; what is not valid has the empty text, which Atoi does not take.
	if RatText(a) != text {
		return Rat{}, false
	}
	return a, true
}

// valid reports whether a is in range, in lowest terms and over a positive denominator.
func (a Rat) valid() bool {
	n, d := int64(a.N), int64(a.D)
	// The range comes first: outside it, a numerator may have no absolute value.
	return inRatRange(n) && inRatRange(d) && d > 0 && gcd(abs(n), d) == 1
}

// wide is a with room for one sum or product.
func (a Rat) wide() wideRat { return wideRat{n: int64(a.N), d: int64(a.D)} }

// wideRat is a fraction on its way to a Rat, with a positive denominator but
// not yet in lowest terms. One sum or product of valid fractions has numbers
// of at most 2*RatMost*RatMost, which 64 bits hold without wrapping around.
type wideRat struct {
	n int64
	d int64
}

func (a wideRat) plus(b wideRat) wideRat { return wideRat{n: a.n*b.d + b.n*a.d, d: a.d * b.d} }

func (a wideRat) times(b wideRat) wideRat { return wideRat{n: a.n * b.n, d: a.d * b.d} }

func (a wideRat) less(b wideRat) bool { return a.n*b.d < b.n*a.d }

// narrow brings a to lowest terms and returns it if it is in range then.
func (a wideRat) narrow() (Rat, bool) {
	g := gcd(abs(a.n), a.d)
	n, d := a.n/g, a.d/g
	if !inRatRange(n) || !inRatRange(d) {
		return Rat{}, false
	}
	return Rat{N: int(n), D: int(d)}, true
}

// inRatRange reports whether n may be a number of a Rat.
func inRatRange(n int64) bool { return -RatMost <= n && n <= RatMost }

func abs(n int64) int64 {
	if n < 0 {
		return -n
	}
	return n
}

// gcd is the greatest common divisor of two numbers that are not negative; gcd(0, n) is n.
func gcd(a int64, b int64) int64 {
	for b != 0 {
		a, b = b, a%b
	}
	return a
}
