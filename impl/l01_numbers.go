package impl

import (
	"math"
	"strconv"
	"strings"
)

// Limits of chapter 1.
const (
	MaxNumbers = 256
	MaxValue   = 1000000000000000
	MaxItems   = 64
	CheckSize  = 65003
)

const (
	// All not-a-numbers are one value, so one of their many bits stands for them.
	notNumberBits = 2143289344
	maxBits       = 4294967295
	// Both parts of a complex number stand side by side in a text, so each has all of its digits.
	hexDigits = 8
	maxName   = 8
	// 64-bit numbers from here on have no places behind the point.
	wholeNumbers = 1 << 52
	noneText     = "none"
)

// In this file, a product that is added to something stands in a conversion:
// otherwise Go may fuse both operations on some machines, and round only once.

// SameNumber reports whether two numbers are the same.
func SameNumber(a, b float32) bool {
	return BitsOf(a) == BitsOf(b)
}

// IsFinite reports whether x is finite.
func IsFinite(x float32) bool {
	return isFiniteWide(float64(x))
}

func isFiniteWide(x float64) bool {
	return !math.IsNaN(x) && !math.IsInf(x, 0)
}

// BitsOf returns the bits of a number.
func BitsOf(x float32) int64 {
	if math.IsNaN(float64(x)) {
		return notNumberBits
	}
	return int64(math.Float32bits(x))
}

// FromBits returns the number with the given bits.
func FromBits(n int64) (float32, bool) {
	if n < 0 || n > maxBits {
		return 0, false
	}
	return math.Float32frombits(uint32(n)), true
}

// NarrowNumber returns the nearest 32-bit number.
func NarrowNumber(x float64) float32 {
	return float32(x)
}

// IsSubnormal reports whether x is subnormal.
func IsSubnormal(x float32) bool {
	return x != 0 && math.Abs(float64(x)) < 0x1p-126
}

// FlushNumber returns x, but a zero if it is subnormal.
func FlushNumber(x float32) float32 {
	if IsSubnormal(x) {
		return NarrowNumber(math.Copysign(0, float64(x)))
	}
	return x
}

// SameComplex reports whether two complex numbers are the same.
func SameComplex(a, b complex64) bool {
	return SameNumber(real(a), real(b)) && SameNumber(imag(a), imag(b))
}

// IsFiniteComplex reports whether both parts are finite.
func IsFiniteComplex(x complex64) bool {
	return IsFinite(real(x)) && IsFinite(imag(x))
}

// NarrowComplex returns a number with narrowed parts.
func NarrowComplex(x complex128) complex64 {
	return complex(NarrowNumber(real(x)), NarrowNumber(imag(x)))
}

// MulComplex returns a product.
func MulComplex(x, y complex64) complex64 {
	return NarrowComplex(wideProduct(x, y))
}

func wideProduct(x, y complex64) complex128 {
	a, b := float64(real(x)), float64(imag(x))
	c, d := float64(real(y)), float64(imag(y))
	return complex(float64(a*c)-float64(b*d), float64(a*d)+float64(b*c))
}

// ScaleComplex returns a product with a number.
func ScaleComplex(x complex64, by float32) complex64 {
	return complex(float32(real(x)*by), float32(imag(x)*by))
}

// ConjugateOf returns the conjugate.
func ConjugateOf(x complex64) complex64 {
	return complex(real(x), -imag(x))
}

// PowerOf returns the power.
func PowerOf(x complex64) float32 {
	return NarrowNumber(widePower(x))
}

func widePower(x complex64) float64 {
	a, b := float64(real(x)), float64(imag(x))
	return float64(a*a) + float64(b*b)
}

// LongOf returns the root of the power.
func LongOf(x complex64) float32 {
	return NarrowNumber(math.Sqrt(widePower(x)))
}

// QuotientOf returns a quotient.
func QuotientOf(x, y complex64) complex64 {
	product := wideProduct(x, ConjugateOf(y))
	power := widePower(y)
	return NarrowComplex(complex(real(product)/power, imag(product)/power))
}

// RootNumber returns the square root.
func RootNumber(x float32) float32 {
	return NarrowNumber(math.Sqrt(float64(x)))
}

// partOfTurn returns what is left of a number of turns without whole ones.
// It takes turns nearer to 0 than wholeNumbers.
func partOfTurn(turns float64) float64 {
	// Unlike math.Trunc, the way through an integer makes +0 of -0, so that -0 stays -0.
	f := turns - float64(int64(turns))
	if f < 0 {
		f += 1
	}
	return f
}

// wideSine returns the sine of turns nearer to 0 than wholeNumbers.
func wideSine(turns float64) float64 {
	const fullTurn = 6.283185307179586
	f := partOfTurn(turns)
	turned := f >= 0.5
	if turned {
		f -= 0.5
	}
	if f > 0.25 {
		f = 0.5 - f
	}
	z := float64(f * fullTurn)
	u := float64(z * z)
	p := 1.0
	for k := 8; k >= 1; k-- {
		p = 1 - float64(u*p)/float64(2*k*(2*k+1))
	}
	if turned {
		return -float64(z * p)
	}
	return float64(z * p)
}

// SineTurns returns the sine of some turns.
func SineTurns(x float32) float32 {
	if !IsFinite(x) {
		return NarrowNumber(math.NaN())
	}
	turns := float64(x)
	if math.Abs(turns) >= wholeNumbers {
		return 0
	}
	return NarrowNumber(wideSine(turns))
}

// PhasorOf returns a point of the unit circle.
func PhasorOf(turns float64) complex64 {
	if !isFiniteWide(turns) {
		return NarrowComplex(complex(math.NaN(), math.NaN()))
	}
	if math.Abs(turns) >= wholeNumbers {
		return 1
	}
	f := partOfTurn(turns)
	quarters := 0
	for f >= 0.25 {
		f -= 0.25
		quarters++
	}
	c, s := wideSine(0.25-f), wideSine(f)
	// A part is taken from 0, and not negated, so that +0 stays +0.
	switch quarters {
	case 1:
		return NarrowComplex(complex(0-s, c))
	case 2:
		return NarrowComplex(complex(0-c, 0-s))
	case 3:
		return NarrowComplex(complex(s, 0-c))
	}
	return NarrowComplex(complex(c, s))
}

// AngleOf returns the angle in turns.
func AngleOf(x complex64) float32 {
	return AngleTurns(imag(x), real(x))
}

// AngleTurns returns the angle of a point.
func AngleTurns(y, x float32) float32 {
	if !IsFinite(y) || !IsFinite(x) {
		return NarrowNumber(math.NaN())
	}
	if y == 0 && x == 0 {
		return 0
	}
	a, b := math.Abs(float64(y)), math.Abs(float64(x))
	steep := a > b
	if steep {
		a, b = b, a
	}
	angle := flatAngle(a / b)
	if steep {
		angle = 0.25 - angle
	}
	if x < 0 {
		angle = 0.5 - angle
	}
	if y < 0 {
		angle = -angle
	}
	return NarrowNumber(angle)
}

// flatAngle returns the angle, in turns, whose tangent is t, from 0 to 1.
func flatAngle(t float64) float64 {
	const fullTurn = 6.283185307179586
	// The sum below is good for small angles only, so the angle is halved, and the sum taken 8 times.
	for range 3 {
		t = t / (1 + math.Sqrt(1+float64(t*t)))
	}
	u := float64(t * t)
	p := 0.0
	for k := 15; k >= 1; k -= 2 {
		p = 1/float64(k) - float64(u*p)
	}
	return float64(8*float64(t*p)) / fullTurn
}

// TenthsOf returns tenths of decibels.
func TenthsOf(power float32) (int64, bool) {
	if !IsFinite(power) || power <= 0 {
		return 0, false
	}
	tenths := float64(wideLog(float64(power)) * 43.42944819032518)
	return int64(math.Floor(tenths + 0.5)), true
}

// wideLog returns the logarithm of a finite x greater than 0.
func wideLog(x float64) float64 {
	e := 0
	for x >= 1.5 {
		x /= 2
		e++
	}
	for x < 0.75 {
		x *= 2
		e--
	}
	s := (x - 1) / (x + 1)
	u := float64(s * s)
	q := 0.0
	for k := 25; k >= 1; k -= 2 {
		q = 1/float64(k) + float64(u*q)
	}
	return float64(2*float64(s*q)) + float64(float64(e)*0.6931471805599453)
}

// LogNumber returns the logarithm.
func LogNumber(x float32) float32 {
	wide := float64(x)
	switch {
	case math.IsNaN(wide) || x < 0:
		return NarrowNumber(math.NaN())
	case x == 0:
		return NarrowNumber(math.Inf(-1))
	case math.IsInf(wide, 1):
		return x
	}
	return NarrowNumber(wideLog(wide))
}

// ExpNumber returns e to a power.
func ExpNumber(x float32) float32 {
	if x > 200 {
		return NarrowNumber(math.Inf(1))
	}
	if x < -200 {
		return 0
	}
	t := float64(x) / 256
	p := 1.0
	for k := 12; k >= 1; k-- {
		p = 1 + float64(t*p)/float64(k)
	}
	// 8 squares make the power 256 of p, which brings back what t was divided by.
	for range 8 {
		p = float64(p * p)
	}
	return NarrowNumber(p)
}

// SumNumbers returns the sum from left to right.
func SumNumbers(list []float32) (float32, bool) {
	if len(list) > MaxNumbers {
		return 0, false
	}
	sum := float32(0)
	for _, x := range list {
		sum += x
	}
	return sum, true
}

// DotNumbers returns the sum of products.
func DotNumbers(a, b []float32) (float32, bool) {
	if len(a) > MaxNumbers || len(a) != len(b) {
		return 0, false
	}
	sum := float32(0)
	for i, x := range a {
		sum += float32(x * b[i])
	}
	return sum, true
}

// SumComplex returns the sum from left to right.
func SumComplex(list []complex64) (complex64, bool) {
	if len(list) > MaxNumbers {
		return 0, false
	}
	sum := complex64(0)
	for _, x := range list {
		sum += x
	}
	return sum, true
}

// DotComplex returns the sum of products.
func DotComplex(a, b []complex64) (complex64, bool) {
	if len(a) > MaxNumbers || len(a) != len(b) {
		return 0, false
	}
	sum := complex64(0)
	for i, x := range a {
		sum += MulComplex(x, b[i])
	}
	return sum, true
}

// DotConjugate returns the sum of products with conjugates.
func DotConjugate(a, b []complex64) (complex64, bool) {
	if len(a) > MaxNumbers {
		return 0, false
	}
	conjugates := make([]complex64, len(a))
	for i, x := range a {
		conjugates[i] = ConjugateOf(x)
	}
	return DotComplex(conjugates, b)
}

// PowersOf returns the sum of powers.
func PowersOf(list []complex64) (float32, bool) {
	if len(list) > MaxNumbers {
		return 0, false
	}
	sum := 0.0
	for _, x := range list {
		sum += widePower(x)
	}
	return NarrowNumber(sum), true
}

// textOfItems returns the text of a list of at most most items; it fails where an item has no text.
func textOfItems[T any](list []T, most int, textOf func(T) (string, bool)) (string, bool) {
	if len(list) > most {
		return "", false
	}
	if len(list) == 0 {
		return noneText, true
	}
	parts := make([]string, len(list))
	for i, item := range list {
		part, ok := textOf(item)
		if !ok {
			return "", false
		}
		parts[i] = part
	}
	return strings.Join(parts, ","), true
}

// readItems returns the list of at most most items whose text textOfItems makes.
func readItems[T any](s string, most int, read func(string) (T, bool)) ([]T, bool) {
	if s == noneText {
		return nil, true
	}
	// One part more than there may be is enough to tell that there are too many.
	parts := strings.SplitN(s, ",", most+1)
	if len(parts) > most {
		return nil, false
	}
	list := make([]T, len(parts))
	for i, part := range parts {
		item, ok := read(part)
		if !ok {
			return nil, false
		}
		list[i] = item
	}
	return list, true
}

func textOfNumber(x float32) (string, bool) {
	digits := strconv.FormatInt(BitsOf(x), 16)
	return strings.Repeat("0", hexDigits-len(digits)) + digits, true
}

func readNumber(s string) (float32, bool) {
	if len(s) != hexDigits {
		return 0, false
	}
	bits := int64(0)
	for _, r := range s {
		digit, ok := readHexDigit(r)
		if !ok {
			return 0, false
		}
		bits = 16*bits + digit
	}
	x, ok := FromBits(bits)
	// Of the bits of not-a-numbers, only those of BitsOf are ever written.
	if !ok || BitsOf(x) != bits {
		return 0, false
	}
	return x, true
}

func readHexDigit(r rune) (int64, bool) {
	switch {
	case '0' <= r && r <= '9':
		return int64(r - '0'), true
	case 'a' <= r && r <= 'f':
		return int64(r-'a') + 10, true
	}
	return 0, false
}

func textOfComplex(x complex64) (string, bool) {
	re, _ := textOfNumber(real(x))
	im, _ := textOfNumber(imag(x))
	return re + im, true
}

func readOneComplex(s string) (complex64, bool) {
	if len(s) != 2*hexDigits {
		return 0, false
	}
	re, reOK := readNumber(s[:hexDigits])
	im, imOK := readNumber(s[hexDigits:])
	if !reOK || !imOK {
		return 0, false
	}
	return complex(re, im), true
}

// NumbersText returns the text of numbers.
func NumbersText(list []float32) (string, bool) {
	return textOfItems(list, MaxNumbers, textOfNumber)
}

// ReadNumbers returns the numbers with the given text.
func ReadNumbers(s string) ([]float32, bool) {
	return readItems(s, MaxNumbers, readNumber)
}

// ComplexText returns the text of complex numbers.
func ComplexText(list []complex64) (string, bool) {
	return textOfItems(list, MaxNumbers, textOfComplex)
}

// ReadComplex returns the complex numbers with the given text.
func ReadComplex(s string) ([]complex64, bool) {
	return readItems(s, MaxNumbers, readOneComplex)
}

// IsName reports whether s is a name.
func IsName(s string) bool {
	if len(s) < 1 || len(s) > maxName {
		return false
	}
	for _, r := range s {
		if r < 'a' || r > 'z' {
			return false
		}
	}
	return true
}

// Decimal returns n in decimal.
func Decimal(n int64) string {
	return strconv.FormatInt(n, 10)
}

// ReadDecimal returns the number with the given decimal text.
func ReadDecimal(s string) (int64, bool) {
	n, err := strconv.ParseInt(s, 10, 64)
	// The parser also takes texts that Decimal never makes, such as +1, 01 and -0.
	if err != nil || !isValue(n) || Decimal(n) != s {
		return 0, false
	}
	return n, true
}

func isValue(n int64) bool {
	return -MaxValue <= n && n <= MaxValue
}

func textOfValue(n int64) (string, bool) {
	if !isValue(n) {
		return "", false
	}
	return Decimal(n), true
}

// ListText returns the text of a list.
func ListText(list []int64) (string, bool) {
	return textOfItems(list, MaxItems, textOfValue)
}

// ReadList returns the list with the given text.
func ReadList(s string) ([]int64, bool) {
	return readItems(s, MaxItems, ReadDecimal)
}

// CheckOf returns the check number of a text.
func CheckOf(start int64, s string) (int64, bool) {
	if start < 0 || start >= CheckSize {
		return 0, false
	}
	check := start
	for i := 0; i < len(s); i++ {
		check = (859*check + int64(s[i]) + 151) % CheckSize
	}
	return check, true
}
