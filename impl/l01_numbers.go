package impl

import (
	"math"
	"strconv"
	"strings"
)

// Limits of chapter 1.
const (
	MaxNumbers = 256
	MaxValue   = 1000000000000000
	MaxItems   = 64
	CheckSize  = 65003
)

const (
	oneNaN       = 0x7fc00000 // the bits that stand for every not-a-number
	mostBits     = 0xffffffff
	turnsLimit   = 1 << 52 // from here on, 64-bit numbers have no places behind the point
	numberDigits = 8
	mostLetters  = 8
	noneText     = "none"
)

// All products below are converted to their own type at once, even where they
// seem to be rounded anyway: without that, a compiler may fuse a product with
// the sum that takes it, also across calls, and leave its rounding out.

// SameNumber reports whether two numbers are the same.
func SameNumber(a, b float32) bool {
	return BitsOf(a) == BitsOf(b)
}

// IsFinite reports whether x is neither an infinity nor a not-a-number.
func IsFinite(x float32) bool {
	return isFiniteWide(float64(x))
}

func isFiniteWide(x float64) bool {
	return !math.IsNaN(x) && !math.IsInf(x, 0)
}

// BitsOf returns the bits of a number, the same ones for all not-a-numbers.
func BitsOf(x float32) int64 {
	if x != x {
		return oneNaN
	}
	return int64(math.Float32bits(x))
}

// FromBits returns the number with the given bits.
func FromBits(n int64) (float32, bool) {
	if n < 0 || n > mostBits {
		return 0, false
	}
	return math.Float32frombits(uint32(n)), true
}

// NarrowNumber returns the nearest 32-bit number.
func NarrowNumber(x float64) float32 {
	return float32(x)
}

// IsSubnormal reports whether x is not zero and nearer to 0 than 2 to the power of -126.
func IsSubnormal(x float32) bool {
	const leastNormal = 0x1p-126
	return x != 0 && x > -leastNormal && x < leastNormal
}

// FlushNumber returns x, but a zero with its sign if it is subnormal.
func FlushNumber(x float32) float32 {
	if IsSubnormal(x) {
		return float32(math.Copysign(0, float64(x)))
	}
	return x
}

// SameComplex reports whether two complex numbers are the same.
func SameComplex(a, b complex64) bool {
	return SameNumber(real(a), real(b)) && SameNumber(imag(a), imag(b))
}

// IsFiniteComplex reports whether both parts are finite.
func IsFiniteComplex(x complex64) bool {
	return IsFinite(real(x)) && IsFinite(imag(x))
}

// NarrowComplex returns a number with both parts narrowed.
func NarrowComplex(x complex128) complex64 {
	return complex(float32(real(x)), float32(imag(x)))
}

// MulComplex returns the product of two complex numbers.
func MulComplex(x, y complex64) complex64 {
	re, im := wideProduct(x, y)
	return complex(float32(re), float32(im))
}

// wideProduct returns the parts of a product before they are narrowed.
func wideProduct(x, y complex64) (float64, float64) {
	a, b := float64(real(x)), float64(imag(x))
	c, d := float64(real(y)), float64(imag(y))
	return float64(a*c) - float64(b*d), float64(a*d) + float64(b*c)
}

// ScaleComplex returns the product of a complex number and a number.
func ScaleComplex(x complex64, by float32) complex64 {
	return complex(float32(real(x)*by), float32(imag(x)*by))
}

// ConjugateOf returns the conjugate.
func ConjugateOf(x complex64) complex64 {
	return complex(real(x), -imag(x))
}

// PowerOf returns the power of a complex number, narrowed.
func PowerOf(x complex64) float32 {
	return float32(widePower(x))
}

func widePower(x complex64) float64 {
	a, b := float64(real(x)), float64(imag(x))
	return float64(a*a) + float64(b*b)
}

// LongOf returns the square root of the power, narrowed.
func LongOf(x complex64) float32 {
	return float32(math.Sqrt(widePower(x)))
}

// QuotientOf returns the quotient of x and y.
func QuotientOf(x, y complex64) complex64 {
	re, im := wideProduct(x, ConjugateOf(y))
	power := widePower(y)
	return complex(float32(re/power), float32(im/power))
}

// RootNumber returns the square root of x, narrowed.
func RootNumber(x float32) float32 {
	return float32(math.Sqrt(float64(x)))
}

// fractionOf returns what is left of some turns without whole ones, from 0 to
// 1, for turns whose absolute value is less than turnsLimit.
func fractionOf(turns float64) float64 {
	// An int64 has no -0, so that -0 keeps its sign here.
	f := turns - float64(int64(turns))
	if f < 0 {
		f++
	}
	return f
}

// wideSine returns the sine of some turns that fractionOf takes.
func wideSine(turns float64) float64 {
	const turn = 6.283185307179586
	f := fractionOf(turns)
	turned := f >= 0.5
	if turned {
		f -= 0.5
	}
	if f > 0.25 {
		f = 0.5 - f
	}
	z := float64(f * turn)
	u := float64(z * z)
	p := 1.0
	for k := 8; k >= 1; k-- {
		p = 1 - float64(u*p)/float64(2*k*(2*k+1))
	}
	if turned {
		return -float64(z * p)
	}
	return float64(z * p)
}

// PhasorOf returns the point of the unit circle at some turns.
func PhasorOf(turns float64) complex64 {
	if !isFiniteWide(turns) {
		return complex(float32(math.NaN()), float32(math.NaN()))
	}
	if math.Abs(turns) >= turnsLimit {
		return 1
	}
	f := fractionOf(turns)
	quarters := 0
	for f >= 0.25 {
		f -= 0.25
		quarters++
	}
	c, s := wideSine(0.25-f), wideSine(f)
	// The opposites are differences from 0, not changes of the sign: a zero stays +0.
	switch quarters {
	case 1:
		c, s = 0-s, c
	case 2:
		c, s = 0-c, 0-s
	case 3:
		c, s = s, 0-c
	}
	return NarrowComplex(complex(c, s))
}

// AngleOf returns the angle of a complex number in turns.
func AngleOf(x complex64) float32 {
	return AngleTurns(imag(x), real(x))
}

// SineTurns returns the sine of some turns, narrowed.
func SineTurns(x float32) float32 {
	turns := float64(x)
	if !isFiniteWide(turns) {
		return float32(math.NaN())
	}
	if math.Abs(turns) >= turnsLimit {
		return 0
	}
	return float32(wideSine(turns))
}

// AngleTurns returns the angle of the point with the coordinates x and y in turns.
func AngleTurns(y, x float32) float32 {
	if !IsFinite(y) || !IsFinite(x) {
		return float32(math.NaN())
	}
	if y == 0 && x == 0 {
		return 0
	}
	a, b := math.Abs(float64(y)), math.Abs(float64(x))
	angle := 0.0
	if a > b {
		angle = 0.25 - steepTurns(b/a)
	} else {
		angle = steepTurns(a / b)
	}
	if x < 0 {
		angle = 0.5 - angle
	}
	if y < 0 {
		angle = -angle
	}
	return float32(angle)
}

// steepTurns returns the angle in turns whose tangent is t, from 0 to 1.
func steepTurns(t float64) float64 {
	const turn = 6.283185307179586
	for range 3 {
		t = t / (1 + math.Sqrt(1+float64(t*t)))
	}
	u := float64(t * t)
	p := 0.0
	for k := 15; k >= 1; k -= 2 {
		p = 1/float64(k) - float64(u*p)
	}
	return float64(8*float64(t*p)) / turn
}

// TenthsOf returns the tenths of decibels of a power.
func TenthsOf(power float32) (int64, bool) {
	if !IsFinite(power) || power <= 0 {
		return 0, false
	}
	const tenths = 43.42944819032518
	return int64(math.Floor(float64(wideLog(power)*tenths) + 0.5)), true
}

// wideLog returns the logarithm of a finite number greater than 0.
func wideLog(x float32) float64 {
	const logTwo = 0.6931471805599453
	near := float64(x)
	halved := 0
	for near >= 1.5 {
		near /= 2
		halved++
	}
	for near < 0.75 {
		near = float64(near * 2)
		halved--
	}
	s := (near - 1) / (near + 1)
	u := float64(s * s)
	q := 0.0
	for k := 25; k >= 1; k -= 2 {
		q = 1/float64(k) + float64(u*q)
	}
	return float64(2*float64(s*q)) + float64(float64(halved)*logTwo)
}

// LogNumber returns the logarithm of x, narrowed.
func LogNumber(x float32) float32 {
	switch {
	case x != x || x < 0:
		return float32(math.NaN())
	case x == 0:
		return float32(math.Inf(-1))
	case !IsFinite(x):
		return x
	}
	return float32(wideLog(x))
}

// ExpNumber returns e to the power of x, narrowed.
func ExpNumber(x float32) float32 {
	if x > 200 {
		return float32(math.Inf(1))
	}
	if x < -200 {
		return 0
	}
	t := float64(x) / 256
	p := 1.0
	for k := 12; k >= 1; k-- {
		p = 1 + float64(t*p)/float64(k)
	}
	for range 8 {
		p = float64(p * p)
	}
	return float32(p)
}

// SumNumbers returns the sum from left to right.
func SumNumbers(list []float32) (float32, bool) {
	if len(list) > MaxNumbers {
		return 0, false
	}
	sum := float32(0)
	for _, x := range list {
		sum += x
	}
	return sum, true
}

// DotNumbers returns the sum of products from left to right.
func DotNumbers(a, b []float32) (float32, bool) {
	if len(a) > MaxNumbers || len(a) != len(b) {
		return 0, false
	}
	sum := float32(0)
	for i, x := range a {
		sum += float32(x * b[i])
	}
	return sum, true
}

// SumComplex returns the sum from left to right.
func SumComplex(list []complex64) (complex64, bool) {
	if len(list) > MaxNumbers {
		return 0, false
	}
	sum := complex64(0)
	for _, x := range list {
		sum += x
	}
	return sum, true
}

// DotComplex returns the sum of products from left to right.
func DotComplex(a, b []complex64) (complex64, bool) {
	if len(a) > MaxNumbers || len(a) != len(b) {
		return 0, false
	}
	sum := complex64(0)
	for i, x := range a {
		sum += MulComplex(x, b[i])
	}
	return sum, true
}

// DotConjugate returns the sum of products of the conjugates of a and the numbers of b.
func DotConjugate(a, b []complex64) (complex64, bool) {
	if len(a) > MaxNumbers || len(a) != len(b) {
		return 0, false
	}
	sum := complex64(0)
	for i, x := range a {
		sum += MulComplex(ConjugateOf(x), b[i])
	}
	return sum, true
}

// PowersOf returns the sum of powers, narrowed in the end.
func PowersOf(list []complex64) (float32, bool) {
	if len(list) > MaxNumbers {
		return 0, false
	}
	sum := 0.0
	for _, x := range list {
		sum += widePower(x)
	}
	return float32(sum), true
}

// NumbersText returns the text of numbers.
func NumbersText(list []float32) (string, bool) {
	if len(list) > MaxNumbers {
		return "", false
	}
	parts := make([]string, 0, len(list))
	for _, x := range list {
		parts = append(parts, digitsOf(x))
	}
	return joinParts(parts), true
}

// ReadNumbers returns the numbers with the given text.
func ReadNumbers(s string) ([]float32, bool) {
	parts, ok := splitParts(s, MaxNumbers)
	if !ok {
		return nil, false
	}
	list := make([]float32, 0, len(parts))
	for _, part := range parts {
		x, ok := readDigits(part)
		if !ok {
			return nil, false
		}
		list = append(list, x)
	}
	return list, true
}

// ComplexText returns the text of complex numbers.
func ComplexText(list []complex64) (string, bool) {
	if len(list) > MaxNumbers {
		return "", false
	}
	parts := make([]string, 0, len(list))
	for _, x := range list {
		parts = append(parts, digitsOf(real(x))+digitsOf(imag(x)))
	}
	return joinParts(parts), true
}

// ReadComplex returns the complex numbers with the given text.
func ReadComplex(s string) ([]complex64, bool) {
	parts, ok := splitParts(s, MaxNumbers)
	if !ok {
		return nil, false
	}
	list := make([]complex64, 0, len(parts))
	for _, part := range parts {
		if len(part) != 2*numberDigits {
			return nil, false
		}
		re, ok := readDigits(part[:numberDigits])
		if !ok {
			return nil, false
		}
		im, ok := readDigits(part[numberDigits:])
		if !ok {
			return nil, false
		}
		list = append(list, complex(re, im))
	}
	return list, true
}

func digitsOf(x float32) string {
	return hexDigits(uint64(BitsOf(x)), numberDigits)
}

// hexDigits returns n to the base 16 with count digits, which are enough for it.
func hexDigits(n uint64, count int) string {
	digits := strconv.FormatUint(n, 16)
	return strings.Repeat("0", count-len(digits)) + digits
}

func readDigits(s string) (float32, bool) {
	if len(s) != numberDigits {
		return 0, false
	}
	bits := int64(0)
	for _, r := range s {
		digit, ok := digitValue(r)
		if !ok {
			return 0, false
		}
		bits = bits*16 + digit
	}
	x, ok := FromBits(bits)
	// Only one of the not-a-numbers' bits is ever written.
	if !ok || BitsOf(x) != bits {
		return 0, false
	}
	return x, true
}

func digitValue(r rune) (int64, bool) {
	switch {
	case r >= '0' && r <= '9':
		return int64(r - '0'), true
	case r >= 'a' && r <= 'f':
		return int64(r-'a') + 10, true
	}
	return 0, false
}

func joinParts(parts []string) string {
	if len(parts) == 0 {
		return noneText
	}
	return strings.Join(parts, ",")
}

// splitParts returns what joinParts joined, at most limit parts.
func splitParts(s string, limit int) ([]string, bool) {
	if s == noneText {
		return nil, true
	}
	// Counted first, so that a long text is not cut to pieces in vain.
	if strings.Count(s, ",") >= limit {
		return nil, false
	}
	return strings.Split(s, ","), true
}

// IsName reports whether s is a name.
func IsName(s string) bool {
	if len(s) < 1 || len(s) > mostLetters {
		return false
	}
	for _, r := range s {
		if r < 'a' || r > 'z' {
			return false
		}
	}
	return true
}

// Decimal returns n in decimal.
func Decimal(n int64) string {
	return strconv.FormatInt(n, 10)
}

// ReadDecimal returns the number with the given decimal text.
func ReadDecimal(s string) (int64, bool) {
	n, err := strconv.ParseInt(s, 10, 64)
	// ParseInt takes more texts than Decimal gives: signs +, leading zeros, -0.
	if err != nil || !isItem(n) || Decimal(n) != s {
		return 0, false
	}
	return n, true
}

func isItem(n int64) bool {
	return n >= -MaxValue && n <= MaxValue
}

// ListText returns the text of a list of integers.
func ListText(list []int64) (string, bool) {
	if len(list) > MaxItems {
		return "", false
	}
	parts := make([]string, 0, len(list))
	for _, n := range list {
		if !isItem(n) {
			return "", false
		}
		parts = append(parts, Decimal(n))
	}
	return joinParts(parts), true
}

// ReadList returns the list of integers with the given text.
func ReadList(s string) ([]int64, bool) {
	parts, ok := splitParts(s, MaxItems)
	if !ok {
		return nil, false
	}
	list := make([]int64, 0, len(parts))
	for _, part := range parts {
		n, ok := ReadDecimal(part)
		if !ok {
			return nil, false
		}
		list = append(list, n)
	}
	return list, true
}

// CheckOf returns the check number of a text that begins with start.
func CheckOf(start int64, s string) (int64, bool) {
	if start < 0 || start >= CheckSize {
		return 0, false
	}
	check := start
	for i := range len(s) {
		check = (883*check + int64(s[i]) + 167) % CheckSize
	}
	return check, true
}
