package impl

import (
	"cmp"
	"errors"
	"math"
	"strconv"
	"strings"
)

// Constants, see chapter 1.
const (
	OK        = 0
	ErrForm   = 1
	ErrSize   = 2
	ErrSyntax = 3
	ErrNone   = 4
	ErrOver   = 5
	ErrShort  = 6
	ErrSum    = 7
	ErrState  = 9
	MaxBytes  = 20000
	MaxList   = 400
)

// Constants, see chapter 2.
const (
	MaxPart = 2147483647
)

// maxMeasure is the greatest magnitude of a measure, see chapter 1.
const maxMeasure = 1000000000

// Frac is a thing of chapter 2.
type Frac struct {
	Num int64
	Den int64
}

// FracOut is a thing of chapter 2.
type FracOut struct {
	F    Frac
	Code int64
}

// refusal is an error with the code that a face tells of it.
type refusal struct {
	code int64
}

func (r refusal) Error() string {
	return "refused with code " + strconv.FormatInt(r.code, 10)
}

// during wraps an error on its way to a face by what was being done.
type during struct {
	what string
	why  error
}

func (d during) Error() string {
	return d.what + ": " + d.why.Error()
}

func (d during) Unwrap() error {
	return d.why
}

// codeOf: an error without a code stands for something wrong that was handed in.
func codeOf(err error) int64 {
	if err == nil {
		return OK
	}
	var r refusal
	if errors.As(err, &r) {
		return r.code
	}
	return ErrForm
}

func tellFrac(f Frac, err error) FracOut {
	if err != nil {
		return FracOut{Code: codeOf(err)}
	}
	return FracOut{F: f}
}

// FracRight: see chapter 2.
func FracRight(a Frac) bool {
	f, err := lowestTerms(a.Num, a.Den)
	return err == nil && f == a
}

// FracOf: see chapter 2.
func FracOf(num int64, den int64) FracOut {
	return tellFrac(lowestTerms(num, den))
}

// lowestTerms refuses the least int64 ahead of all reckoning, since it has no opposite.
func lowestTerms(num int64, den int64) (Frac, error) {
	if den == 0 {
		return Frac{}, during{"a quotient by nought", refusal{ErrForm}}
	}
	if num == math.MinInt64 || den == math.MinInt64 {
		return Frac{}, during{"a part without an opposite", refusal{ErrOver}}
	}
	if den < 0 {
		num, den = -num, -den
	}
	g := commonDivisor(magnitude(num), den)
	f := Frac{Num: num / g, Den: den / g}
	if magnitude(f.Num) > MaxPart || f.Den > MaxPart {
		return Frac{}, during{"a part in lowest terms", refusal{ErrOver}}
	}
	return f, nil
}

func magnitude(n int64) int64 {
	if n < 0 {
		return -n
	}
	return n
}

// commonDivisor of nought and b is b, which makes 1 the Den of nought.
func commonDivisor(a int64, b int64) int64 {
	for a != 0 {
		a, b = b%a, a
	}
	return b
}

// FracAdd: see chapter 2.
func FracAdd(a Frac, b Frac) FracOut {
	return tellFrac(reckon("a sum", a, b, sumParts))
}

// FracSub: see chapter 2.
func FracSub(a Frac, b Frac) FracOut {
	return tellFrac(reckon("a difference", a, b, differenceParts))
}

// FracMul: see chapter 2.
func FracMul(a Frac, b Frac) FracOut {
	return tellFrac(reckon("a product", a, b, productParts))
}

// FracDiv: see chapter 2.
func FracDiv(a Frac, b Frac) FracOut {
	return tellFrac(reckon("a quotient", a, b, quotientParts))
}

// reckon holds both sides to be right first: only then do the parts stay within int64,
// twice the square of MaxPart being below the greatest one.
func reckon(what string, a Frac, b Frac, parts func(Frac, Frac) (int64, int64)) (Frac, error) {
	if !FracRight(a) {
		return Frac{}, during{what + ", on the left", refusal{ErrForm}}
	}
	if !FracRight(b) {
		return Frac{}, during{what + ", on the right", refusal{ErrForm}}
	}
	f, err := lowestTerms(parts(a, b))
	if err != nil {
		return Frac{}, during{what, err}
	}
	return f, nil
}

func sumParts(a Frac, b Frac) (int64, int64) {
	return a.Num*b.Den + b.Num*a.Den, a.Den * b.Den
}

func differenceParts(a Frac, b Frac) (int64, int64) {
	return a.Num*b.Den - b.Num*a.Den, a.Den * b.Den
}

func productParts(a Frac, b Frac) (int64, int64) {
	return a.Num * b.Num, a.Den * b.Den
}

// quotientParts has nought below where b is nought, which lowestTerms refuses.
func quotientParts(a Frac, b Frac) (int64, int64) {
	return a.Num * b.Den, a.Den * b.Num
}

// FracCmp: see chapter 2.
func FracCmp(a Frac, b Frac) int64 {
	if !FracRight(a) || !FracRight(b) {
		return 0
	}
	return int64(cmp.Compare(a.Num*b.Den, b.Num*a.Den))
}

// FracText: see chapter 2.
func FracText(a Frac) string {
	if !FracRight(a) {
		return ""
	}
	num := strconv.FormatInt(a.Num, 10)
	if a.Den == 1 {
		return num
	}
	return num + "/" + strconv.FormatInt(a.Den, 10)
}

// FracRead: see chapter 2.
func FracRead(text string) FracOut {
	return tellFrac(readFrac(text))
}

// readFrac writes what it has read again, since several texts stand for one value
// and only the one that FracText writes may be read.
func readFrac(text string) (Frac, error) {
	if len(text) > MaxBytes {
		return Frac{}, during{"a text", refusal{ErrSize}}
	}
	f, err := readParts(text)
	if err != nil {
		return Frac{}, during{"a fraction", err}
	}
	if FracText(f) != text {
		return Frac{}, during{"a fraction written otherwise", refusal{ErrSyntax}}
	}
	return f, nil
}

func readParts(text string) (Frac, error) {
	above, below, slash := strings.Cut(text, "/")
	if !slash {
		below = "1"
	}
	num, err := readPart(above)
	if err != nil {
		return Frac{}, during{"the part above", err}
	}
	den, err := readPart(below)
	if err != nil {
		return Frac{}, during{"the part below", err}
	}
	return Frac{Num: num, Den: den}, nil
}

func readPart(digits string) (int64, error) {
	n, err := strconv.ParseInt(digits, 10, 64)
	if err != nil {
		return 0, refusal{ErrSyntax}
	}
	return n, nil
}

// isMeasure: a NaN is neither above nor below, so it fails here as the infinities do.
func isMeasure(x float64) bool {
	return x >= -maxMeasure && x <= maxMeasure
}

// KeepFloat: see chapter 2.
func KeepFloat(x float64) float64 {
	if !isMeasure(x) {
		return 0
	}
	return float64(float32(x))
}

// SumFloats: see chapter 2.
func SumFloats(list []float64) float64 {
	sum, _ := sumMeasures(list)
	return sum
}

// MeanFloats: see chapter 2.
func MeanFloats(list []float64) float64 {
	sum, count := sumMeasures(list)
	if count == 0 {
		return 0
	}
	return sum / float64(count)
}

// sumMeasures also tells how many of the list are measures; a list that is too long has none.
func sumMeasures(list []float64) (float64, int64) {
	if len(list) > MaxList {
		return 0, 0
	}
	sum, count := 0.0, int64(0)
	for _, x := range list {
		if isMeasure(x) {
			sum += x
			count++
		}
	}
	return sum, count
}
