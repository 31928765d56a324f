package tests

import (
	"math"
	"math/big"
	"regexp"
	"strconv"
	"strings"
	"testing"

	"loop.example/g00068/impl"
)

const top = int64(impl.MaxPart)

type fracCall struct {
	name  string
	call  func(a impl.Frac, b impl.Frac) impl.FracOut
	exact func(z *big.Rat, a *big.Rat, b *big.Rat) *big.Rat
}

func fracCalls() []fracCall {
	return []fracCall{
		{"FracAdd", impl.FracAdd, (*big.Rat).Add},
		{"FracSub", impl.FracSub, (*big.Rat).Sub},
		{"FracMul", impl.FracMul, (*big.Rat).Mul},
		{"FracDiv", impl.FracDiv, (*big.Rat).Quo},
	}
}

func frac(num int64, den int64) impl.Frac {
	return impl.Frac{Num: num, Den: den}
}

func told(num int64, den int64) impl.FracOut {
	return impl.FracOut{F: frac(num, den), Code: impl.OK}
}

func refused(code int64) impl.FracOut {
	return impl.FracOut{Code: code}
}

// rightFracs has small ones, ones at the limits, and ones whose products leave 32 bits, each with both signs.
func rightFracs() []impl.Frac {
	list := []impl.Frac{frac(0, 1)}
	for _, f := range []impl.Frac{
		frac(1, 1), frac(1, 2), frac(1, 3), frac(2, 3), frac(5, 6), frac(7, 1), frac(355, 113),
		frac(top, 1), frac(1, top), frac(top, top-1), frac(top-1, top), frac(top-1, 1), frac(1, top-1),
		frac(top, 2), frac(2, top), frac(65536, 1), frac(1, 65536), frac(65536, 3), frac(3, 65536),
		frac(46341, 46340), frac(46340, 46341), frac(1073741824, 1), frac(1, 1073741824),
	} {
		list = append(list, f, frac(-f.Num, f.Den))
	}
	return list
}

func wrongFracs() []impl.Frac {
	return []impl.Frac{
		frac(0, 0), frac(1, 0), frac(0, 2), frac(0, -1), frac(0, top), frac(0, top+1),
		frac(2, 4), frac(-2, 4), frac(top, top), frac(3, 3), frac(1, -2), frac(-1, -2), frac(-1, -1),
		frac(top+1, 1), frac(-top-1, 1), frac(1, top+1), frac(-1, top+1), frac(top+1, top+1), frac(top+1, 2),
		frac(2, 2*top), frac(2*top, 2),
		frac(math.MinInt64, 1), frac(1, math.MinInt64), frac(math.MinInt64, math.MinInt64), frac(math.MinInt64, 0),
		frac(0, math.MinInt64), frac(math.MaxInt64, 1), frac(1, math.MaxInt64), frac(math.MaxInt64, math.MaxInt64),
	}
}

func sameFrac(t *testing.T, what string, got impl.FracOut, want impl.FracOut) {
	t.Helper()
	if got != want {
		t.Errorf("%s: got %+v, want %+v", what, got, want)
	}
}

// outOf is the answer that the document asks for of an exact value.
func outOf(value *big.Rat) impl.FracOut {
	limit := big.NewInt(top)
	if value.Num().CmpAbs(limit) > 0 || value.Denom().Cmp(limit) > 0 {
		return refused(impl.ErrOver)
	}
	return told(value.Num().Int64(), value.Denom().Int64())
}

func TestPromise1FracRight(t *testing.T) {
	for _, f := range rightFracs() {
		if !impl.FracRight(f) {
			t.Errorf("FracRight(%+v) is false", f)
		}
	}
	for _, f := range wrongFracs() {
		if impl.FracRight(f) {
			t.Errorf("FracRight(%+v) is true", f)
		}
	}
	for num := int64(-30); num <= 30; num++ {
		for den := int64(-30); den <= 30; den++ {
			want := den > 0 && big.NewRat(num, max(den, 1)).Denom().Int64() == den
			if got := impl.FracRight(frac(num, den)); got != want {
				t.Errorf("FracRight(%d/%d): got %v, want %v", num, den, got, want)
			}
		}
	}
}

func TestPromise1FracOf(t *testing.T) {
	least, most := int64(math.MinInt64), int64(math.MaxInt64)
	for _, c := range []struct {
		num, den int64
		want     impl.FracOut
	}{
		{6, -4, told(-3, 2)},
		{-6, -4, told(3, 2)},
		{-6, 4, told(-3, 2)},
		{0, 5, told(0, 1)},
		{0, -5, told(0, 1)},
		{0, most, told(0, 1)},
		{top, 1, told(top, 1)},
		{-top, 1, told(-top, 1)},
		{1, top, told(1, top)},
		{1, -top, told(-1, top)},
		{top + 1, 1, refused(impl.ErrOver)},
		{-top - 1, 1, refused(impl.ErrOver)},
		{1, top + 1, refused(impl.ErrOver)},
		{1, -top - 1, refused(impl.ErrOver)},
		{top + 1, 2, told(1073741824, 1)},
		{2, top + 1, told(1, 1073741824)},
		{top * top, top, told(top, 1)},
		{-top, top * top, told(-1, top)},
		{most, most, told(1, 1)},
		{most, -most, told(-1, 1)},
		{most, 1, refused(impl.ErrOver)},
		{1, most, refused(impl.ErrOver)},
		{most, most - 1, refused(impl.ErrOver)},
		{1, 0, refused(impl.ErrForm)},
		{0, 0, refused(impl.ErrForm)},
		{least, 0, refused(impl.ErrForm)},
		{least, 1, refused(impl.ErrOver)},
		{least, -1, refused(impl.ErrOver)},
		{1, least, refused(impl.ErrOver)},
		{0, least, refused(impl.ErrOver)},
		{least, least, refused(impl.ErrOver)},
		{least, 1 << 40, refused(impl.ErrOver)},
		{least + 1, least + 1, told(1, 1)},
	} {
		sameFrac(t, "FracOf", impl.FracOf(c.num, c.den), c.want)
	}
}

func TestPromise1FracOfExact(t *testing.T) {
	parts := []int64{0, 1, -1, 2, -3, 12, 65536, top - 1, top, top + 1, -top, -top - 1, 2 * top, top * top, -top * top, math.MaxInt64, -math.MaxInt64}
	for _, num := range parts {
		for _, den := range parts {
			if den == 0 {
				continue
			}
			got := impl.FracOf(num, den)
			sameFrac(t, "FracOf", got, outOf(big.NewRat(num, den)))
			if got.Code == impl.OK && !impl.FracRight(got.F) {
				t.Errorf("FracOf(%d, %d) tells %+v, which is not right", num, den, got.F)
			}
		}
	}
}

func TestPromise1ReckoningExact(t *testing.T) {
	for _, c := range fracCalls() {
		for _, a := range rightFracs() {
			for _, b := range rightFracs() {
				if c.name == "FracDiv" && b.Num == 0 {
					continue
				}
				got := c.call(a, b)
				want := outOf(c.exact(new(big.Rat), big.NewRat(a.Num, a.Den), big.NewRat(b.Num, b.Den)))
				if got != want {
					t.Errorf("%s(%+v, %+v): got %+v, want %+v", c.name, a, b, got, want)
				}
				if got.Code == impl.OK && !impl.FracRight(got.F) {
					t.Errorf("%s(%+v, %+v) tells %+v, which is not right", c.name, a, b, got.F)
				}
			}
		}
	}
}

func TestPromise1ReckoningLimits(t *testing.T) {
	sameFrac(t, "add, back into range", impl.FracAdd(frac(top, 2), frac(1, 2)), told(1073741824, 1))
	sameFrac(t, "add, Den back into range", impl.FracAdd(frac(1, 65536), frac(1, 65536)), told(1, 32768))
	sameFrac(t, "add, at the limit", impl.FracAdd(frac(top-1, 1), frac(1, 1)), told(top, 1))
	sameFrac(t, "add, beyond", impl.FracAdd(frac(top, 1), frac(1, 1)), refused(impl.ErrOver))
	sameFrac(t, "add, Den beyond", impl.FracAdd(frac(1, top), frac(1, top-1)), refused(impl.ErrOver))
	sameFrac(t, "add, greatest parts", impl.FracAdd(frac(top, top-1), frac(top-1, top)), refused(impl.ErrOver))
	sameFrac(t, "add, opposites", impl.FracAdd(frac(top, top-1), frac(-top, top-1)), told(0, 1))
	sameFrac(t, "sub, at the limit", impl.FracSub(frac(-top+1, 1), frac(1, 1)), told(-top, 1))
	sameFrac(t, "sub, beyond", impl.FracSub(frac(-top, 1), frac(1, 1)), refused(impl.ErrOver))
	sameFrac(t, "sub, back into range", impl.FracSub(frac(-top, 2), frac(1, 2)), told(-1073741824, 1))
	sameFrac(t, "mul, back into range", impl.FracMul(frac(65536, 3), frac(3, 65536)), told(1, 1))
	sameFrac(t, "mul, beyond", impl.FracMul(frac(65536, 1), frac(-65536, 1)), refused(impl.ErrOver))
	sameFrac(t, "mul, Den beyond", impl.FracMul(frac(1, 65536), frac(1, 65536)), refused(impl.ErrOver))
	sameFrac(t, "mul, by nought", impl.FracMul(frac(-1, top), frac(0, 1)), told(0, 1))
	sameFrac(t, "div, back into range", impl.FracDiv(frac(top, 1), frac(-top, 1)), told(-1, 1))
	sameFrac(t, "div, beyond", impl.FracDiv(frac(top, 1), frac(1, 2)), refused(impl.ErrOver))
	sameFrac(t, "div, Den beyond", impl.FracDiv(frac(1, 2), frac(top, 1)), refused(impl.ErrOver))
	sameFrac(t, "div, sign", impl.FracDiv(frac(1, 1), frac(-1, 2)), told(-2, 1))
	sameFrac(t, "div, of nought", impl.FracDiv(frac(0, 1), frac(-1, 2)), told(0, 1))
	sameFrac(t, "div, by nought", impl.FracDiv(frac(1, 2), frac(0, 1)), refused(impl.ErrForm))
	sameFrac(t, "div, nought by nought", impl.FracDiv(frac(0, 1), frac(0, 1)), refused(impl.ErrForm))
}

func TestPromise1WrongSides(t *testing.T) {
	good := []impl.Frac{frac(0, 1), frac(1, 2), frac(top, 1)}
	for _, bad := range wrongFracs() {
		for _, c := range fracCalls() {
			for _, f := range good {
				sameFrac(t, c.name+", wrong on the left", c.call(bad, f), refused(impl.ErrForm))
				sameFrac(t, c.name+", wrong on the right", c.call(f, bad), refused(impl.ErrForm))
			}
			sameFrac(t, c.name+", wrong on both sides", c.call(bad, bad), refused(impl.ErrForm))
		}
		for _, f := range rightFracs() {
			if left, right := impl.FracCmp(bad, f), impl.FracCmp(f, bad); left != 0 || right != 0 {
				t.Errorf("FracCmp of %+v and %+v: got %d and %d", bad, f, left, right)
			}
		}
	}
}

func TestFracCmp(t *testing.T) {
	for _, a := range rightFracs() {
		for _, b := range rightFracs() {
			want := int64(big.NewRat(a.Num, a.Den).Cmp(big.NewRat(b.Num, b.Den)))
			if got := impl.FracCmp(a, b); got != want {
				t.Errorf("FracCmp(%+v, %+v): got %d, want %d", a, b, got, want)
			}
		}
	}
}

func TestPromise2FracText(t *testing.T) {
	for _, c := range []struct {
		f    impl.Frac
		want string
	}{
		{frac(0, 1), "0"},
		{frac(5, 1), "5"},
		{frac(-5, 1), "-5"},
		{frac(1, 2), "1/2"},
		{frac(-3, 2), "-3/2"},
		{frac(top, 1), "2147483647"},
		{frac(-top, 1), "-2147483647"},
		{frac(-top, top-1), "-2147483647/2147483646"},
		{frac(-1, top), "-1/2147483647"},
	} {
		if got := impl.FracText(c.f); got != c.want {
			t.Errorf("FracText(%+v): got %q, want %q", c.f, got, c.want)
		}
	}
	for _, f := range wrongFracs() {
		if got := impl.FracText(f); got != "" {
			t.Errorf("FracText(%+v): got %q, want nothing", f, got)
		}
	}
}

func TestPromise2ReadsWhatIsWritten(t *testing.T) {
	for _, f := range rightFracs() {
		text := impl.FracText(f)
		sameFrac(t, "FracRead of "+strconv.Quote(text), impl.FracRead(text), told(f.Num, f.Den))
	}
}

func TestPromise2ReadsNothingElse(t *testing.T) {
	for _, text := range []string{
		"", "-", "+", "/", "1/", "/2", "-/2", "1//2", "1/2/3", "1/2/", "/1/2",
		"+1", "+1/2", "1/+2", "1/-2", "-1/-2", "--1", "-+1",
		"-0", "-0/1", "0/1", "0/2", "00", "01", "-01", "01/2", "1/02", "-01/2", "007",
		"1/1", "-7/1", "5/1", "1/0", "0/0", "2/4", "-2/4", "3/3", "6/3", "2147483647/2147483647",
		"2147483648", "-2147483648", "1/2147483648", "-1/2147483648", "2147483648/3", "4294967294/2",
		"9223372036854775807", "9223372036854775808", "-9223372036854775808", "1/9223372036854775808",
		"18446744073709551617", "1/18446744073709551618",
		" 1", "1 ", "1 /2", "1/ 2", " ", "1\n", "\t1", "1\x00", "\x00", "1,2", "1.0", "1e3", "0x1", "1_0", "1/2_0",
		"abc", "NaN", "1:2", "\u00bd", "\u0661", "\u22121", "1\u20442", "\xff", "\xff1",
	} {
		sameFrac(t, "FracRead of "+strconv.Quote(text), impl.FracRead(text), refused(impl.ErrSyntax))
	}
}

func TestPromise2ShortTexts(t *testing.T) {
	form := regexp.MustCompile(`^(0|-?[1-9][0-9]*)(/[1-9][0-9]*)?$`)
	texts := []string{""}
	for from, size := 0, 1; size <= 5; size++ {
		upTo := len(texts)
		for _, text := range texts[from:upTo] {
			for _, sign := range "-/+ 0126" {
				texts = append(texts, text+string(sign))
			}
		}
		from = upTo
	}
	for _, text := range texts {
		want := refused(impl.ErrSyntax)
		if value, ok := new(big.Rat).SetString(text); ok && form.MatchString(text) && value.RatString() == text {
			want = told(value.Num().Int64(), value.Denom().Int64())
		}
		sameFrac(t, "FracRead of "+strconv.Quote(text), impl.FracRead(text), want)
	}
}

func TestPromise2TextSize(t *testing.T) {
	for _, digit := range []string{"0", "1", "/", "-", "x"} {
		full := strings.Repeat(digit, impl.MaxBytes)
		sameFrac(t, "MaxBytes of "+digit, impl.FracRead(full), refused(impl.ErrSyntax))
		sameFrac(t, "one more of "+digit, impl.FracRead(full+digit), refused(impl.ErrSize))
	}
}
