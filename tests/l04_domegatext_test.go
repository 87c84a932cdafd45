package tests

import (
	"fmt"
	"math"
	"math/cmplx"
	"regexp"
	"strconv"
	"strings"
	"testing"

	"loop.example/g00506/impl"
)

// Promise 4: amplitudes round-trip through their text.
// Promise 47: every function is total, pure, and does not modify its arguments.

func textOfFraction(x impl.DOmega) string {
	return fmt.Sprintf("%d,%d,%d,%d/%d", x.N.A, x.N.B, x.N.C, x.N.D, x.Exp)
}

var amplitudeForm = regexp.MustCompile(`^(0|-?[1-9][0-9]*),(0|-?[1-9][0-9]*),(0|-?[1-9][0-9]*),(0|-?[1-9][0-9]*)/(0|-?[1-9][0-9]*)$`)

// expectedAmplitude matches the text as a whole, which the program scans.
func expectedAmplitude(s string) (impl.DOmega, bool) {
	fields := amplitudeForm.FindStringSubmatch(s)
	if fields == nil {
		return impl.DOmega{}, false
	}
	var numbers [5]int
	for i, field := range fields[1:] {
		n, err := strconv.ParseInt(field, 10, 64)
		if err != nil {
			return impl.DOmega{}, false
		}
		numbers[i] = int(n)
	}
	x := domega(numbers[0], numbers[1], numbers[2], numbers[3], numbers[4])
	if !reducedFraction(x) {
		return impl.DOmega{}, false
	}
	return x, true
}

func checkParsedAmplitude(t *testing.T, s string, want impl.DOmega, accept bool) {
	t.Helper()
	got, ok := impl.ParseDOmega(s)
	checkFraction(t, "ParseDOmega", []any{strconv.Quote(s)}, got, ok, want, accept)
}

func TestAmplitudesAndTheirTexts(t *testing.T) {
	cases := []struct {
		x    impl.DOmega
		text string
	}{
		{impl.DOmega{}, "0,0,0,0/0"},
		{impl.OneDOmega(), "1,0,0,0/0"},
		{domega(1, 0, 0, 0, 1), "1,0,0,0/1"},
		{domega(-1, 0, 0, 0, 1), "-1,0,0,0/1"},
		{domega(0, 1, 0, 0, 0), "0,1,0,0/0"},
		{domega(0, 0, 1, 0, 2), "0,0,1,0/2"},
		{domega(0, 0, 0, 1, 3), "0,0,0,1/3"},
		{domega(0, 0, 0, -1, 9), "0,0,0,-1/9"},
		{domega(1, -2, 0, 3, 4), "1,-2,0,3/4"},
		{domega(-1, -2, -4, -6, 10), "-1,-2,-4,-6/10"},
		{domega(10, 21, 30, 400, 20), "10,21,30,400/20"},
		{domega(999999, 1000000, -999999, -1000000, 0), "999999,1000000,-999999,-1000000/0"},
		{domega(1, 0, 0, 0, 60), "1,0,0,0/60"},
		{domega(0, -1, 0, 0, 60), "0,-1,0,0/60"},
		// With exponent 0 the numerator may be divisible by the square root of 2.
		{domega(2, 0, 0, 0, 0), "2,0,0,0/0"},
		{domega(0, 1, 0, -1, 0), "0,1,0,-1/0"},
		{domega(1, 0, 1, 0, 0), "1,0,1,0/0"},
		{domega(-4, 8, -12, 16, 0), "-4,8,-12,16/0"},
		{domega(3, 5, -1, 1, 0), "3,5,-1,1/0"},
		// Coefficients equal to the limit.
		{domega(maxC, 0, 0, 0, 0), "1073741824,0,0,0/0"},
		{domega(0, 0, 0, -maxC, 0), "0,0,0,-1073741824/0"},
		{domega(maxC, maxC, maxC, maxC, 0), "1073741824,1073741824,1073741824,1073741824/0"},
		{domega(-maxC, -maxC, -maxC, -maxC, 0), "-1073741824,-1073741824,-1073741824,-1073741824/0"},
		{domega(maxC, -maxC, maxC, 1-maxC, 60), "1073741824,-1073741824,1073741824,-1073741823/60"},
	}
	for _, c := range cases {
		if got := impl.FormatDOmega(c.x); got != c.text {
			t.Errorf("FormatDOmega(%v) = %q, want %q", c.x, got, c.text)
		}
		checkParsedAmplitude(t, c.text, c.x, true)
	}
}

func TestAmplitudesRoundTrip(t *testing.T) {
	list := append(reducedFractions(), pairFractions()...)
	for exp := range 61 {
		list = append(list, domega(1, 0, 0, 0, exp), domega(-1, 2, -3, 5, exp), domega(maxC, maxC-1, 1-maxC, -maxC, exp))
	}
	for _, x := range list {
		s := impl.FormatDOmega(x)
		if s != textOfFraction(x) {
			t.Fatalf("FormatDOmega(%v) = %q", x, s)
		}
		checkParsedAmplitude(t, s, x, true)
	}
	if len(list) < 1000 {
		t.Errorf("only %d amplitudes", len(list))
	}
}

// TestAmplitudesOfOneNumberHaveOneText reduces fractions in which factors of the square root of 2 are left.
func TestAmplitudesOfOneNumberHaveOneText(t *testing.T) {
	for i, n := range smallElements() {
		x, ok := impl.NewDOmega(n, i%7)
		y, same := impl.NewDOmega(timesRoot(timesRoot(timesRoot(n))), i%7+3)
		if !ok || !same || impl.FormatDOmega(x) != impl.FormatDOmega(y) {
			t.Errorf("the text of %v is %q, but that of %v is %q", x, impl.FormatDOmega(x), y, impl.FormatDOmega(y))
		}
	}
}

func TestInvalidAmplitudesHaveNoText(t *testing.T) {
	for _, x := range []impl.DOmega{
		domega(0, 0, 0, 0, 1), domega(0, 0, 0, 0, 60), domega(2, 0, 0, 0, 1), domega(1, 0, 1, 0, 1), domega(0, 1, 0, -1, 60),
		domega(maxC+1, 0, 0, 0, 0), domega(0, -maxC-1, 0, 0, 0), domega(1, 0, maxC+1, 0, 1), domega(1, 0, 0, -maxC-1, 60),
		domega(1, 0, 0, 0, 61), domega(1, 0, 0, 0, -1), domega(1, 0, 0, 0, math.MaxInt), domega(1, 0, 0, 0, math.MinInt),
		domega(math.MaxInt, 0, 0, 0, 0), domega(math.MinInt, 0, 0, 0, 0),
	} {
		if got := impl.FormatDOmega(x); got != "" {
			t.Errorf("FormatDOmega(%v) = %q", x, got)
		}
	}
	for _, x := range invalidFractions() {
		if got := impl.FormatDOmega(x); got != "" {
			t.Errorf("FormatDOmega(%v) = %q", x, got)
		}
		checkParsedAmplitude(t, textOfFraction(x), impl.DOmega{}, false)
	}
}

func TestTextsOfFractionsThatAreNotReduced(t *testing.T) {
	for _, s := range []string{
		"2,0,0,0/1", "2,0,0,0/2", "4,0,0,0/3", "0,1,0,-1/1", "1,0,1,0/1", "1,0,-1,0/60", "0,-1,0,1/60", "1,1,1,1/2", "3,5,-1,1/7",
		"1073741824,0,0,0/60", "1073741824,1073741824,1073741824,1073741824/1",
		// Zero with an exponent other than 0.
		"0,0,0,0/1", "0,0,0,0/2", "0,0,0,0/59", "0,0,0,0/60", "0,0,0,0/61", "0,0,0,0/-1",
	} {
		checkParsedAmplitude(t, s, impl.DOmega{}, false)
	}
	for _, n := range smallElements() {
		for exp := range 62 {
			x := impl.DOmega{N: n, Exp: exp}
			checkParsedAmplitude(t, textOfFraction(x), x, reducedFraction(x))
		}
	}
}

func TestTextsPastTheLimits(t *testing.T) {
	for _, s := range []string{
		"1073741825,0,0,0/0", "0,1073741825,0,0/0", "0,0,1073741825,0/0", "0,0,0,1073741825/0",
		"-1073741825,0,0,0/0", "0,-1073741825,0,0/0", "0,0,-1073741825,0/0", "0,0,0,-1073741825/0",
		"1,1073741825,0,0/1", "2147483648,0,0,0/2", "4294967296,0,0,0/0", "4294967297,0,0,0/0",
		"999999999999,0,0,0/0", "-999999999999,0,0,0/0", "1000000000000,0,0,0/0", "-1000000000000,0,0,0/0",
		"1,0,0,0/61", "0,1,0,0/61", "1,0,0,0/62", "1,0,0,0/100", "1,0,0,0/120", "4,0,0,0/64", "1073741824,0,0,0/120",
		"1,0,0,0/-1", "0,0,0,0/-1", "2,0,0,0/-2", "1,0,0,0/999999999999", "1,0,0,0/-999999999999", "1,0,0,0/1000000000000",
		"1,0,0,0/4294967296", "1,0,0,0/4294967297",
	} {
		checkParsedAmplitude(t, s, impl.DOmega{}, false)
	}
}

func TestNumbersTooLargeForAnInteger(t *testing.T) {
	fields := []string{"1", "0", "0", "0", "1"}
	for _, digits := range []string{
		"9223372036854775807", "9223372036854775808", "9223372036854775809", "18446744073709551615",
		"18446744073709551616", "18446744073709551617", "36893488147419103233", "340282366920938463463374607431768211457",
		"100000000000000000000", strings.Repeat("9", 100), "1" + strings.Repeat("0", 64), strings.Repeat("7", 10000),
	} {
		for _, sign := range []string{"", "-"} {
			for i := range fields {
				changed := append([]string{}, fields...)
				changed[i] = sign + digits
				checkParsedAmplitude(t, strings.Join(changed[:4], ",")+"/"+changed[4], impl.DOmega{}, false)
			}
		}
	}
}

func TestTextsWithOtherSeparators(t *testing.T) {
	for _, s := range []string{
		"", ",", "/", ",,,/", ",,,", "////", ",,,,", "/,,,", "0", "1", "0/0", "1/1",
		// A separator is missing.
		"1,0,0,0", "1,0,0,00", "1,0,0/0", "1,0,00/0", "10,0,0/0", "0,0,0/0", "0,0/0", "1,0/0/0", "1000/0", "1 0 0 0/0",
		// There is an additional one.
		"1,0,0,0,/0", ",1,0,0,0/0", "1,,0,0,0/0", "1,0,0,0,0/0", "1,0,0,0/0,", "1,0,0,0/0,0", "1,0,0,0/,0",
		"1,0,0,0/0/", "/1,0,0,0/0", "1,0,0,0//0", "1,0,0,0/0/0", "1/0,0,0,0/0", "1,0,0,0/0/0/0", "1,0,0,0/0,0,0,0/0",
		// The right number of them is in another order.
		"1/0,0,0,0", "1,0/0,0,0", "1,0,0/0,0", "1,0,0,0,0", "1/0/0/0/0", "1,0/0/0,0", "/1,0,0,0", "1,0,0,0/", ",0,0,0/0",
		"1,,0,0/0", "1,0,,0/0", "1,0,0,/0",
		// A separator looks like another sign.
		"1;0;0;0/0", "1.0.0.0/0", "1,0,0,0\\0", "1,0,0,0:0", "1,0,0,0|0", "1-0-0-0/0", "1\uff0c0,0,0/0", "1,0,0,0\u22150", "1,0,0,0\u20440", "1,0,0,0\u00f70",
		"(1,0,0,0)/0", "[1,0,0,0]/0", "{1,0,0,0}/0", "1,0,0,0/sqrt2", "1,0,0,0/(0)", "1,0,0,0^0",
		"1\u012c0,0,0/0", "1\xac0,0,0/0", "1,0,0,0\u012f0", "1,0,0,0\xaf0",
	} {
		checkParsedAmplitude(t, s, impl.DOmega{}, false)
	}
}

func TestTextsWithOtherNumbers(t *testing.T) {
	texts := []string{
		"", " ", "-", "+", "--1", "+-1", "-+1", "+0", "+1", "+2", "-0", "-00", "00", "000", "01", "02", "007", "-01", "0000000000000001",
		" 1", "1 ", " 1 ", "\t1", "1\n", "1\r\n", "1\v", "\u00a01", "1\u2003", "\ufeff1", "1 0", "- 1",
		"x", "1x", "x1", "a", "1a", "0x1", "0b1", "0o1", "1e0", "1e3", "1.0", "1.", ".1", "1_0", "_1", "1'0", "Inf", "NaN", "omega", "1i",
		"\u0660", "\u0661", "\uff10", "\uff11", "\u06f1", "\u0967", "\u00b9", "\u2081", "\u00bd", "\u2460", "\U0001d7cf", "\u22121", "\u20131", "1\u0301",
		"\x00", "1\x00", "\x001", "\x7f", "\x80", "1\x80", "\x801", "\xff", "1\xff", "\xb1", "\xb0", "\xc0\xb1", "\xe0\x80\xb1", "\xc2", "1\xe2\x82", "\xed\xa0\x80", "\xf4\x90\x80\x80", "\ufffd", "1\ufffd",
	}
	for _, text := range texts {
		for i := range 5 {
			fields := []string{"1", "0", "-3", "2", "1"}
			fields[i] = text
			checkParsedAmplitude(t, strings.Join(fields[:4], ",")+"/"+fields[4], impl.DOmega{}, false)
		}
	}
}

// TestTextsChangedInOnePlace inserts, replaces and removes every byte in every place of some texts.
func TestTextsChangedInOnePlace(t *testing.T) {
	accepted := 0
	check := func(s string) {
		want, accept := expectedAmplitude(s)
		checkParsedAmplitude(t, s, want, accept)
		if accept {
			accepted++
		}
	}
	for _, s := range []string{
		"0,0,0,0/0", "1,0,0,0/1", "-1,0,0,0/60", "1,-2,0,3/4", "0,1,0,-1/0", "10,21,30,400/20", "1,0,0,0/6",
		"1073741824,-1073741824,1073741824,1/0", "-1073741823,0,0,0/59", "107374182,0,1,-10/9",
	} {
		check(s)
		for i := range len(s) {
			check(s[:i] + s[i+1:])
			for _, part := range []string{s[i : i+1], " ", "\ufffd", "\u0660", "00", ",,", "//", "-1", "10"} {
				check(s[:i] + part + s[i:])
			}
			for b := range 256 {
				check(s[:i] + string([]byte{byte(b)}) + s[i:])
				check(s[:i] + string([]byte{byte(b)}) + s[i+1:])
			}
		}
		for b := range 256 {
			check(s + string([]byte{byte(b)}))
		}
	}
	if accepted < 1000 {
		t.Errorf("only %d texts are those of amplitudes", accepted)
	}
}

// TestAcceptedTextsAreFormatted combines right and wrong fields: a text that is accepted is the text of its amplitude.
func TestAcceptedTextsAreFormatted(t *testing.T) {
	accepted := 0
	for _, first := range []string{"", "0", "1", "-0", "-1", "01", "+1"} {
		for _, second := range []string{"", "0", "1", "2", " ", "-"} {
			for _, third := range []string{"0", "1", "-2", "3/", "/"} {
				for _, fourth := range []string{"0", "1", "2,", "-1"} {
					for _, exp := range []string{"", "0", "1", "2", "02", "60", "61", "-1", ",0"} {
						s := first + "," + second + "," + third + "," + fourth + "/" + exp
						want, accept := expectedAmplitude(s)
						checkParsedAmplitude(t, s, want, accept)
						if !accept {
							continue
						}
						accepted++
						if got := impl.FormatDOmega(want); got != s {
							t.Errorf("FormatDOmega(%v) = %q, want %q", want, got, s)
						}
					}
				}
			}
		}
	}
	if accepted < 100 {
		t.Errorf("only %d texts are those of amplitudes", accepted)
	}
}

func TestLongTexts(t *testing.T) {
	for _, s := range []string{
		strings.Repeat(",", 100000), strings.Repeat("/", 100000), strings.Repeat("0,", 50000), strings.Repeat("1,0,0,0/0", 2),
		strings.Repeat("1,0,0,0/0,", 10000), "1,0,0,0/" + strings.Repeat("0", 100000), strings.Repeat("\xff", 100000), strings.Repeat("\u20ac", 30000),
	} {
		checkParsedAmplitude(t, s, impl.DOmega{}, false)
	}
}

func TestInvSqrt2Power(t *testing.T) {
	half := domega(1, 0, 0, 0, 1)
	product := impl.OneDOmega()
	for k := range 61 {
		got := impl.InvSqrt2Power(k)
		if got != domega(1, 0, 0, 0, k) || got != product {
			t.Errorf("InvSqrt2Power(%d) = %v", k, got)
		}
		if cmplx.Abs(fractionValue(got)*complex(math.Pow(2, float64(k)/2), 0)-1) > 1e-9 {
			t.Errorf("InvSqrt2Power(%d) denotes %v", k, fractionValue(got))
		}
		if text := impl.FormatDOmega(got); text != "1,0,0,0/"+strconv.Itoa(k) {
			t.Errorf("the text of InvSqrt2Power(%d) is %q", k, text)
		}
		product, _ = impl.MulDOmega(product, half)
	}
	checkParsedAmplitude(t, "1,0,0,0/1", impl.InvSqrt2Power(1), true)
}

func TestInvSqrt2PowerPastTheLimits(t *testing.T) {
	for _, k := range []int{
		-1, -2, -60, -61, 61, 62, 119, 120, 121, 1 << 32, 1<<32 + 1, -1 << 32, 1<<32 - 1, math.MaxInt, math.MaxInt - 1, math.MinInt, math.MinInt + 1, math.MinInt + 60,
	} {
		if got := impl.InvSqrt2Power(k); got != (impl.DOmega{}) {
			t.Errorf("InvSqrt2Power(%d) = %v", k, got)
		}
	}
}

func TestAmplitudeTextsKeepNoState(t *testing.T) {
	for range 3 {
		checkParsedAmplitude(t, "1,-2,0,3/4", domega(1, -2, 0, 3, 4), true)
		checkParsedAmplitude(t, "1,-2,0,", impl.DOmega{}, false)
		checkParsedAmplitude(t, "/4", impl.DOmega{}, false)
		if got := impl.FormatDOmega(domega(1, -2, 0, 3, 4)); got != "1,-2,0,3/4" {
			t.Errorf("FormatDOmega = %q", got)
		}
		impl.FormatDOmega(domega(2, 0, 0, 0, 1))
		impl.InvSqrt2Power(61)
		if got := impl.InvSqrt2Power(60); got != domega(1, 0, 0, 0, 60) {
			t.Errorf("InvSqrt2Power(60) = %v", got)
		}
	}
}
