package tests

import (
	"math"
	"slices"
	"strconv"
	"strings"
	"testing"

	"loop.example/g00506/impl"
)

// Promise 1: formatting and parsing of integers are inverse.
// Promise 47: every function is total, pure, and does not modify its arguments.

func TestFormatInt(t *testing.T) {
	cases := []struct {
		n    int
		want string
	}{
		{0, "0"}, {1, "1"}, {9, "9"}, {10, "10"}, {70, "70"}, {100, "100"},
		{-1, "-1"}, {-5, "-5"}, {-9, "-9"}, {-10, "-10"}, {-70, "-70"},
		{999999, "999999"}, {1000000, "1000000"},
		{999999999999, "999999999999"}, {-1000000000000, "-1000000000000"},
		{math.MaxInt, "9223372036854775807"},
		{math.MinInt + 1, "-9223372036854775807"},
		{math.MinInt, "-9223372036854775808"},
	}
	for _, c := range cases {
		if got := impl.FormatInt(c.n); got != c.want {
			t.Errorf("FormatInt(%d) = %q, want %q", c.n, got, c.want)
		}
	}
}

func TestParseNumberInvertsFormatInt(t *testing.T) {
	for n := 0; n <= 999999; n++ {
		if got, ok := impl.ParseNumber(impl.FormatInt(n)); got != n || !ok {
			t.Fatalf("ParseNumber(FormatInt(%d)) = %d, %v", n, got, ok)
		}
	}
}

// integersAround returns integers of every length, small ones and the neighbours of powers of 2 and 10, with both signs.
func integersAround() []int {
	var list []int
	add := func(middle int) {
		for n := middle - 3; n <= middle+3; n++ {
			list = append(list, n, -n)
		}
	}
	for n := range 2000 {
		list = append(list, n, -n)
	}
	for power := 1; power <= 100000000000000000; power *= 10 {
		for digit := 1; digit <= 10; digit++ {
			add(digit * power)
		}
	}
	for bit := range 62 {
		add(1 << bit)
	}
	return append(list, math.MaxInt, math.MinInt, math.MinInt+1)
}

func TestParsingInvertsFormattingWithinTheLimits(t *testing.T) {
	for _, n := range integersAround() {
		s := impl.FormatInt(n)
		if s != strconv.FormatInt(int64(n), 10) {
			t.Errorf("FormatInt(%d) = %q", n, s)
		}
		checkParsed(t, "ParseNumber", impl.ParseNumber, s, n, n >= 0 && n <= 999999)
		checkParsed(t, "ParseInt", impl.ParseInt, s, n, n >= -999999999999 && n <= 999999999999)
	}
}

// checkParsed expects n and true, or 0 and false if s is not to be accepted.
func checkParsed(t *testing.T, name string, parse func(string) (int, bool), s string, n int, accept bool) {
	t.Helper()
	if !accept {
		n = 0
	}
	if got, ok := parse(s); got != n || ok != accept {
		t.Errorf("%s(%q) = %d, %v, want %d, %v", name, s, got, ok, n, accept)
	}
}

func TestParseNumberLimits(t *testing.T) {
	checkParsed(t, "ParseNumber", impl.ParseNumber, "0", 0, true)
	checkParsed(t, "ParseNumber", impl.ParseNumber, "999999", 999999, true)
	for _, s := range []string{"-1", "-5", "-999999", "1000000", "999999999999", "-999999999999"} {
		checkParsed(t, "ParseNumber", impl.ParseNumber, s, 0, false)
	}
}

func TestParseIntLimits(t *testing.T) {
	checkParsed(t, "ParseInt", impl.ParseInt, "0", 0, true)
	checkParsed(t, "ParseInt", impl.ParseInt, "-5", -5, true)
	checkParsed(t, "ParseInt", impl.ParseInt, "1000000", 1000000, true)
	checkParsed(t, "ParseInt", impl.ParseInt, "999999999999", 999999999999, true)
	checkParsed(t, "ParseInt", impl.ParseInt, "-999999999999", -999999999999, true)
	checkParsed(t, "ParseInt", impl.ParseInt, "1000000000000", 0, false)
	checkParsed(t, "ParseInt", impl.ParseInt, "-1000000000000", 0, false)
}

func TestTextsOfNoInteger(t *testing.T) {
	list := []string{
		"", "-", "+", "--", "-+1", "+-1", "--1", "1-", "1-1",
		"+0", "+1", "-0", "-00", "00", "000", "01", "007", "-01", "-007", "0000000", "0999999",
		" ", " 1", "1 ", "1 2", "- 1", "-1 ", "\t1", "1\n", "\n", "1\r",
		"a", "1a", "a1", "0x1", "0b1", "0o7", "1e3", "1.0", "1.", ".1", "1,000", "1_000", "1_0", "_1", "NaN", "Inf",
		"\x00", "1\x00", "\x001", "\x80", "1\xff", "\xb1", "/", ":", "1/", "1:",
		"\u0661", "\uff11", "\u22121", "\u00bd", "1\u00a0", "\ufeff1",
	}
	for _, s := range list {
		checkParsed(t, "ParseNumber", impl.ParseNumber, s, 0, false)
		checkParsed(t, "ParseInt", impl.ParseInt, s, 0, false)
	}
}

func TestDigitsTooManyForAnInteger(t *testing.T) {
	list := []string{
		"9223372036854775807", "9223372036854775808", "9223372036854775809",
		"18446744073709551615", "18446744073709551616", "18446744073709551617", // 2^64-1 to 2^64+1
		"18446744073710551615", "36893488147419103233", "184467440737095516161",
		"340282366920938463463374607431768211457", // 2^128+1
		"100000000000000000000", strings.Repeat("9", 100), "1" + strings.Repeat("0", 64),
		strings.Repeat("0", 100), strings.Repeat("0", 30) + "1", strings.Repeat("7", 100000),
	}
	for _, s := range list {
		for _, sign := range []string{"", "-", "+"} {
			checkParsed(t, "ParseNumber", impl.ParseNumber, sign+s, 0, false)
			checkParsed(t, "ParseInt", impl.ParseInt, sign+s, 0, false)
		}
	}
	checkParsed(t, "ParseInt", impl.ParseInt, "-9223372036854775808", 0, false)
}

// TestAllShortTexts parses every text of at most two bytes, and every one of three and four bytes that could mislead.
func TestAllShortTexts(t *testing.T) {
	integers := map[string]int{}
	for n := -999; n <= 9999; n++ {
		integers[strconv.Itoa(n)] = n
	}
	check := func(s string) {
		n, known := integers[s]
		checkParsed(t, "ParseNumber", impl.ParseNumber, s, n, known && n >= 0)
		checkParsed(t, "ParseInt", impl.ParseInt, s, n, known)
	}
	for a := range 256 {
		check(string([]byte{byte(a)}))
		for b := range 256 {
			check(string([]byte{byte(a), byte(b)}))
		}
	}
	misleading := "019-+ _.ex\x00\xff"
	texts := []string{""}
	for length := 1; length <= 4; length++ {
		var longer []string
		for _, s := range texts {
			for i := range len(misleading) {
				longer = append(longer, s+misleading[i:i+1])
			}
		}
		texts = longer
		for _, s := range texts {
			check(s)
		}
	}
}

func TestSplitByte(t *testing.T) {
	cases := []struct {
		s    string
		by   byte
		want []string
	}{
		{"", ',', []string{""}},
		{"", 0, []string{""}},
		{"", 255, []string{""}},
		{",", ',', []string{"", ""}},
		{",,", ',', []string{"", "", ""}},
		{"a", ',', []string{"a"}},
		{",a", ',', []string{"", "a"}},
		{"a,", ',', []string{"a", ""}},
		{"a,b", ',', []string{"a", "b"}},
		{"a,,b", ',', []string{"a", "", "b"}},
		{" a , b ", ',', []string{" a ", " b "}},
		{"one two  three", ' ', []string{"one", "two", "", "three"}},
		{"line\nline\n", '\n', []string{"line", "line", ""}},
		{"a\x00b", 0, []string{"a", "b"}},
		{"a\x80b\xffc", 0x80, []string{"a", "b\xffc"}},
		{"a\x80b\xffc", 0xff, []string{"a\x80b", "c"}},
		{"\u00e9", 0xe9, []string{"\u00e9"}},
		{"\u00e9", 0xa9, []string{"\xc3", ""}},
		{"\u0080", 0x80, []string{"\xc2", ""}},
	}
	for _, c := range cases {
		if got := impl.SplitByte(c.s, c.by); !slices.Equal(got, c.want) {
			t.Errorf("SplitByte(%q, %q) = %q, want %q", c.s, c.by, got, c.want)
		}
	}
}

func TestJoin(t *testing.T) {
	cases := []struct {
		list []string
		by   string
		want string
	}{
		{nil, ",", ""},
		{[]string{}, ",", ""},
		{[]string{""}, ",", ""},
		{[]string{"a"}, ",", "a"},
		{[]string{"a", "b"}, "-", "a-b"},
		{[]string{"a", "b"}, "", "ab"},
		{[]string{"a", "b", "c"}, ", ", "a, b, c"},
		{[]string{"", ""}, ",", ","},
		{[]string{"", "", ""}, "ab", "abab"},
		{[]string{",", "a,b"}, ",", ",,a,b"},
		{[]string{"\xff", "\x00"}, "\x80", "\xff\x80\x00"},
	}
	for _, c := range cases {
		if got := impl.Join(c.list, c.by); got != c.want {
			t.Errorf("Join(%q, %q) = %q, want %q", c.list, c.by, got, c.want)
		}
	}
}

func TestJoinInvertsSplitByte(t *testing.T) {
	var everyByte []byte
	for b := range 256 {
		everyByte = append(everyByte, byte(b), ',', byte(b))
	}
	texts := []string{
		"", ",", "a", "a,b", ",a,,b,", "a\nb\n", "\u00e9\u20ac\U0001f600", "\xff\x80\x80\xff", string(everyByte),
	}
	for _, s := range texts {
		for b := range 256 {
			by := string([]byte{byte(b)})
			parts := impl.SplitByte(s, byte(b))
			if len(parts) != strings.Count(s, by)+1 {
				t.Errorf("SplitByte(%q, %q) has %d elements", s, by, len(parts))
			}
			for _, part := range parts {
				if strings.IndexByte(part, byte(b)) >= 0 {
					t.Errorf("SplitByte(%q, %q) has the element %q", s, by, part)
				}
			}
			if got := impl.Join(parts, by); got != s {
				t.Errorf("Join(SplitByte(%q, %q)) = %q", s, by, got)
			}
		}
	}
}

func TestJoinKeepsItsList(t *testing.T) {
	memory := []string{"a", "b", "unused", "unused"}
	if got := impl.Join(memory[:2], ","); got != "a,b" {
		t.Errorf("Join = %q", got)
	}
	if !slices.Equal(memory, []string{"a", "b", "unused", "unused"}) {
		t.Errorf("Join changed its argument's memory: %q", memory)
	}
}

func TestIntegersAndStringsKeepNoState(t *testing.T) {
	first := impl.SplitByte("a,b", ',')
	first[0] = "changed"
	impl.ParseInt("x")
	impl.ParseNumber("1000000")
	if got := impl.SplitByte("a,b", ','); !slices.Equal(got, []string{"a", "b"}) {
		t.Errorf("SplitByte after a change of its result = %q", got)
	}
	checkParsed(t, "ParseInt", impl.ParseInt, "-12", -12, true)
	checkParsed(t, "ParseNumber", impl.ParseNumber, "12", 12, true)
	checkParsed(t, "ParseInt", impl.ParseInt, "x", 0, false)
}
