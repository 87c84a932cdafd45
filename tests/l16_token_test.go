package tests

import (
	"fmt"
	"math"
	"math/rand/v2"
	"regexp"
	"slices"
	"strings"
	"testing"

	"loop.example/g00506/impl"
)

// Promise 16: tokens round-trip through their text.
// Promise 47: every function is total, pure, and does not modify its arguments.

const maxTokens = 160

var (
	wordForm   = regexp.MustCompile(`\A[a-z0-9]{1,8}\z`)
	tokensForm = regexp.MustCompile(`\A([a-z0-9]+|[;{}]|[ \n])*\z`)
	tokenForm  = regexp.MustCompile(`[a-z0-9]+|[;{}]`)
)

// marksOfTokens are the texts of the kinds from 2 on.
const marksOfTokens = ";{}"

// unusedToken stands where nothing may be written.
var unusedToken = impl.Token{Kind: 99, Text: "unused"}

// wordToken and markToken return tokens; markToken takes the text that a token of its kind has.
func wordToken(s string) impl.Token { return impl.Token{Kind: impl.TokenWord, Text: s} }

func markToken(s string) impl.Token {
	return impl.Token{Kind: 2 + strings.Index(marksOfTokens, s)}
}

// tokensIn returns valid tokens from their texts, which are separated by spaces.
func tokensIn(texts string) []impl.Token {
	var list []impl.Token
	for _, s := range strings.Fields(texts) {
		if strings.Contains(marksOfTokens, s) {
			list = append(list, markToken(s))
		} else {
			list = append(list, wordToken(s))
		}
	}
	return list
}

func expectedText(t impl.Token) string {
	switch {
	case t.Kind == 1 && wordForm.MatchString(t.Text):
		return t.Text
	case t.Kind >= 2 && t.Kind <= 4 && t.Text == "":
		return marksOfTokens[t.Kind-2 : t.Kind-1]
	}
	return ""
}

// expectedTokens matches the text as a whole, which the program reads token by token.
func expectedTokens(s string) ([]impl.Token, bool) {
	texts := tokenForm.FindAllString(s, -1)
	if !tokensForm.MatchString(s) || len(texts) > maxTokens || slices.ContainsFunc(texts, func(s string) bool { return len(s) > 8 }) {
		return nil, false
	}
	return tokensIn(strings.Join(texts, " ")), true
}

// expectedJoined writes a space before every token, and takes the needless ones away again.
func expectedJoined(list []impl.Token) string {
	var texts []string
	for k, t := range list {
		s := " " + expectedText(t)
		if k == 0 || t.Kind == 2 {
			s = s[1:]
		}
		texts = append(texts, s)
	}
	return strings.Join(texts, "")
}

func checkWord(t *testing.T, s string, want bool) {
	t.Helper()
	if got := impl.IsValidWord(s); got != want {
		t.Fatalf("IsValidWord(%q) = %v, want %v", s, got, want)
	}
}

func checkTokenText(t *testing.T, x impl.Token, want string) {
	t.Helper()
	if got := impl.FormatToken(x); got != want {
		t.Fatalf("FormatToken(%+v) = %q, want %q", x, got, want)
	}
}

// checkTokens expects these tokens and true, or none and false.
func checkTokens(t *testing.T, s string, want []impl.Token, accept bool) {
	t.Helper()
	if !accept {
		want = nil
	}
	if got, ok := impl.Tokenize(s); !slices.Equal(got, want) || ok != accept {
		t.Fatalf("Tokenize(%q) = %+v, %v, want %+v, %v", s, got, ok, want, accept)
	}
}

func checkJoined(t *testing.T, list []impl.Token, want string) {
	t.Helper()
	if got := impl.FormatTokens(list); got != want {
		t.Fatalf("FormatTokens(%+v) = %q, want %q", list, got, want)
	}
}

// checkRoundTrip expects valid tokens back from their text.
func checkRoundTrip(t *testing.T, list []impl.Token) {
	t.Helper()
	checkJoined(t, list, expectedJoined(list))
	checkTokens(t, expectedJoined(list), list, true)
	if back, ok := impl.Tokenize(impl.FormatTokens(list)); !ok || !slices.Equal(back, list) {
		t.Fatalf("the text of %+v is that of %+v, %v", list, back, ok)
	}
}

// checkNoText expects that x has no text, and that there is none in its place in a list either.
func checkNoText(t *testing.T, x impl.Token) {
	t.Helper()
	checkTokenText(t, x, "")
	space := " "
	if x.Kind == 2 {
		space = ""
	}
	a, b, semicolon := wordToken("a"), wordToken("b"), markToken(";")
	checkJoined(t, []impl.Token{x}, "")
	checkJoined(t, []impl.Token{x, a}, " a")
	checkJoined(t, []impl.Token{x, semicolon}, ";")
	checkJoined(t, []impl.Token{a, x}, "a"+space)
	checkJoined(t, []impl.Token{semicolon, x}, ";"+space)
	checkJoined(t, []impl.Token{a, x, b}, "a"+space+" b")
	checkJoined(t, []impl.Token{a, x, semicolon, b}, "a"+space+"; b")
	checkJoined(t, []impl.Token{x, x}, space)
	checkJoined(t, []impl.Token{x, x, a, x, x}, space+" a"+space+space)
}

func isWordByte(b int) bool {
	return strings.IndexByte("abcdefghijklmnopqrstuvwxyz0123456789", byte(b)) >= 0
}

func TestTokenConstants(t *testing.T) {
	got := []int{impl.TokenWord, impl.TokenSemicolon, impl.TokenOpenBrace, impl.TokenCloseBrace, impl.MaxTokens}
	if want := []int{1, 2, 3, 4, 160}; !slices.Equal(got, want) {
		t.Errorf("the constants are %v, not %v", got, want)
	}
}

// validWords has words of 1 to 8 bytes: of letters alone, of digits alone, and of both.
func validWords() []string {
	return []string{
		"a", "m", "z", "0", "5", "9", "aa", "00", "a0", "0a", "az", "09", "z9", "9z", "abc", "007", "1a2", "x11", "swap", "1234", "h0h0", "0h0h", "gates", "99999", "a1234", "1234a", "measure", "0000000", "repeat9", "9repeat",
		"abcdefgh", "ijklmnop", "qrstuvwx", "zzzzzzzz", "aaaaaaaa", "01234567", "89898989", "00000000", "99999999", "abcd1234", "1234abcd", "a1b2c3d4", "1a2b3c4d", "a0000000", "0000000a", "zzzzzzz9", "9zzzzzzz", "xyz", "e5", "0x1f", "nil", "true",
		"qubits", "repeat", "adjoint", "control", "ancilla", "if", "x", "y", "h", "s", "sd", "t", "td", "cx", "cz", "ccx",
	}
}

// notWords has texts of no byte, of too many, or with a byte that no word has. None of them is a mark.
func notWords() []string {
	list := []string{
		"", "abcdefghi", "012345678", "a1b2c3d4e", "aaaaaaaaa", "000000000", "abcdefghij", "0123456789", "abcdefghijklmnop", "qubitsqubits",
		strings.Repeat("a", 256), strings.Repeat("a", 257), strings.Repeat("a", 264), strings.Repeat("0", 65536+1), strings.Repeat("x1", 50000),
		"A", "Z", "Q", "Qubits", "qubitS", "quBits", "ABCDEFGH", "aBCDEFGH", "abcdefgH", "Abcdefgh", "0A", "A0",
		" ", "  ", " a", "a ", "a b", "a  b", " abc", "abc ", "abcdefg ", " abcdefg", "abcd efg", "\n", "\na", "a\n", "a\nb", "a\n\n", "abcdefgh\n", "\nabcdefgh", "abcdefgh ", " abcdefgh", "\t", "a\t", "\ta", "a\tb", "a\r", "\ra", "a\r\n", "a\v", "a\f", "\x00", "a\x00", "\x00a", "a\x00b", "a\x7f",
		"a;", ";a", "a;b", "a{", "{a", "a{b", "a}", "}a", "a}b", "{a}", ";;", "{}", "a;b;c;d;",
		"-1", "+1", "1.5", "0.", ".5", "1,000", "1_000", "a_b", "_", "_a", "a_", "a-b", "a,b", "a.b", "a:b", "a/b", "a`b", "`", "a{", "|", "~", "@", "[", "/", ":", "a'", "\"a\"", "(a)", "#", "$a", "%", "&", "*", "=", "<", ">", "?", "!", "^", "\\n",
		"\x80", "\xff", "a\x80", "\x80a", "a\xffb", "\xe1", "a\xe1", "\xb0", "\xe1\xe2\xe3", "\u00e9", "caf\u00e9", "\u00e9t\u00e9", "\u00df", "\u03b1", "\u0430", "\uff41", "\uff11", "\u0661", "\u00b2", "\u00bd", "a\u0301", "\u00a0", "a\u00a0", "\u2028", "\ufeffa", "\ufffd", "\U0001d41a", "\U0001d7cf", "\u0131", "\u017f", "\u212a",
	}
	return list
}

func TestIsValidWord(t *testing.T) {
	for _, s := range validWords() {
		checkWord(t, s, true)
	}
	for _, s := range notWords() {
		checkWord(t, s, false)
	}
	for _, s := range []string{";", "{", "}"} {
		checkWord(t, s, false)
	}
}

func TestAllBytesInWords(t *testing.T) {
	for b := range 256 {
		checkWord(t, string([]byte{byte(b)}), isWordByte(b))
		for c := range 256 {
			checkWord(t, string([]byte{byte(b), byte(c)}), isWordByte(b) && isWordByte(c))
		}
		for _, s := range []string{"aaa", "000", "q1z9", "abcdefg", "1234567", "abcdefgh", "12345678", "a1b2c3d4", "abcdefghi", "123456789"} {
			for i := range len(s) {
				checkWord(t, s[:i]+string([]byte{byte(b)})+s[i+1:], isWordByte(b) && len(s) <= 8)
			}
		}
	}
}

func TestWordsOfAllLengths(t *testing.T) {
	lengths := append(ascending(300), 511, 512, 513, 520, 1024, 4096+1, 65535, 65536, 65537, 65544, 1<<20+1)
	for _, length := range lengths {
		for _, s := range []string{"a", "z", "0", "9", "a0", "3x"} {
			checkWord(t, strings.Repeat(s, length)[:length], length >= 1 && length <= 8)
		}
	}
}

// tokenTexts has valid words, texts that are none, and the marks.
func tokenTexts() []string {
	return append(append(validWords(), notWords()...), ";", "{", "}")
}

func TestFormatToken(t *testing.T) {
	cases := []struct {
		token impl.Token
		text  string
	}{
		{impl.Token{Kind: impl.TokenWord, Text: "a"}, "a"},
		{impl.Token{Kind: impl.TokenWord, Text: "qubits"}, "qubits"},
		{impl.Token{Kind: impl.TokenWord, Text: "abcdefgh"}, "abcdefgh"},
		{impl.Token{Kind: impl.TokenWord, Text: "0"}, "0"},
		{impl.Token{Kind: impl.TokenSemicolon}, ";"},
		{impl.Token{Kind: impl.TokenOpenBrace}, "{"},
		{impl.Token{Kind: impl.TokenCloseBrace}, "}"},
		{impl.Token{}, ""},
		{impl.Token{Text: "a"}, ""},
		{impl.Token{Kind: impl.TokenWord}, ""},
		{impl.Token{Kind: impl.TokenWord, Text: "A"}, ""},
		{impl.Token{Kind: impl.TokenWord, Text: ";"}, ""},
		{impl.Token{Kind: impl.TokenWord, Text: "abcdefghi"}, ""},
		{impl.Token{Kind: impl.TokenSemicolon, Text: ";"}, ""},
		{impl.Token{Kind: impl.TokenSemicolon, Text: "x"}, ""},
		{impl.Token{Kind: impl.TokenOpenBrace, Text: "{"}, ""},
		{impl.Token{Kind: impl.TokenCloseBrace, Text: "}"}, ""},
	}
	for _, c := range cases {
		checkTokenText(t, c.token, c.text)
	}
}

func TestWordsAsTokens(t *testing.T) {
	for _, s := range validWords() {
		checkTokenText(t, wordToken(s), s)
		checkJoined(t, []impl.Token{wordToken(s)}, s)
		checkTokens(t, s, []impl.Token{wordToken(s)}, true)
	}
	for _, s := range append(notWords(), ";", "{", "}") {
		checkNoText(t, wordToken(s))
	}
}

func TestMarksWithAText(t *testing.T) {
	for kind := 2; kind <= 4; kind++ {
		checkTokenText(t, impl.Token{Kind: kind}, marksOfTokens[kind-2:kind-1])
		for _, s := range tokenTexts() {
			if s != "" {
				checkNoText(t, impl.Token{Kind: kind, Text: s})
			}
		}
	}
}

// kindsOfNoToken returns integers of all sizes that are no kind; some of them have a kind as their last bits.
func kindsOfNoToken() []int {
	return []int{
		0, -1, 5, -2, -3, -4, -5, 6, 7, 8, 9, 10, 12, 16, 17, 32, 59, 123, 125, 128, 256, 257, 258, 259, 260, -254, 65536 + 2,
		1 << 32, 1<<32 + 1, 1<<32 + 2, 1<<32 + 4, 2 - 1<<32, 1 << 62, 1<<62 + 1, 1<<62 + 2,
		math.MinInt, math.MinInt + 1, math.MinInt + 2, math.MinInt + 4, math.MaxInt - 2, math.MaxInt - 1, math.MaxInt,
	}
}

func TestKindsOfNoToken(t *testing.T) {
	for _, kind := range kindsOfNoToken() {
		for _, s := range append(validWords(), "", ";", "{", "}", "A", "abcdefghi", " ", "\x00", "\xff") {
			checkNoText(t, impl.Token{Kind: kind, Text: s})
		}
	}
}

func TestTextsOfTokensTakenBack(t *testing.T) {
	for kind := -3; kind <= 8; kind++ {
		for _, s := range tokenTexts() {
			x := impl.Token{Kind: kind, Text: s}
			text := expectedText(x)
			checkTokenText(t, x, text)
			if text != "" {
				checkRoundTrip(t, []impl.Token{x})
			}
		}
	}
}

func TestTokenize(t *testing.T) {
	cases := []struct {
		text   string
		tokens []impl.Token
	}{
		{"", nil},
		{" ", nil},
		{"\n", nil},
		{" \n  \n\n ", nil},
		{strings.Repeat(" ", 1000), nil},
		{strings.Repeat("\n", 1000), nil},
		{"a", []impl.Token{{Kind: impl.TokenWord, Text: "a"}}},
		{"7", []impl.Token{{Kind: impl.TokenWord, Text: "7"}}},
		{"abcdefgh", []impl.Token{{Kind: impl.TokenWord, Text: "abcdefgh"}}},
		{";", []impl.Token{{Kind: impl.TokenSemicolon}}},
		{"{", []impl.Token{{Kind: impl.TokenOpenBrace}}},
		{"}", []impl.Token{{Kind: impl.TokenCloseBrace}}},
		{"a b", []impl.Token{{Kind: impl.TokenWord, Text: "a"}, {Kind: impl.TokenWord, Text: "b"}}},
		{"qubits a b;\nh a; cx a b;", []impl.Token{
			{Kind: impl.TokenWord, Text: "qubits"}, {Kind: impl.TokenWord, Text: "a"}, {Kind: impl.TokenWord, Text: "b"}, {Kind: impl.TokenSemicolon},
			{Kind: impl.TokenWord, Text: "h"}, {Kind: impl.TokenWord, Text: "a"}, {Kind: impl.TokenSemicolon},
			{Kind: impl.TokenWord, Text: "cx"}, {Kind: impl.TokenWord, Text: "a"}, {Kind: impl.TokenWord, Text: "b"}, {Kind: impl.TokenSemicolon},
		}},
		{"repeat 3{x1}", []impl.Token{
			{Kind: impl.TokenWord, Text: "repeat"}, {Kind: impl.TokenWord, Text: "3"}, {Kind: impl.TokenOpenBrace}, {Kind: impl.TokenWord, Text: "x1"}, {Kind: impl.TokenCloseBrace},
		}},
		{"a1;2b", []impl.Token{{Kind: impl.TokenWord, Text: "a1"}, {Kind: impl.TokenSemicolon}, {Kind: impl.TokenWord, Text: "2b"}}},
		{";;{{}}", []impl.Token{{Kind: impl.TokenSemicolon}, {Kind: impl.TokenSemicolon}, {Kind: impl.TokenOpenBrace}, {Kind: impl.TokenOpenBrace}, {Kind: impl.TokenCloseBrace}, {Kind: impl.TokenCloseBrace}}},
		{"} ;\n{", []impl.Token{{Kind: impl.TokenCloseBrace}, {Kind: impl.TokenSemicolon}, {Kind: impl.TokenOpenBrace}}},
	}
	for _, c := range cases {
		checkTokens(t, c.text, c.tokens, true)
	}
}

// TestBlanksBetweenTokens writes the same tokens with all sorts of blanks around them; between two words there is one at least.
func TestBlanksBetweenTokens(t *testing.T) {
	blanks := []string{"", " ", "\n", "  ", "\n\n", " \n", "\n ", "   \n\n \n"}
	for _, texts := range []string{"a", ";", "abcdefgh", "a b", "12345678 abcdefgh", "a ;", "; a", "a { b }", "{ } ;", "; ; ;", "h abcdefgh ; { x1 }", "} a1 { 9 ;"} {
		list := tokensIn(texts)
		for _, first := range blanks {
			for _, between := range blanks {
				for _, last := range blanks {
					checkTokens(t, first+textWithBlanks(list, between)+last, list, true)
				}
			}
		}
	}
}

func textWithBlanks(list []impl.Token, between string) string {
	var text strings.Builder
	for k, x := range list {
		if k > 0 {
			text.WriteString(between)
			if between == "" && x.Kind == 1 && list[k-1].Kind == 1 {
				text.WriteByte(' ')
			}
		}
		text.WriteString(expectedText(x))
	}
	return text.String()
}

// TestWordsInTexts puts words of all lengths at the beginning, in the middle and at the end of a text: a word is as long as it can be.
func TestWordsInTexts(t *testing.T) {
	for length := 1; length <= 20; length++ {
		for _, s := range []string{"a", "0", "a1", "9z"} {
			s = strings.Repeat(s, length)[:length]
			for _, before := range []string{"", " ", "\n", ";", "{", "}", "b ", "b;", "b{", "12345678 ", "b c ; "} {
				for _, after := range []string{"", " ", "\n", ";", "{", "}", " b", ";b", "}b", " abcdefgh", " ; b c"} {
					want, accept := expectedTokens(before + s + after)
					checkTokens(t, before+s+after, want, accept)
					if accept != (length <= 8) {
						t.Fatalf("this test expects %q of %d bytes to be a word or not", s, length)
					}
				}
			}
		}
	}
}

func TestAllShortTokenTexts(t *testing.T) {
	accepted := 0
	check := func(s string) {
		want, accept := expectedTokens(s)
		checkTokens(t, s, want, accept)
		if accept {
			accepted++
			checkJoined(t, want, expectedJoined(want))
		}
	}
	check("")
	for b := range 256 {
		check(string([]byte{byte(b)}))
		for c := range 256 {
			check(string([]byte{byte(b), byte(c)}))
		}
	}
	// The bytes of tokens are 36 of words, three marks and two blanks.
	if want := 1 + 41 + 41*41; accepted != want {
		t.Errorf("%d texts of up to two bytes are accepted, not %d", accepted, want)
	}
	accepted = 0
	bytes := []byte("az09;{} \nA\t\x80")
	for length := range 5 {
		for _, choice := range slicesOf(length, ascending(len(bytes))) {
			var s []byte
			for _, k := range choice {
				s = append(s, bytes[k])
			}
			check(string(s))
		}
	}
	if want := 1 + 9 + 9*9 + 9*9*9 + 9*9*9*9; accepted != want {
		t.Errorf("%d texts of these bytes are accepted, not %d", accepted, want)
	}
}

func TestTokenTextsChangedInOnePlace(t *testing.T) {
	accepted := 0
	for _, s := range []string{"", "a", "abcdefgh", "12345678;", "qubits a b; h a;", "h a;\n{ b1 }\n", "if c{x a;}", "repeat 9 { abcdefgh { ; } }", "{;}", " \n"} {
		for _, changed := range changedTexts(s) {
			want, accept := expectedTokens(changed)
			checkTokens(t, changed, want, accept)
			if accept {
				accepted++
			}
		}
	}
	if accepted < 1000 {
		t.Errorf("only %d texts are accepted", accepted)
	}
}

// TestTextsOfNoTokens puts a part that no text may have at the beginning, in the middle and at the end of texts.
func TestTextsOfNoTokens(t *testing.T) {
	parts := []string{
		"\t", "\r", "\v", "\f", "\x00", "\x7f", "A", "Z", "Qubits", "aB", "-", "_", ".", ",", ":", "(", ")", "[", "]", "@", "`", "|", "~", "/", "\"", "'", "#", "//", "\\", "+", "=",
		"\x80", "\x85", "\xa0", "\xe1", "\xff", "\u00a0", "\u0085", "\u2028", "\u3000", "\u00e9", "\uff41", "\uff11", "\uff1b", "\u037e", "\ufeff", "\ufffd", "\U0001d41a",
		"abcdefghi", "123456789", "a1b2c3d4e", "abcdefghijklmnopq",
	}
	for b := range 256 {
		if s := string([]byte{byte(b)}); !isWordByte(b) && !strings.Contains(" \n;{}", s) {
			parts = append(parts, s)
		}
	}
	for _, part := range parts {
		for _, s := range []string{"%s", "%s ", " %s", "\n%s\n", "%s;", ";%s", "{%s}", "%s a", "a %s", "a %s b", "a; %s b;", "qubits a;\n%s\nh a;", "a\n%s", strings.Repeat("; ", maxTokens-1) + "%s", strings.Repeat("; ", maxTokens) + "%s"} {
			checkTokens(t, fmt.Sprintf(s, part), nil, false)
		}
		checkTokens(t, "a"+part, nil, false)
		checkTokens(t, part+"a", nil, false)
		checkTokens(t, "ab"+part+"cd", nil, false)
	}
}

// TestTextsOfManyTokens: there may be exactly MaxTokens tokens, however they are written.
func TestTextsOfManyTokens(t *testing.T) {
	for _, part := range []string{"a", "9", "abcdefgh", ";", "{", "}", "a ;", "a { b } ;", "x1 12345678", "{ } ;"} {
		tokens := tokensIn(strings.Repeat(part+" ", maxTokens*3))
		for _, length := range append(ascendingFrom(maxTokens-5, 12), 0, 1, 2, 80, 2*maxTokens, 2*maxTokens+1, 256, 257, 3*maxTokens) {
			list := tokens[:min(length, len(tokens))]
			for _, between := range []string{"", " ", "\n", " \n "} {
				for _, around := range []string{"", " ", "\n", strings.Repeat(" ", 300)} {
					checkTokens(t, around+textWithBlanks(list, between)+around, list, len(list) <= maxTokens)
				}
			}
			if len(list) <= maxTokens {
				checkRoundTrip(t, list)
			} else {
				checkJoined(t, list, expectedJoined(list))
				checkTokens(t, expectedJoined(list), nil, false)
			}
		}
	}
}

func TestVeryLongTokenTexts(t *testing.T) {
	const length = 1 << 20
	for _, s := range []string{" ", "\n", " \n"} {
		checkTokens(t, strings.Repeat(s, length), nil, true)
		checkTokens(t, "a"+strings.Repeat(s, length)+";", tokensIn("a ;"), true)
		checkTokens(t, strings.Repeat(s, length)+"A", nil, false)
		checkTokens(t, strings.Repeat(s, length)+"\x00", nil, false)
	}
	for _, s := range []string{"a", "0", "a ", ";", "{", "}", "{}", "a;", "qubits a b;\n", "\x00", "\xff", "A", "\t", "\u20ac", "abcdefgh ", "abcdefghi "} {
		checkTokens(t, strings.Repeat(s, length), nil, false)
	}
}

func TestFormatTokens(t *testing.T) {
	cases := []struct {
		tokens []impl.Token
		text   string
	}{
		{nil, ""},
		{[]impl.Token{}, ""},
		{tokensIn("a"), "a"},
		{tokensIn(";"), ";"},
		{tokensIn("{"), "{"},
		{tokensIn("}"), "}"},
		{tokensIn("a b"), "a b"},
		{tokensIn("a ;"), "a;"},
		{tokensIn("; a"), "; a"},
		{tokensIn("; ;"), ";;"},
		{tokensIn("; ; ; a ; ; b"), ";;; a;; b"},
		{tokensIn("{ }"), "{ }"},
		{tokensIn("{ ; }"), "{; }"},
		{tokensIn("} ; {"), "}; {"},
		{tokensIn("{ { a } }"), "{ { a } }"},
		{tokensIn("qubits a b ; h a ; cx a b ;"), "qubits a b; h a; cx a b;"},
		{tokensIn("qubits a ; h a ; { x1 }"), "qubits a; h a; { x1 }"},
		{tokensIn("repeat 3 { x a ; }"), "repeat 3 { x a; }"},
		// Tokens without a text have their spaces all the same.
		{[]impl.Token{{}}, ""},
		{[]impl.Token{{}, {}}, " "},
		{[]impl.Token{{}, {}, {}}, "  "},
		{[]impl.Token{{}, wordToken("a")}, " a"},
		{[]impl.Token{wordToken("a"), {}}, "a "},
		{[]impl.Token{wordToken("a"), {}, wordToken("b")}, "a  b"},
		{[]impl.Token{wordToken("a"), wordToken(""), markToken(";")}, "a ;"},
		{[]impl.Token{wordToken("A"), markToken(";"), wordToken("abcdefghi"), wordToken("b")}, ";  b"},
		{[]impl.Token{markToken("{"), {Kind: 5}, markToken("}")}, "{  }"},
		{[]impl.Token{wordToken("a"), {Kind: impl.TokenOpenBrace, Text: "{"}, wordToken("b")}, "a  b"},
		// A semicolon has none before it, whatever its Text.
		{[]impl.Token{{Kind: impl.TokenSemicolon, Text: "x"}}, ""},
		{[]impl.Token{{Kind: impl.TokenSemicolon, Text: "x"}, wordToken("a")}, " a"},
		{[]impl.Token{wordToken("a"), {Kind: impl.TokenSemicolon, Text: "x"}}, "a"},
		{[]impl.Token{wordToken("a"), {Kind: impl.TokenSemicolon, Text: ";"}, wordToken("b")}, "a b"},
		{[]impl.Token{wordToken("a"), {Kind: impl.TokenSemicolon, Text: "x"}, {Kind: impl.TokenSemicolon, Text: "y"}, markToken(";")}, "a;"},
		{[]impl.Token{{}, {Kind: impl.TokenSemicolon, Text: "x"}}, ""},
		// The text of a semicolon does not make a token one.
		{[]impl.Token{wordToken("a"), wordToken(";"), wordToken("b")}, "a  b"},
		{[]impl.Token{wordToken("a"), {Kind: 0, Text: ";"}, wordToken("b")}, "a  b"},
	}
	for _, c := range cases {
		checkJoined(t, c.tokens, c.text)
	}
}

// TestTokensInEveryOrder: the text of valid tokens is that of no others.
func TestTokensInEveryOrder(t *testing.T) {
	tokens := tokensIn("a 12345678 ; { }")
	texts := map[string]bool{}
	count := 0
	for length := range 7 {
		for _, choice := range slicesOf(length, ascending(len(tokens))) {
			var list []impl.Token
			for _, k := range choice {
				list = append(list, tokens[k])
			}
			checkRoundTrip(t, list)
			texts[impl.FormatTokens(list)] = true
			count++
		}
	}
	if len(texts) != count {
		t.Errorf("%d lists have %d texts", count, len(texts))
	}
}

func TestAllKindsOfTokensInEveryOrder(t *testing.T) {
	tokens := append(tokensIn("a 12345678 ; { }"),
		impl.Token{}, wordToken(""), wordToken("A"), wordToken("abcdefghi"), impl.Token{Kind: 2, Text: ";"}, impl.Token{Kind: 3, Text: "x"}, impl.Token{Kind: 4, Text: " "}, impl.Token{Kind: 5}, impl.Token{Kind: -1, Text: "a"})
	for length := range 5 {
		for _, choice := range slicesOf(length, ascending(len(tokens))) {
			var list []impl.Token
			for _, k := range choice {
				list = append(list, tokens[k])
			}
			checkJoined(t, list, expectedJoined(list))
		}
	}
}

// TestFaultsInLongTokenLists puts a token without a text in some places of a list.
func TestFaultsInLongTokenLists(t *testing.T) {
	list := tokensIn(strings.Repeat("a { 1 } ; ", maxTokens/5))
	for _, k := range []int{0, 1, 2, 3, 4, 5, 80, maxTokens - 2, maxTokens - 1} {
		for _, x := range []impl.Token{{}, wordToken(""), wordToken("A"), wordToken("abcdefghi"), {Kind: 2, Text: "x"}, {Kind: 2, Text: ";"}, {Kind: 3, Text: "{"}, {Kind: 4, Text: "}"}, {Kind: 5}, {Kind: math.MinInt}, {Kind: math.MaxInt, Text: "a"}} {
			changed := slices.Clone(list)
			changed[k] = x
			checkJoined(t, changed, expectedJoined(changed))
			// What is left are the other tokens.
			checkTokens(t, impl.FormatTokens(changed), slices.Delete(slices.Clone(list), k, k+1), true)
		}
	}
}

// TestLongTokenLists: lists of more than MaxTokens tokens have a text too.
func TestLongTokenLists(t *testing.T) {
	for _, length := range []int{maxTokens, maxTokens + 1, maxTokens + 2, 2 * maxTokens, 1000, 100000} {
		checkJoined(t, slices.Repeat(tokensIn("a"), length), strings.Repeat("a ", length)[:2*length-1])
		checkJoined(t, slices.Repeat(tokensIn(";"), length), strings.Repeat(";", length))
		checkJoined(t, slices.Repeat(tokensIn("x ;"), length), strings.Repeat("x; ", length)[:3*length-1])
		checkJoined(t, make([]impl.Token, length), strings.Repeat(" ", length-1))
		checkJoined(t, slices.Repeat([]impl.Token{{Kind: 2, Text: "x"}}, length), "")
	}
}

func TestVariedTokensRoundTrip(t *testing.T) {
	source := rand.New(rand.NewPCG(16, 16))
	const letters = "abcdefghijklmnopqrstuvwxyz0123456789"
	for range 2000 {
		var list []impl.Token
		for range source.IntN(maxTokens + 1) {
			if kind := 1 + source.IntN(4); kind > 1 {
				list = append(list, impl.Token{Kind: kind})
				continue
			}
			s := make([]byte, 1+source.IntN(8))
			for i := range s {
				s[i] = letters[source.IntN(len(letters))]
			}
			list = append(list, wordToken(string(s)))
		}
		checkRoundTrip(t, list)
	}
}

// tokenLists has lists of all lengths, some with tokens that are not valid.
func tokenLists() [][]impl.Token {
	list := [][]impl.Token{{}, {{}}, {wordToken("A"), markToken(";")}, {markToken(";"), {Kind: 2, Text: "x"}, wordToken("abcdefghi")}, make([]impl.Token, maxTokens+1)}
	for _, texts := range []string{"a", ";", "abcdefgh ;", "a { b ; } ;", "qubits a b ; h a ; cx a b ;"} {
		list = append(list, tokensIn(texts), tokensIn(strings.Repeat(texts+" ", 20)))
	}
	return append(list, slices.Repeat(tokensIn("x"), maxTokens), slices.Repeat(tokensIn("x"), maxTokens+1))
}

func firstTokens(list []impl.Token, _ bool) []impl.Token { return list }

// TestTokensShareNoMemory overwrites each argument and each result: nothing else may change with it.
func TestTokensShareNoMemory(t *testing.T) {
	for _, before := range tokenLists() {
		list := withMarks(before, unusedToken)
		want := expectedJoined(before)
		text := impl.FormatTokens(list)
		checkMarks(t, "FormatTokens", list, before, unusedToken)
		for _, x := range list {
			checkTokenText(t, x, expectedText(x))
		}
		checkMarks(t, "FormatToken", list, before, unusedToken)
		checkFresh(t, "Tokenize", unusedToken, func() []impl.Token { return firstTokens(impl.Tokenize(text)) })
		fillWith(list, unusedToken)
		if text != want {
			t.Fatalf("the text of %+v becomes %q", before, text)
		}
	}
}

// TestTokensGrowApart: what is appended to one result is not seen in another.
func TestTokensGrowApart(t *testing.T) {
	for _, list := range tokenLists() {
		want, accept := expectedTokens(expectedJoined(list))
		if !accept {
			continue
		}
		first, _ := impl.Tokenize(expectedJoined(list))
		second, _ := impl.Tokenize(expectedJoined(list))
		long := append(first, wordToken("first"))
		other := append(second, wordToken("second"))
		if long[len(long)-1] != wordToken("first") || other[len(other)-1] != wordToken("second") || !slices.Equal(first, want) || !slices.Equal(second, want) {
			t.Fatalf("two lists of the tokens %+v share their memory", want)
		}
	}
}

// TestFormattingPartsOfOneArray: the lists may lie next to each other, or overlap.
func TestFormattingPartsOfOneArray(t *testing.T) {
	before := append(tokensIn("a b ; { c ; } ; ;"), impl.Token{}, impl.Token{Kind: 2, Text: "x"}, wordToken("d"))
	array := withMarks(before, unusedToken)
	for from := range len(before) + 1 {
		for to := from; to <= len(before); to++ {
			checkJoined(t, array[from:to], expectedJoined(before[from:to]))
		}
	}
	checkMarks(t, "FormatTokens", array, before, unusedToken)
}

// TestTokensInAnyOrder expects the same results of every call, whatever was asked in between.
func TestTokensInAnyOrder(t *testing.T) {
	for range 3 {
		checkTokens(t, "a;{b}", tokensIn("a ; { b }"), true)
		checkTokens(t, "a;{B}", nil, false)
		checkTokens(t, "", nil, true)
		checkTokens(t, strings.Repeat("a ", maxTokens+1), nil, false)
		checkTokens(t, ";", tokensIn(";"), true)
		checkJoined(t, tokensIn("a ; b"), "a; b")
		checkJoined(t, []impl.Token{{}, wordToken("a")}, " a")
		checkJoined(t, nil, "")
		checkTokenText(t, wordToken("a"), "a")
		checkTokenText(t, wordToken("A"), "")
		checkTokenText(t, markToken(";"), ";")
		checkWord(t, "abcdefgh", true)
		checkWord(t, "abcdefghi", false)
	}
}
