package tests

import (
	"fmt"
	"math"
	"math/rand/v2"
	"slices"
	"strings"
	"testing"

	"loop.example/g00506/impl"
)

// Promise 17: a valid tree uses only the fields of its kinds.
// Promise 47: every function is total, pure, and does not modify its arguments.

const (
	maxNesting = 4
	maxRepeat  = 9
)

// unusedStmt stands where nothing may be written.
var unusedStmt = impl.Stmt{Kind: 99, Word: "unused", Args: []string{"unused"}, Count: 99, Body: []impl.Stmt{{Kind: 98}}}

// gateStmt, repeatStmt, namedStmt and the like return statements; their Args are the words of a text.
func gateStmt(text string) impl.Stmt {
	words := strings.Fields(text)
	return impl.Stmt{Kind: impl.StmtGate, Word: words[0], Args: words[1:]}
}

func measureStmt(args string) impl.Stmt {
	return impl.Stmt{Kind: impl.StmtMeasure, Args: strings.Fields(args)}
}

func repeatStmt(count int, body ...impl.Stmt) impl.Stmt {
	return impl.Stmt{Kind: impl.StmtRepeat, Count: count, Body: body}
}

func adjointStmt(body ...impl.Stmt) impl.Stmt {
	return impl.Stmt{Kind: impl.StmtAdjoint, Body: body}
}

// namedStmt returns a StmtControl, a StmtAncilla or a StmtIf.
func namedStmt(kind int, name string, body ...impl.Stmt) impl.Stmt {
	return impl.Stmt{Kind: kind, Args: []string{name}, Body: body}
}

// kindsWithBody returns the kinds that may have a Body, kindsWithNone the others.
func kindsWithBody() []int {
	return []int{impl.StmtRepeat, impl.StmtAdjoint, impl.StmtControl, impl.StmtAncilla, impl.StmtIf}
}

func kindsWithNone() []int { return []int{impl.StmtGate, impl.StmtMeasure} }

// aroundBody returns a valid statement of this kind that has this Body.
func aroundBody(kind int, body ...impl.Stmt) impl.Stmt {
	switch kind {
	case impl.StmtRepeat:
		return repeatStmt(2, body...)
	case impl.StmtAdjoint:
		return adjointStmt(body...)
	}
	return namedStmt(kind, "a", body...)
}

// nested returns a statement of the first kind, in its Body one of the second kind, and so on; body is the Body of the last.
func nested(kinds []int, body ...impl.Stmt) impl.Stmt {
	for _, kind := range slices.Backward(kinds) {
		body = []impl.Stmt{aroundBody(kind, body...)}
	}
	return body[0]
}

// kindsOfNoStmt returns integers of all sizes that are no kind; some of them have a kind as their last bits.
func kindsOfNoStmt() []int {
	return []int{
		0, -1, 8, -2, -7, -8, 9, 10, 15, 16, 17, 32, 64, 65, 66, 128, 256, 257, 258, 263, -255, 65536 + 2,
		1 << 32, 1<<32 + 1, 1<<32 + 2, 1<<32 + 7, 2 - 1<<32, 1 << 62, 1<<62 + 3,
		math.MinInt, math.MinInt + 1, math.MinInt + 2, math.MinInt + 7, math.MaxInt - 1, math.MaxInt,
	}
}

// fieldsOfKind says of a kind which fields may be other than zero: Word, how many Args, Count, and Body.
type fieldsOfKind struct {
	word  bool
	args  int
	count bool
	body  bool
}

// fieldsOfKinds returns what the chapter states; the Args of a gate follow from its Word.
func fieldsOfKinds() map[int]fieldsOfKind {
	return map[int]fieldsOfKind{
		impl.StmtGate:    {true, 0, false, false},
		impl.StmtRepeat:  {false, 0, true, true},
		impl.StmtAdjoint: {false, 0, false, true},
		impl.StmtControl: {false, 1, false, true},
		impl.StmtAncilla: {false, 1, false, true},
		impl.StmtMeasure: {false, 2, false, false},
		impl.StmtIf:      {false, 1, false, true},
	}
}

func areWords(list []string) bool {
	return !slices.ContainsFunc(list, func(s string) bool { return !wordForm.MatchString(s) })
}

func expectedValidStmt(s impl.Stmt) bool {
	fields, ok := fieldsOfKinds()[s.Kind]
	args := fields.args
	if fields.word {
		kind := gateKinds()[expectedKindOf(s.Word)]
		ok, args = kind.arity > 0, kind.arity
	}
	rightWord := fields.word || s.Word == ""
	rightCount := s.Count == 0
	if fields.count {
		rightCount = s.Count >= 1 && s.Count <= maxRepeat
	}
	rightBody := fields.body || len(s.Body) == 0
	return ok && rightWord && rightCount && rightBody && len(s.Args) == args && areWords(s.Args) && expectedValidStmts(s.Body)
}

func expectedValidStmts(list []impl.Stmt) bool {
	return !slices.ContainsFunc(list, func(s impl.Stmt) bool { return !expectedValidStmt(s) })
}

func expectedDepth(list []impl.Stmt) int {
	depths := []int{0}
	for _, s := range list {
		if fieldsOfKinds()[s.Kind].body {
			depths = append(depths, 1+expectedDepth(s.Body))
		}
	}
	return slices.Max(depths)
}

func expectedTokenCount(list []impl.Stmt) int {
	count := 0
	for _, s := range list {
		count += 2 + len(s.Args)
		if s.Kind == impl.StmtRepeat {
			count++
		}
		if fieldsOfKinds()[s.Kind].body {
			count += 1 + expectedTokenCount(s.Body)
		}
	}
	return count
}

func expectedValidProgram(p impl.Program) bool {
	n := len(p.Qubits)
	return n >= 1 && n <= 4 && areWords(p.Qubits) && expectedValidStmts(p.Body) && expectedDepth(p.Body) <= maxNesting && expectedTokenCount(p.Body)+n+2 <= maxTokens
}

// textOfStmts writes valid statements as they stand in a program.
func textOfStmts(list []impl.Stmt) string {
	keywords := map[int]string{impl.StmtRepeat: "repeat", impl.StmtAdjoint: "adjoint", impl.StmtControl: "control", impl.StmtAncilla: "ancilla", impl.StmtMeasure: "measure", impl.StmtIf: "if"}
	var text strings.Builder
	for _, s := range list {
		text.WriteString(s.Word + keywords[s.Kind])
		if s.Count > 0 {
			fmt.Fprint(&text, " ", s.Count)
		}
		for _, arg := range s.Args {
			text.WriteString(" " + arg)
		}
		if fieldsOfKinds()[s.Kind].body {
			text.WriteString(" { " + textOfStmts(s.Body) + " } ")
		} else {
			text.WriteString(" ; ")
		}
	}
	return text.String()
}

// formOf writes all fields of statements, so that equal statements alone have the same form; nil and empty slices do too.
func formOf(list []impl.Stmt) string {
	var form strings.Builder
	for _, s := range list {
		fmt.Fprintf(&form, "(%d %q %q %d %s)", s.Kind, s.Word, s.Args, s.Count, formOf(s.Body))
	}
	return form.String()
}

func formOfProgram(p impl.Program) string { return fmt.Sprintf("%q %s", p.Qubits, formOf(p.Body)) }

func cloneStmts(list []impl.Stmt) []impl.Stmt {
	var clones []impl.Stmt
	for _, s := range list {
		s.Args, s.Body = slices.Clone(s.Args), cloneStmts(s.Body)
		clones = append(clones, s)
	}
	return clones
}

func cloneProgram(p impl.Program) impl.Program {
	return impl.Program{Qubits: slices.Clone(p.Qubits), Body: cloneStmts(p.Body)}
}

// programOf returns a program on the qubits of a text.
func programOf(qubits string, body ...impl.Stmt) impl.Program {
	return impl.Program{Qubits: strings.Fields(qubits), Body: body}
}

func checkValidStmt(t *testing.T, s impl.Stmt, want bool) {
	t.Helper()
	if got := impl.IsValidStmt(s); got != want {
		t.Fatalf("IsValidStmt(%+v) = %v, want %v", s, got, want)
	}
}

func checkDepth(t *testing.T, list []impl.Stmt, want int) {
	t.Helper()
	if got := impl.NestingDepth(list); got != want {
		t.Fatalf("NestingDepth(%+v) = %d, want %d", list, got, want)
	}
}

func checkTokenCount(t *testing.T, list []impl.Stmt, want int) {
	t.Helper()
	if got := impl.StmtTokenCount(list); got != want {
		t.Fatalf("StmtTokenCount(%+v) = %d, want %d", list, got, want)
	}
}

func checkValidProgram(t *testing.T, p impl.Program, want bool) {
	t.Helper()
	if got := impl.IsValidProgram(p); got != want {
		t.Fatalf("IsValidProgram(%+v) = %v, want %v", p, got, want)
	}
}

// checkEqualStmts compares in both orders, as lists and as the bodies of programs.
func checkEqualStmts(t *testing.T, a, b []impl.Stmt, want bool) {
	t.Helper()
	if got := impl.EqualStmts(a, b); got != want {
		t.Fatalf("EqualStmts(%+v, %+v) = %v, want %v", a, b, got, want)
	}
	if got := impl.EqualStmts(b, a); got != want {
		t.Fatalf("EqualStmts(%+v, %+v) = %v, want %v", b, a, got, want)
	}
	p, q := programOf("a b", a...), programOf("a b", b...)
	checkEqualProgram(t, p, q, want)
}

func checkEqualProgram(t *testing.T, p, q impl.Program, want bool) {
	t.Helper()
	if got := impl.EqualProgram(p, q); got != want {
		t.Fatalf("EqualProgram(%+v, %+v) = %v, want %v", p, q, got, want)
	}
	if got := impl.EqualProgram(q, p); got != want {
		t.Fatalf("EqualProgram(%+v, %+v) = %v, want %v", q, p, got, want)
	}
}

// checkTree expects of a list of statements what the chapter states, whatever it holds.
func checkTree(t *testing.T, list []impl.Stmt) {
	t.Helper()
	for _, s := range list {
		checkValidStmt(t, s, expectedValidStmt(s))
	}
	checkDepth(t, list, expectedDepth(list))
	checkTokenCount(t, list, expectedTokenCount(list))
	p := programOf("a", list...)
	checkValidProgram(t, p, expectedValidProgram(p))
	checkEqualStmts(t, list, cloneStmts(list), true)
}

// checkWritten expects as many tokens as the text of valid statements has.
func checkWritten(t *testing.T, list []impl.Stmt) {
	t.Helper()
	text := textOfStmts(list)
	checkTokenCount(t, list, len(tokenForm.FindAllString(text, -1)))
	if tokens, ok := impl.Tokenize(text); ok {
		checkTokenCount(t, list, len(tokens))
	}
}

func TestTreeConstants(t *testing.T) {
	got := []int{impl.StmtGate, impl.StmtRepeat, impl.StmtAdjoint, impl.StmtControl, impl.StmtAncilla, impl.StmtMeasure, impl.StmtIf, impl.MaxNesting, impl.MaxRepeat}
	if want := []int{1, 2, 3, 4, 5, 6, 7, 4, 9}; !slices.Equal(got, want) {
		t.Errorf("the constants are %v, not %v", got, want)
	}
}

// validStmts has statements of every kind, with and without statements in them.
func validStmts() []impl.Stmt {
	h, cx, ccx, measure := gateStmt("h a"), gateStmt("cx a b"), gateStmt("ccx a b c"), measureStmt("a r")
	list := []impl.Stmt{
		h, cx, ccx, measure, gateStmt("x 0"), gateStmt("td abcdefgh"), gateStmt("swap q1 q1"), gateStmt("cz x cz"), measureStmt("a a"), measureStmt("measure 12345678"),
		repeatStmt(1), repeatStmt(9), repeatStmt(1, h), repeatStmt(9, h, cx, ccx, measure), repeatStmt(5, repeatStmt(5)), adjointStmt(), adjointStmt(h), adjointStmt(measure, measure),
	}
	for _, kind := range []int{impl.StmtControl, impl.StmtAncilla, impl.StmtIf} {
		list = append(list, namedStmt(kind, "a"), namedStmt(kind, "abcdefgh", h), namedStmt(kind, "0", measure, cx), namedStmt(kind, "if", namedStmt(kind, "if")))
	}
	for _, kind := range kindsWithBody() {
		list = append(list, aroundBody(kind, list[:18]...), nested([]int{kind, kind, kind}, h), nested([]int{kind, 2, 3, 4, 5, 7}, cx, adjointStmt(), h))
	}
	return list
}

// invalidStmts has statements each of which has one fault, at its top or deeper.
func invalidStmts() []impl.Stmt {
	h := gateStmt("h a")
	list := []impl.Stmt{
		{}, {Word: "h", Args: []string{"a"}}, {Args: []string{"a"}}, {Count: 1}, {Body: []impl.Stmt{h}}, {Kind: -1}, {Kind: 8}, {Kind: math.MinInt}, {Kind: math.MaxInt},
		{Kind: impl.StmtGate}, {Kind: impl.StmtGate, Word: "h"}, {Kind: impl.StmtGate, Args: []string{"a"}}, {Kind: impl.StmtGate, Word: "h", Args: []string{"a"}, Count: 1}, {Kind: impl.StmtGate, Word: "h", Args: []string{"a"}, Body: []impl.Stmt{h}},
		gateStmt("h a b"), gateStmt("cx a"), gateStmt("cx a b c"), gateStmt("ccx a b"), gateStmt("ccx a b c d"), gateStmt("hm a"), gateStmt("H a"), gateStmt("h A"), gateStmt("cx abcdefghi b"), gateStmt("repeat a"), gateStmt("measure a r"),
		measureStmt(""), measureStmt("a"), measureStmt("a r s"), measureStmt("a R"), measureStmt("A r"), {Kind: impl.StmtMeasure, Word: "measure", Args: []string{"a", "r"}}, {Kind: impl.StmtMeasure, Args: []string{"a", "r"}, Count: 1}, {Kind: impl.StmtMeasure, Args: []string{"a", "r"}, Body: []impl.Stmt{h}},
		repeatStmt(0), repeatStmt(10), repeatStmt(-1), repeatStmt(0, h), repeatStmt(math.MaxInt, h), repeatStmt(math.MinInt), {Kind: impl.StmtRepeat, Word: "h", Count: 2}, {Kind: impl.StmtRepeat, Args: []string{"a"}, Count: 2},
		{Kind: impl.StmtAdjoint, Word: "h"}, {Kind: impl.StmtAdjoint, Args: []string{"a"}}, {Kind: impl.StmtAdjoint, Count: 1},
	}
	for _, kind := range []int{impl.StmtControl, impl.StmtAncilla, impl.StmtIf} {
		list = append(list, impl.Stmt{Kind: kind}, impl.Stmt{Kind: kind, Args: []string{"a", "b"}}, impl.Stmt{Kind: kind, Word: "x", Args: []string{"a"}}, impl.Stmt{Kind: kind, Args: []string{"a"}, Count: 1}, namedStmt(kind, ""), namedStmt(kind, "A"), namedStmt(kind, "abcdefghi"))
	}
	for _, kind := range kindsWithBody() {
		list = append(list, aroundBody(kind, impl.Stmt{}), aroundBody(kind, h, gateStmt("H a")), aroundBody(kind, repeatStmt(0), h), nested([]int{kind, 2, 3, 4, 5, 7}, h, measureStmt("a"), h))
	}
	return list
}

func TestIsValidStmt(t *testing.T) {
	for _, s := range validStmts() {
		checkValidStmt(t, s, true)
		checkTree(t, []impl.Stmt{s})
		checkWritten(t, []impl.Stmt{s})
	}
	for _, s := range invalidStmts() {
		checkValidStmt(t, s, false)
		checkTree(t, []impl.Stmt{s})
	}
}

// TestGateStatements takes every gate with as many Args as its arity, and with fewer and more.
func TestGateStatements(t *testing.T) {
	words := strings.Fields("a b c d e f")
	for _, kind := range gateKinds()[1:] {
		for length := range len(words) + 1 {
			s := impl.Stmt{Kind: impl.StmtGate, Word: kind.name, Args: words[:length]}
			checkValidStmt(t, s, length == kind.arity)
			checkTokenCount(t, []impl.Stmt{s}, 2+length)
		}
		for _, word := range changedTexts(kind.name) {
			for length := 1; length <= 3; length++ {
				checkValidStmt(t, impl.Stmt{Kind: impl.StmtGate, Word: word, Args: words[:length]}, gateKinds()[expectedKindOf(word)].arity == length)
			}
		}
		for _, word := range []string{strings.ToUpper(kind.name), " " + kind.name, kind.name + " ", kind.name + " a", kind.name + ";", kind.name + "\n", kind.name + kind.name} {
			checkValidStmt(t, impl.Stmt{Kind: impl.StmtGate, Word: word, Args: words[:kind.arity]}, false)
		}
	}
	for _, word := range []string{"", "a", "q", "i", "tdg", "sdg", "cnot", "qubits", "repeat", "adjoint", "control", "ancilla", "measure", "if", "1", "4", "?", "\x00"} {
		for length := range len(words) + 1 {
			checkValidStmt(t, impl.Stmt{Kind: impl.StmtGate, Word: word, Args: words[:length]}, false)
		}
	}
}

func TestCountsOfRepeats(t *testing.T) {
	counts := append(ascendingFrom(-20, 60), 64, 65, 127, 128, 255, 256, 257, 265, -255, -256, 65536+1, 1<<32, 1<<32+1, 1<<32+9, 1-1<<32, 1<<62+1, math.MinInt, math.MinInt+1, math.MinInt+9, math.MaxInt-1, math.MaxInt)
	for _, count := range counts {
		for _, body := range [][]impl.Stmt{nil, {}, {gateStmt("h a")}, {repeatStmt(1), repeatStmt(9)}} {
			s := repeatStmt(count, body...)
			checkValidStmt(t, s, count >= 1 && count <= 9)
			checkValidStmt(t, adjointStmt(s), count >= 1 && count <= 9)
			checkTree(t, []impl.Stmt{s})
		}
		for kind := range fieldsOfKinds() {
			if kind != impl.StmtRepeat {
				for _, s := range validStmts() {
					if s.Kind == kind {
						s.Count = count
						checkValidStmt(t, s, count == 0)
					}
				}
			}
		}
	}
}

// TestWordsAsArgs puts words of all sorts at each place of Args: of all bytes, of all lengths, and none.
func TestWordsAsArgs(t *testing.T) {
	stmts := []impl.Stmt{gateStmt("h a"), gateStmt("swap a b"), gateStmt("ccx a b c"), measureStmt("a r"), namedStmt(impl.StmtControl, "a"), namedStmt(impl.StmtAncilla, "a", gateStmt("h a")), namedStmt(impl.StmtIf, "a")}
	for _, s := range stmts {
		for k := range s.Args {
			check := func(word string) {
				changed := cloneStmts([]impl.Stmt{s})[0]
				changed.Args[k] = word
				checkValidStmt(t, changed, wordForm.MatchString(word))
				checkValidStmt(t, repeatStmt(3, s, changed), wordForm.MatchString(word))
			}
			for _, word := range tokenTexts() {
				check(word)
			}
			for b := range 256 {
				for _, word := range []string{"", "a", "abcdefg", "abcdefgh"} {
					check(word + string([]byte{byte(b)}))
					check(string([]byte{byte(b)}) + word)
				}
			}
		}
	}
}

// TestFieldsTogether combines all fields, of which each kind uses its own alone.
func TestFieldsTogether(t *testing.T) {
	h := gateStmt("h a")
	kinds := append([]int{1, 2, 3, 4, 5, 6, 7}, kindsOfNoStmt()...)
	args := [][]string{nil, {}, {"a"}, {"a", "b"}, {"a", "b", "c"}, {"a", "b", "c", "d"}, {""}, {"A"}, {"a", ""}, {"", "a"}, {"a", "abcdefghi", "c"}}
	bodies := [][]impl.Stmt{nil, {}, {h}, {h, adjointStmt(h)}, {{}}, {h, {Kind: 8}, h}, {gateStmt("H a")}, {repeatStmt(2, h, repeatStmt(0))}}
	valid := 0
	for _, kind := range kinds {
		for _, word := range []string{"", "h", "cx", "ccx", "H", "hm", "if", "a", "\x00"} {
			for _, list := range args {
				for _, count := range []int{0, 1, 9, 10, -1, math.MinInt, math.MaxInt} {
					for _, body := range bodies {
						s := impl.Stmt{Kind: kind, Word: word, Args: list, Count: count, Body: body}
						want := expectedValidStmt(s)
						checkValidStmt(t, s, want)
						checkTokenCount(t, []impl.Stmt{s}, expectedTokenCount([]impl.Stmt{s}))
						checkDepth(t, []impl.Stmt{s}, expectedDepth([]impl.Stmt{s}))
						if want {
							valid++
						}
					}
				}
			}
		}
	}
	// Gates have a Word with its Args and no Body, written as nil or as empty; four bodies are valid.
	want := 3*2 + 2*4*2 + 2*4 + 3*4 + 2
	if valid != want {
		t.Errorf("%d statements are valid, not %d", valid, want)
	}
}

// TestFaultsAtEveryPlace puts an invalid statement at the first, a middle and the last place of a Body, at any depth.
func TestFaultsAtEveryPlace(t *testing.T) {
	h := gateStmt("h a")
	for _, fault := range invalidStmts() {
		for _, kind := range kindsWithBody() {
			for length := 1; length <= 3; length++ {
				for k := range length {
					body := slices.Repeat([]impl.Stmt{h, nested([]int{kind}, h)}, length)[:length]
					checkValidStmt(t, aroundBody(kind, body...), true)
					body[k] = fault
					s := aroundBody(kind, body...)
					checkValidStmt(t, s, false)
					for _, depth := range []int{1, 2, 3, 4, 10} {
						around := slices.Repeat([]int{kind, impl.StmtAdjoint}, depth)
						checkValidStmt(t, nested(around, s), false)
						checkValidStmt(t, nested(around, h, s, h), false)
						checkValidStmt(t, nested(around, s, aroundBody(kind)), false)
						checkValidStmt(t, nested(around, aroundBody(kind, h), h, s), false)
					}
				}
			}
		}
	}
}

// TestBodiesOfKindsWithNone: a gate or a measurement with a Body is not valid, and the Body does not count.
func TestBodiesOfKindsWithNone(t *testing.T) {
	stmts := []impl.Stmt{gateStmt("h a"), gateStmt("ccx a b c"), measureStmt("a r"), {}, {Kind: -1}, {Kind: 8}, {Kind: math.MinInt}, {Kind: math.MaxInt}}
	for _, s := range stmts {
		valid := slices.Contains(kindsWithNone(), s.Kind)
		s.Body = []impl.Stmt{}
		checkValidStmt(t, s, valid)
		for depth := range 7 {
			s.Body = []impl.Stmt{gateStmt("cx a b"), nested(slices.Repeat([]int{2, 4}, depth+1)[:depth+1], gateStmt("h a"))}
			checkValidStmt(t, s, false)
			checkDepth(t, []impl.Stmt{s}, 0)
			checkTokenCount(t, []impl.Stmt{s}, 2+len(s.Args))
			checkDepth(t, []impl.Stmt{s, adjointStmt(), s}, 1)
			checkTokenCount(t, []impl.Stmt{s, adjointStmt(), s}, 2*(2+len(s.Args))+3)
			for _, kind := range kindsWithBody() {
				checkDepth(t, []impl.Stmt{aroundBody(kind, s)}, 1)
				checkDepth(t, []impl.Stmt{nested([]int{kind, kind, kind}, s, s)}, 3)
				checkTree(t, []impl.Stmt{s, nested([]int{kind, kind}, s, aroundBody(kind), s)})
			}
		}
	}
}

func TestNestingDepth(t *testing.T) {
	h := gateStmt("h a")
	cases := []struct {
		list  []impl.Stmt
		depth int
	}{
		{nil, 0},
		{[]impl.Stmt{}, 0},
		{[]impl.Stmt{h}, 0},
		{[]impl.Stmt{h, measureStmt("a r"), h}, 0},
		{[]impl.Stmt{{}, {Kind: 8}, {Kind: -1}}, 0},
		{[]impl.Stmt{adjointStmt()}, 1},
		{[]impl.Stmt{adjointStmt(h)}, 1},
		{[]impl.Stmt{adjointStmt(), adjointStmt(), adjointStmt()}, 1},
		{[]impl.Stmt{repeatStmt(0)}, 1},
		{[]impl.Stmt{repeatStmt(9, h, h, h)}, 1},
		{[]impl.Stmt{{Kind: impl.StmtControl}}, 1},
		{[]impl.Stmt{{Kind: impl.StmtIf, Word: "x", Args: []string{"A", "B"}, Count: -1}}, 1},
		{[]impl.Stmt{h, repeatStmt(2, adjointStmt())}, 2},
		{[]impl.Stmt{repeatStmt(2, adjointStmt(), adjointStmt()), h, adjointStmt()}, 2},
		{[]impl.Stmt{repeatStmt(2, h, adjointStmt(namedStmt(impl.StmtIf, "r")), h)}, 3},
		{[]impl.Stmt{nested([]int{2, 3, 4, 5}, h)}, 4},
		{[]impl.Stmt{nested([]int{2, 3, 4, 5, 7}, h)}, 5},
	}
	for _, c := range cases {
		checkDepth(t, c.list, c.depth)
		checkDepth(t, append(slices.Clone(c.list), h), c.depth)
		checkDepth(t, append([]impl.Stmt{h}, c.list...), c.depth)
		checkDepth(t, []impl.Stmt{adjointStmt(c.list...)}, c.depth+1)
	}
}

// TestDeepestAtEveryPlace has the deepest statement first, in the middle or last, in the list and in a Body.
func TestDeepestAtEveryPlace(t *testing.T) {
	for _, kind := range kindsWithBody() {
		for depth := 1; depth <= 8; depth++ {
			for length := 1; length <= 5; length++ {
				for k := range length {
					var list []impl.Stmt
					for i := range length {
						list = append(list, nested(slices.Repeat([]int{kind}, 1+(i+depth)%depth), gateStmt("h a")))
					}
					list[k] = nested(slices.Repeat([]int{kind}, depth+1), gateStmt("h a"))
					checkDepth(t, list, depth+1)
					checkDepth(t, []impl.Stmt{aroundBody(kind), aroundBody(kind, list...), aroundBody(kind)}, depth+2)
					checkWritten(t, list)
				}
			}
		}
	}
}

func TestStmtTokenCount(t *testing.T) {
	h := gateStmt("h a")
	cases := []struct {
		list  []impl.Stmt
		count int
	}{
		{nil, 0},
		{[]impl.Stmt{}, 0},
		{[]impl.Stmt{h}, 3},
		{[]impl.Stmt{gateStmt("cx a b")}, 4},
		{[]impl.Stmt{gateStmt("ccx a b c")}, 5},
		{[]impl.Stmt{measureStmt("a r")}, 4},
		{[]impl.Stmt{repeatStmt(3)}, 4},
		{[]impl.Stmt{adjointStmt()}, 3},
		{[]impl.Stmt{namedStmt(impl.StmtControl, "a")}, 4},
		{[]impl.Stmt{namedStmt(impl.StmtAncilla, "a")}, 4},
		{[]impl.Stmt{namedStmt(impl.StmtIf, "r")}, 4},
		{[]impl.Stmt{h, h, h}, 9},
		{[]impl.Stmt{repeatStmt(3, h)}, 7},
		{[]impl.Stmt{repeatStmt(9, h, h), measureStmt("a r")}, 14},
		{[]impl.Stmt{adjointStmt(repeatStmt(2, h), h), h}, 16},
		{[]impl.Stmt{nested([]int{2, 3, 4, 5, 7}, h)}, 22},
		// Statements that are not valid are counted in the same way.
		{[]impl.Stmt{{}}, 2},
		{[]impl.Stmt{{Kind: 8}, {Kind: -1}, {Kind: math.MaxInt}, {Kind: math.MinInt}}, 8},
		{[]impl.Stmt{{Kind: 8, Args: []string{"a", "", "A"}, Count: 3, Word: "h", Body: []impl.Stmt{h}}}, 5},
		{[]impl.Stmt{{Kind: impl.StmtGate}}, 2},
		{[]impl.Stmt{{Kind: impl.StmtGate, Args: make([]string, 1000)}}, 1002},
		{[]impl.Stmt{{Kind: impl.StmtGate, Word: "h", Count: 5, Body: []impl.Stmt{h, h}}}, 2},
		{[]impl.Stmt{{Kind: impl.StmtMeasure, Body: []impl.Stmt{h}}}, 2},
		{[]impl.Stmt{{Kind: impl.StmtAdjoint, Word: "h", Args: []string{"a", "b", "c"}, Count: 7, Body: []impl.Stmt{h}}}, 9},
		{[]impl.Stmt{{Kind: impl.StmtRepeat}}, 4},
		{[]impl.Stmt{{Kind: impl.StmtRepeat, Args: []string{""}, Count: math.MaxInt}}, 5},
		{[]impl.Stmt{{Kind: impl.StmtIf}}, 3},
	}
	for _, c := range cases {
		checkTokenCount(t, c.list, c.count)
		checkTokenCount(t, append(slices.Clone(c.list), h), c.count+3)
		checkTokenCount(t, []impl.Stmt{adjointStmt(c.list...)}, c.count+3)
		checkTokenCount(t, []impl.Stmt{repeatStmt(2, c.list...)}, c.count+4)
		checkTokenCount(t, []impl.Stmt{{Kind: impl.StmtMeasure, Body: c.list}}, 2)
	}
}

// TestTreesOfAllKinds holds chains of all kinds against the chapter: up to MaxNesting they make a program.
func TestTreesOfAllKinds(t *testing.T) {
	for depth := 1; depth <= maxNesting+1; depth++ {
		for _, kinds := range slicesOf(depth, kindsWithBody()) {
			for _, body := range [][]impl.Stmt{nil, {gateStmt("h a")}, {gateStmt("cx a b"), measureStmt("a r")}} {
				s := nested(kinds, body...)
				checkValidStmt(t, s, true)
				checkDepth(t, []impl.Stmt{s}, depth)
				checkWritten(t, []impl.Stmt{s})
				checkValidProgram(t, programOf("a", s), depth <= maxNesting)
				checkValidProgram(t, programOf("a b c d", gateStmt("h a"), s, adjointStmt()), depth <= maxNesting)
			}
		}
	}
}

// TestDeepAndLongTrees: only a program has a limit.
func TestDeepAndLongTrees(t *testing.T) {
	h := gateStmt("h a")
	for _, depth := range []int{5, 100, 10000} {
		for _, kind := range kindsWithBody() {
			kinds := slices.Repeat([]int{kind}, depth)
			s, same, fault := nested(kinds, h), nested(kinds, h), nested(kinds, gateStmt("h A"))
			if !impl.IsValidStmt(s) || impl.IsValidStmt(fault) {
				t.Fatalf("a fault at depth %d of statements of kind %d is not found, or there is one too many", depth, kind)
			}
			if got := impl.NestingDepth([]impl.Stmt{h, s, h}); got != depth {
				t.Fatalf("the depth is %d, not %d", got, depth)
			}
			own := impl.StmtTokenCount([]impl.Stmt{aroundBody(kind)})
			if got := impl.StmtTokenCount([]impl.Stmt{s}); got != depth*own+3 {
				t.Fatalf("%d statements of kind %d have %d tokens", depth, kind, got)
			}
			if !impl.EqualStmts([]impl.Stmt{s}, []impl.Stmt{same}) || impl.EqualStmts([]impl.Stmt{s}, []impl.Stmt{fault}) {
				t.Fatalf("statements at depth %d are not compared", depth)
			}
			if impl.IsValidProgram(programOf("a", s)) {
				t.Fatalf("a program has the depth %d", depth)
			}
		}
	}
	for _, length := range []int{1000, 100000} {
		list := slices.Repeat([]impl.Stmt{h, adjointStmt(h)}, length)
		if got := impl.StmtTokenCount(list); got != 9*length {
			t.Fatalf("%d pairs of statements have %d tokens", length, got)
		}
		if impl.NestingDepth(list) != 1 || !impl.IsValidStmt(repeatStmt(2, list...)) || !impl.EqualStmts(list, slices.Clone(list)) || impl.IsValidProgram(programOf("a", list...)) {
			t.Fatalf("wrong results for %d pairs of statements", length)
		}
		list[len(list)-1] = adjointStmt(impl.Stmt{})
		if impl.IsValidStmt(repeatStmt(2, list...)) || impl.EqualStmts(list, slices.Repeat([]impl.Stmt{h, adjointStmt(h)}, length)) {
			t.Fatalf("the fault in the last of %d pairs of statements is not found", length)
		}
	}
}

func TestQubitsOfPrograms(t *testing.T) {
	names := strings.Fields("a b c d e f")
	for length := range len(names) + 1 {
		for _, body := range [][]impl.Stmt{nil, {}, {gateStmt("h a")}, {measureStmt("a r"), namedStmt(impl.StmtIf, "r", gateStmt("x b"))}} {
			checkValidProgram(t, impl.Program{Qubits: names[:length], Body: body}, length >= 1 && length <= 4)
			checkValidProgram(t, impl.Program{Qubits: slices.Repeat([]string{"a"}, length), Body: body}, length >= 1 && length <= 4)
		}
	}
	for _, length := range []int{8, 16, 100, 255, 256, 257, 65537} {
		checkValidProgram(t, impl.Program{Qubits: slices.Repeat([]string{"a"}, length)}, false)
	}
	for length := 1; length <= 4; length++ {
		for k := range length {
			for _, word := range append(tokenTexts(), "qubits", "h", "repeat", "0", "9") {
				qubits := slices.Clone(names[:length])
				qubits[k] = word
				checkValidProgram(t, impl.Program{Qubits: qubits, Body: []impl.Stmt{gateStmt("h a")}}, wordForm.MatchString(word))
			}
		}
	}
}

// TestIsValidProgram: whether names are known is not asked here.
func TestIsValidProgram(t *testing.T) {
	h := gateStmt("h a")
	valid := []impl.Program{
		programOf("a"), programOf("a b c d"), programOf("a a a a"), programOf("qubits if 1 h"), programOf("a", h), programOf("a b", h, gateStmt("cx a b")),
		programOf("a", gateStmt("h b"), gateStmt("cx b b"), gateStmt("ccx a a a")),
		programOf("a", measureStmt("a a"), measureStmt("b a"), repeatStmt(2, measureStmt("a r"))),
		programOf("a", namedStmt(impl.StmtIf, "r", namedStmt(impl.StmtIf, "r")), namedStmt(impl.StmtAncilla, "a", namedStmt(impl.StmtAncilla, "a"))),
		programOf("a", namedStmt(impl.StmtControl, "a", gateStmt("t a"))),
		programOf("a", nested([]int{5, 4, 3, 2}, h), nested([]int{7, 7, 7, 7}, h)),
	}
	for _, p := range valid {
		checkValidProgram(t, p, true)
	}
	for _, s := range validStmts() {
		p := programOf("a b", s)
		checkValidProgram(t, p, expectedValidProgram(p))
	}
	for _, fault := range invalidStmts() {
		for _, body := range [][]impl.Stmt{{fault}, {fault, h}, {h, fault, h}, {h, fault}, {adjointStmt(h, fault)}, {fault, fault}} {
			checkValidProgram(t, programOf("a b", body...), false)
		}
	}
	checkValidProgram(t, impl.Program{}, false)
	checkValidProgram(t, programOf("", h), false)
	checkValidProgram(t, programOf("a b c d e", h), false)
	checkValidProgram(t, programOf("a B", h), false)
	checkValidProgram(t, programOf("a", h, nested([]int{2, 3, 4, 5, 7}, h), h), false)
}

func TestNestingOfPrograms(t *testing.T) {
	h, flat := gateStmt("h a"), adjointStmt()
	for depth := 1; depth <= 7; depth++ {
		for _, kind := range kindsWithBody() {
			deep := nested(slices.Repeat([]int{kind}, depth))
			want := depth <= maxNesting
			for _, body := range [][]impl.Stmt{{deep}, {deep, h}, {h, deep}, {flat, deep, flat}, {deep, flat, deep}, {flat, h, flat, deep}} {
				checkValidProgram(t, programOf("a", body...), want)
				checkValidProgram(t, programOf("a b c d", body...), want)
				checkValidProgram(t, programOf("a", adjointStmt(body...)), depth < maxNesting)
			}
		}
	}
}

// stmtsOfTokens returns gates on one and on two qubits with just so many tokens; there are at least 6.
func stmtsOfTokens(count int) []impl.Stmt {
	var list []impl.Stmt
	for ; count%3 > 0; count -= 4 {
		list = append(list, gateStmt("cx a b"))
	}
	return append(list, slices.Repeat([]impl.Stmt{gateStmt("h a")}, count/3)...)
}

// TestTokensOfPrograms: a program may have exactly MaxTokens tokens, wherever they are.
func TestTokensOfPrograms(t *testing.T) {
	for n := 1; n <= 4; n++ {
		qubits := strings.Repeat("a ", n)
		for over := -10; over <= 10; over++ {
			left := maxTokens + over - 2 - n
			bodies := [][]impl.Stmt{
				stmtsOfTokens(left),
				{repeatStmt(9, stmtsOfTokens(left-4)...)},
				{adjointStmt(stmtsOfTokens(left - 3)...)},
				{namedStmt(impl.StmtControl, "a", stmtsOfTokens(left-4)...)},
				{nested([]int{2, 3, 5, 7}, stmtsOfTokens(left-15)...)},
				append(stmtsOfTokens(left-21), nested([]int{4, 3, 3}, gateStmt("h a")), measureStmt("a r"), namedStmt(impl.StmtIf, "r")),
				append(append([]impl.Stmt{adjointStmt(stmtsOfTokens(50)...)}, stmtsOfTokens(left-60)...), namedStmt(impl.StmtIf, "r", gateStmt("h a"))),
			}
			for _, body := range bodies {
				if got := expectedTokenCount(body); got != left {
					t.Fatalf("this test expects %d tokens, not %d", left, got)
				}
				checkValidProgram(t, programOf(qubits, body...), over <= 0)
			}
		}
		length := (maxTokens - 2 - n) / 3
		checkValidProgram(t, programOf(qubits, slices.Repeat([]impl.Stmt{adjointStmt()}, length)...), true)
		checkValidProgram(t, programOf(qubits, slices.Repeat([]impl.Stmt{adjointStmt()}, length+1)...), false)
	}
}

// changedStmts returns lists that differ from this one in one field of one statement, or have one statement more or less, at any depth.
func changedStmts(list []impl.Stmt) [][]impl.Stmt {
	var changed [][]impl.Stmt
	for i, s := range list {
		for _, other := range changedFields(s) {
			changed = append(changed, slices.Concat(list[:i], []impl.Stmt{other}, list[i+1:]))
		}
		changed = append(changed, slices.Concat(list[:i], list[i+1:]))
	}
	for i := range len(list) + 1 {
		for _, other := range []impl.Stmt{{}, gateStmt("z b"), adjointStmt()} {
			changed = append(changed, slices.Concat(list[:i], []impl.Stmt{other}, list[i:]))
		}
	}
	return changed
}

// changedFields returns statements that differ from s in one field alone.
func changedFields(s impl.Stmt) []impl.Stmt {
	var list []impl.Stmt
	for _, kind := range append([]int{1, 2, 3, 4, 5, 6, 7}, 0, -1, 8, 1<<32+s.Kind, math.MinInt) {
		other := s
		other.Kind = kind
		list = append(list, other)
	}
	for _, word := range []string{"", "h", "x", "sd", "cx", "ccx", strings.ToUpper(s.Word), s.Word + " ", s.Word + "\x00", "a" + s.Word} {
		other := s
		other.Word = word
		list = append(list, other)
	}
	for _, count := range []int{0, 1, 9, 10, -1, s.Count + 1, s.Count - 1, 1<<32 + s.Count, math.MaxInt} {
		other := s
		other.Count = count
		list = append(list, other)
	}
	for i := range len(s.Args) + 1 {
		other := s
		other.Args = slices.Insert(slices.Clone(s.Args), i, "c")
		list = append(list, other)
	}
	for i := range s.Args {
		for _, args := range [][]string{{}, {"c"}, {"A"}, {""}, {s.Args[i] + "0"}, {"abcdefghi"}} {
			other := s
			other.Args = slices.Concat(s.Args[:i], args, s.Args[i+1:])
			list = append(list, other)
		}
	}
	for _, body := range changedStmts(s.Body) {
		other := s
		other.Body = body
		list = append(list, other)
	}
	return slices.DeleteFunc(list, func(other impl.Stmt) bool { return formOf([]impl.Stmt{other}) == formOf([]impl.Stmt{s}) })
}

// someTrees has lists of statements of all kinds, up to five deep.
func someTrees() [][]impl.Stmt {
	h, cx := gateStmt("h a"), gateStmt("cx a b")
	return [][]impl.Stmt{
		nil,
		{h},
		{cx, h},
		{h, h},
		{gateStmt("ccx a b c"), measureStmt("a r"), namedStmt(impl.StmtIf, "r", cx)},
		{repeatStmt(2, h, repeatStmt(9), adjointStmt(cx, h))},
		{namedStmt(impl.StmtAncilla, "c", namedStmt(impl.StmtControl, "a", adjointStmt(repeatStmt(3, cx))), h), h},
		{nested([]int{2, 3, 4, 5, 7}, h)},
		{adjointStmt(), adjointStmt(adjointStmt()), adjointStmt(adjointStmt(), adjointStmt())},
		{{}, {Kind: 8, Word: "x", Args: []string{"", "A"}, Count: -1, Body: []impl.Stmt{h, {Kind: -1}}}, {Kind: impl.StmtGate, Body: []impl.Stmt{{Kind: impl.StmtMeasure, Body: []impl.Stmt{h}}}}},
	}
}

// TestChangedTrees changes trees in one place: they differ from what they were, and each function tells what the chapter states.
func TestChangedTrees(t *testing.T) {
	for _, list := range someTrees() {
		checkTree(t, list)
		for _, changed := range changedStmts(list) {
			checkTree(t, changed)
			checkEqualStmts(t, list, changed, formOf(list) == formOf(changed))
		}
	}
}

// TestAllPairsOfTrees: trees are equal only if all their fields are.
func TestAllPairsOfTrees(t *testing.T) {
	var lists [][]impl.Stmt
	for _, list := range someTrees()[:7] {
		changed := changedStmts(list)
		lists = append(lists, list)
		for k := 0; k < len(changed); k += 3 {
			lists = append(lists, changed[k])
		}
	}
	var forms []string
	for _, list := range lists {
		forms = append(forms, formOf(list))
	}
	for i, a := range lists {
		for k, b := range lists[:i+1] {
			if got := impl.EqualStmts(a, b); got != (forms[i] == forms[k]) {
				t.Fatalf("EqualStmts(%+v, %+v) = %v", a, b, got)
			}
		}
	}
}

func TestEqualStmts(t *testing.T) {
	h, x, cx := gateStmt("h a"), gateStmt("x a"), gateStmt("cx a b")
	equal := [][2][]impl.Stmt{
		{nil, nil}, {nil, {}}, {{}, {}}, {{h}, {gateStmt("h a")}}, {{{}}, {{}}},
		{{adjointStmt()}, {{Kind: impl.StmtAdjoint, Args: []string{}, Body: []impl.Stmt{}}}},
		{{h}, {{Kind: impl.StmtGate, Word: "h", Args: []string{"a"}, Body: []impl.Stmt{}}}},
		{{repeatStmt(2, adjointStmt(h, cx))}, {repeatStmt(2, adjointStmt(gateStmt("h a"), gateStmt("cx a b")))}},
		{{{Kind: 1, Args: nil, Body: []impl.Stmt{{Body: nil}}}}, {{Kind: 1, Args: []string{}, Body: []impl.Stmt{{Args: []string{}, Body: []impl.Stmt{}}}}}},
	}
	for _, pair := range equal {
		checkEqualStmts(t, pair[0], pair[1], true)
	}
	different := [][2][]impl.Stmt{
		{nil, {{}}}, {{}, {h}}, {{h}, {x}}, {{h, x}, {x, h}}, {{h}, {h, h}}, {{h, x}, {h}}, {{{}}, {{}, {}}},
		{{cx}, {gateStmt("cx b a")}}, {{cx}, {gateStmt("cx ab")}}, {{gateStmt("cx a b")}, {{Kind: impl.StmtGate, Word: "cx", Args: []string{"a b"}}}}, {{h}, {{Kind: impl.StmtGate, Word: "ha"}}}, {{h}, {gateStmt("h")}},
		{{adjointStmt(h, x)}, {adjointStmt(h), x}}, {{adjointStmt(h), x}, {adjointStmt(), h, x}}, {{adjointStmt(adjointStmt(), h)}, {adjointStmt(adjointStmt(h))}}, {{adjointStmt(), adjointStmt(h)}, {adjointStmt(h), adjointStmt()}},
		{{repeatStmt(2, h)}, {repeatStmt(3, h)}}, {{namedStmt(impl.StmtControl, "a", h)}, {namedStmt(impl.StmtIf, "a", h)}}, {{namedStmt(impl.StmtIf, "a", h)}, {namedStmt(impl.StmtIf, "b", h)}},
		// Fields that a kind does not use are compared too.
		{{h}, {{Kind: impl.StmtGate, Word: "h", Args: []string{"a"}, Count: 1}}}, {{h}, {{Kind: impl.StmtGate, Word: "h", Args: []string{"a"}, Body: []impl.Stmt{{}}}}},
		{{{Kind: impl.StmtGate, Body: []impl.Stmt{h}}}, {{Kind: impl.StmtGate, Body: []impl.Stmt{x}}}}, {{{Kind: 8, Body: []impl.Stmt{adjointStmt(h)}}}, {{Kind: 8, Body: []impl.Stmt{adjointStmt(x)}}}},
		{{adjointStmt()}, {{Kind: impl.StmtAdjoint, Word: "h"}}}, {{adjointStmt()}, {{Kind: impl.StmtAdjoint, Args: []string{""}}}}, {{measureStmt("a r")}, {measureStmt("a R")}},
	}
	for _, pair := range different {
		checkEqualStmts(t, pair[0], pair[1], false)
		for _, kind := range append(kindsWithBody(), 0, impl.StmtGate, impl.StmtMeasure, 8) {
			a, b := impl.Stmt{Kind: kind, Body: pair[0]}, impl.Stmt{Kind: kind, Body: pair[1]}
			checkEqualStmts(t, []impl.Stmt{h, a, h}, []impl.Stmt{h, b, h}, false)
			checkEqualStmts(t, []impl.Stmt{adjointStmt(a)}, []impl.Stmt{adjointStmt(b)}, false)
		}
	}
}

func TestEqualProgram(t *testing.T) {
	h := gateStmt("h a")
	checkEqualProgram(t, impl.Program{}, impl.Program{}, true)
	checkEqualProgram(t, impl.Program{}, impl.Program{Qubits: []string{}, Body: []impl.Stmt{}}, true)
	checkEqualProgram(t, programOf("A b c d e", h), programOf("A b c d e", gateStmt("h a")), true)
	qubits := [][]string{nil, {"a"}, {"b"}, {"A"}, {""}, {"a", "b"}, {"b", "a"}, {"a", "a"}, {"a b"}, {"ab"}, {"a", "b", "c"}, {"a", "b", "c", "d"}, {"a", "b", "c", "d", "e"}}
	bodies := someTrees()
	for i, first := range qubits {
		for k, second := range qubits {
			for l, body := range bodies {
				p, q := impl.Program{Qubits: first, Body: body}, cloneProgram(impl.Program{Qubits: second, Body: body})
				checkEqualProgram(t, p, q, i == k)
				q.Body = bodies[(l+1)%len(bodies)]
				checkEqualProgram(t, p, q, false)
			}
		}
	}
}

// variedStmts returns a list of statements of all kinds; if fault is positive, about one in so many has a field that is not valid.
func variedStmts(source *rand.Rand, depth, fault int) []impl.Stmt {
	words := strings.Fields("a b c r 1 abcdefgh")
	var list []impl.Stmt
	for range source.IntN(4) {
		var body []impl.Stmt
		if depth > 0 {
			body = variedStmts(source, depth-1, fault)
		}
		s := impl.Stmt{Kind: 1 + source.IntN(7)}
		fields := fieldsOfKinds()[s.Kind]
		args := fields.args
		if fields.word {
			kind := gateKinds()[1+source.IntN(12)]
			s.Word, args = kind.name, kind.arity
		}
		for range args {
			s.Args = append(s.Args, words[source.IntN(len(words))])
		}
		if fields.count {
			s.Count = 1 + source.IntN(9)
		}
		if fields.body || fault > 0 && source.IntN(fault) == 0 {
			s.Body = body
		}
		if fault > 0 && source.IntN(fault) == 0 {
			changed := changedFields(impl.Stmt{Kind: s.Kind, Word: s.Word, Args: s.Args, Count: s.Count})
			body := s.Body
			s = changed[source.IntN(len(changed))]
			s.Body = append(s.Body, body...)
		}
		list = append(list, s)
	}
	return list
}

func TestVariedTrees(t *testing.T) {
	source := rand.New(rand.NewPCG(17, 17))
	programs := 0
	for round := range 3000 {
		list := variedStmts(source, 1+round%6, 0)
		checkTree(t, list)
		checkWritten(t, list)
		if impl.IsValidProgram(programOf("a b", list...)) {
			programs++
		}
		for _, s := range list {
			checkValidStmt(t, s, true)
		}
		checkTree(t, variedStmts(source, 1+round%6, 5+round%20))
		other := variedStmts(source, 1+round%2, 0)
		checkEqualStmts(t, list, other, formOf(list) == formOf(other))
	}
	if programs < 300 || programs > 2700 {
		t.Errorf("%d of 3000 lists are the body of a valid program", programs)
	}
}

// roomyStmts returns the statements in larger arrays, with marks in the unused capacity of each Args, each Body and the list.
func roomyStmts(list []impl.Stmt) []impl.Stmt {
	var roomy []impl.Stmt
	for _, s := range list {
		s.Args, s.Body = withMarks(s.Args, "unused"), roomyStmts(s.Body)
		roomy = append(roomy, s)
	}
	return withMarks(roomy, unusedStmt)
}

// wholeForm writes all fields, and the unused capacity of all slices with them.
func wholeForm(list []impl.Stmt) string {
	var form strings.Builder
	for _, s := range list[:cap(list)] {
		fmt.Fprintf(&form, "(%d %q %d %q %d %d %s)", s.Kind, s.Word, len(s.Args), s.Args[:cap(s.Args)], s.Count, len(s.Body), wholeForm(s.Body))
	}
	return form.String()
}

// TestTreesAreKept: no function writes into its arguments, whether they are valid or not.
func TestTreesAreKept(t *testing.T) {
	trees := someTrees()
	for _, list := range someTrees()[1:7] {
		trees = append(trees, changedStmts(list)...)
	}
	for k, before := range trees {
		other := trees[(k*7+1)%len(trees)]
		list, second := roomyStmts(before), roomyStmts(other)
		qubits, names := withMarks([]string{"a", "b"}, "unused"), withMarks([]string{"a", "b"}, "unused")
		form, secondForm := wholeForm(list), wholeForm(second)
		for _, s := range list {
			checkValidStmt(t, s, expectedValidStmt(s))
		}
		checkDepth(t, list, expectedDepth(before))
		checkTokenCount(t, list, expectedTokenCount(before))
		p, q := impl.Program{Qubits: qubits, Body: list}, impl.Program{Qubits: names, Body: second}
		checkValidProgram(t, p, expectedValidProgram(p))
		checkEqualStmts(t, list, second, formOf(before) == formOf(other))
		checkEqualStmts(t, list, list, true)
		checkEqualProgram(t, p, q, formOf(before) == formOf(other))
		checkEqualProgram(t, p, p, true)
		checkMarks(t, "a function of programs", qubits, []string{"a", "b"}, "unused")
		checkMarks(t, "a function of programs", names, []string{"a", "b"}, "unused")
		if got := wholeForm(list); got != form {
			t.Fatalf("a function of trees changes %s to %s", form, got)
		}
		if got := wholeForm(second); got != secondForm {
			t.Fatalf("a function of trees changes %s to %s", secondForm, got)
		}
	}
}

// TestTreesChangedInPlace: what a tree was before is not remembered.
func TestTreesChangedInPlace(t *testing.T) {
	for _, list := range someTrees() {
		for _, changed := range changedStmts(list) {
			array := append(cloneStmts(list), make([]impl.Stmt, 2)...)[:len(list)]
			checkDepth(t, array, expectedDepth(list))
			checkTokenCount(t, array, expectedTokenCount(list))
			p := programOf("a b", array...)
			checkValidProgram(t, p, expectedValidProgram(p))
			checkEqualStmts(t, array, list, true)
			array = array[:len(changed)]
			copy(array, changed)
			checkTree(t, array)
			checkEqualStmts(t, array, list, formOf(changed) == formOf(list))
		}
	}
}

// TestTreesThatShareMemory: one Body may stand in several statements, and the lists may be parts of one array.
func TestTreesThatShareMemory(t *testing.T) {
	body := []impl.Stmt{gateStmt("h a"), adjointStmt(gateStmt("cx a b")), measureStmt("a r")}
	array := []impl.Stmt{repeatStmt(2, body...), adjointStmt(body...), adjointStmt(body[:2]...), adjointStmt(body[1:]...), body[0], repeatStmt(2, body...), adjointStmt(body...)}
	for from := range len(array) + 1 {
		for to := from; to <= len(array); to++ {
			checkTree(t, array[from:to])
			for other := range len(array) - (to - from) + 1 {
				part := array[other : other+to-from]
				checkEqualStmts(t, array[from:to], part, formOf(array[from:to]) == formOf(part))
			}
		}
	}
}

// TestTreesInAnyOrder expects the same results of every call, whatever was asked in between.
func TestTreesInAnyOrder(t *testing.T) {
	h, deep := gateStmt("h a"), nested([]int{2, 3, 4, 5, 7}, gateStmt("h a"))
	for range 3 {
		checkValidStmt(t, deep, true)
		checkValidStmt(t, adjointStmt(h, impl.Stmt{}), false)
		checkDepth(t, []impl.Stmt{h, deep}, 5)
		checkDepth(t, nil, 0)
		checkTokenCount(t, []impl.Stmt{deep}, 22)
		checkTokenCount(t, []impl.Stmt{h}, 3)
		checkValidProgram(t, programOf("a", deep), false)
		checkValidProgram(t, programOf("a", deep.Body...), true)
		checkValidProgram(t, impl.Program{}, false)
		checkEqualStmts(t, []impl.Stmt{deep}, []impl.Stmt{h}, false)
		checkEqualStmts(t, []impl.Stmt{h, deep}, []impl.Stmt{h, deep}, true)
		checkEqualStmts(t, nil, nil, true)
	}
}
