package tests

import (
	"fmt"
	"math"
	"slices"
	"strconv"
	"strings"
	"sync"
	"testing"

	"loop.example/g00506/impl"
)

// Promise 12: circuits round-trip through their text.
// Promise 47: every function is total, pure, and does not modify its arguments.

func textOfGate(g impl.Gate) string {
	text := expectedKind(g.Kind).name
	for _, q := range expectedQubits(g) {
		text += fmt.Sprintf(" %d", q)
	}
	return text
}

func textOfCircuit(c impl.Circuit) string {
	text := fmt.Sprintf("qubits %d", c.N)
	for _, g := range c.Gates {
		text += "\n" + textOfGate(g)
	}
	return text
}

// gatesByText returns all valid gates on four qubits, each under its text: no other text is that of a gate.
var gatesByText = sync.OnceValue(func() map[string]impl.Gate {
	gates := map[string]impl.Gate{}
	for _, g := range validGates(4) {
		gates[textOfGate(g)] = g
	}
	return gates
})

// expectedParsed looks up whole lines, which the program takes apart.
func expectedParsed(s string) (impl.Circuit, bool) {
	lines := strings.Split(s, "\n")
	n := slices.Index([]string{"qubits 1", "qubits 2", "qubits 3", "qubits 4"}, lines[0]) + 1
	if n == 0 || len(lines) > 1+maxGates {
		return impl.Circuit{}, false
	}
	c := impl.Circuit{N: n}
	for _, line := range lines[1:] {
		g, ok := gatesByText()[line]
		if !ok || max(g.A, g.B, g.C) >= n {
			return impl.Circuit{}, false
		}
		c.Gates = append(c.Gates, g)
	}
	return c, true
}

// expectedKindOf returns the kind with this name, or 0, which also has the empty name.
func expectedKindOf(word string) int {
	return max(0, slices.IndexFunc(gateKinds(), func(k gateKind) bool { return k.name == word }))
}

func checkGateKind(t *testing.T, word string, want int) {
	t.Helper()
	if got := impl.GateKind(word); got != want {
		t.Fatalf("GateKind(%q) = %d, want %d", word, got, want)
	}
}

func checkGateText(t *testing.T, g impl.Gate, want string) {
	t.Helper()
	if got := impl.FormatGate(g); got != want {
		t.Fatalf("FormatGate(%v) = %q, want %q", g, got, want)
	}
}

func checkCircuitText(t *testing.T, c impl.Circuit, want string) {
	t.Helper()
	if got := impl.FormatCircuit(c); got != want {
		t.Fatalf("FormatCircuit(%v) = %q, want %q", c, got, want)
	}
}

// checkParsedGate expects the gate and true, or the zero one and false if there is none.
func checkParsedGate(t *testing.T, s string, want impl.Gate, accept bool) {
	t.Helper()
	if !accept {
		want = impl.Gate{}
	}
	if got, ok := impl.ParseGate(s); got != want || ok != accept {
		t.Fatalf("ParseGate(%q) = %v, %v, want %v, %v", s, got, ok, want, accept)
	}
}

func checkParsedCircuit(t *testing.T, s string, want impl.Circuit, accept bool) {
	t.Helper()
	got, ok := impl.ParseCircuit(s)
	checkCircuit(t, "ParseCircuit", []any{strconv.Quote(s)}, got, ok, want, accept)
}

// checkNoGate expects that s is the text of no gate, and that no circuit has it as its first, a middle or its last gate.
func checkNoGate(t *testing.T, s string) {
	t.Helper()
	checkParsedGate(t, s, impl.Gate{}, false)
	if strings.Contains(s, "\n") {
		return // These may be the texts of two gates.
	}
	for _, text := range []string{"qubits 4\n" + s, "qubits 4\n" + s + "\nh 0\nx 1", "qubits 4\nh 0\n" + s + "\nx 1", "qubits 4\nh 0\nx 1\n" + s} {
		checkParsedCircuit(t, text, impl.Circuit{}, false)
	}
}

func TestGateKind(t *testing.T) {
	cases := []struct {
		word string
		kind int
	}{
		{"x", impl.GateX}, {"y", impl.GateY}, {"z", impl.GateZ}, {"h", impl.GateH}, {"s", impl.GateS}, {"sd", impl.GateSdg}, {"t", impl.GateT},
		{"td", impl.GateTdg}, {"cx", impl.GateCX}, {"cz", impl.GateCZ}, {"swap", impl.GateSwap}, {"ccx", impl.GateCCX},
	}
	for k, c := range cases {
		checkGateKind(t, c.word, k+1)
		if c.kind != k+1 || impl.GateName(k+1) != c.word {
			t.Errorf("kind %d is %d, and its name is %q", k+1, c.kind, impl.GateName(k+1))
		}
	}
	for _, kind := range kindsOfNoGate() {
		checkGateKind(t, impl.GateName(kind), 0)
	}
}

func TestWordsOfNoKind(t *testing.T) {
	for _, word := range []string{
		"", " ", "X", "Y", "Z", "H", "S", "T", "SD", "Sd", "sD", "TD", "Td", "tD", "CX", "Cx", "cX", "CZ", "Cz", "cZ", "SWAP", "Swap", "sWAP", "swaP", "CCX", "Ccx", "cCX", "ccX",
		"xx", "hh", "ss", "tt", "sdd", "tdd", "cxx", "czz", "ccxx", "cccx", "swapp", "sswap", "swa", "wap", "sap", "swp", "c", "cc", "d", "dg", "sdg", "tdg", "cs", "ct", "ch", "cy",
		"ccz", "cswap", "id", "i", "not", "cnot", "toffoli", "qubits", "gate", "0", "1", "4", "12", "x0", "x 0", "x ", " x", "h\n", "\nh", "\tt", "cx 0 1", "c x", "s-d", "t+",
		"\x00", "x\x00", "\xff", "x\xff", "\uff58", "\u0445", "\u04bb", "x\u0301", "\ufeffx", "\u2297", "s\u2020", "t\u2020",
	} {
		checkGateKind(t, word, 0)
	}
	checkGateKind(t, strings.Repeat("x", 100000), 0)
	checkGateKind(t, strings.Repeat("swap", 100000), 0)
}

func TestAllShortWords(t *testing.T) {
	found := 0
	check := func(word string) {
		want := expectedKindOf(word)
		checkGateKind(t, word, want)
		found += min(1, want)
	}
	for b := range 256 {
		check(string([]byte{byte(b)}))
		for c := range 256 {
			check(string([]byte{byte(b), byte(c)}))
		}
	}
	for _, letters := range slicesOf(3, ascendingFrom('a', 26)) {
		check(string([]byte{byte(letters[0]), byte(letters[1]), byte(letters[2])}))
	}
	if found != 11 {
		t.Errorf("%d words of up to three bytes are names", found)
	}
}

func ascendingFrom(first, length int) []int {
	var list []int
	for k := range length {
		list = append(list, first+k)
	}
	return list
}

// changedTexts returns s with each byte in each place inserted or put in place of the one there, and with each byte or the rest removed.
func changedTexts(s string) []string {
	var list []string
	for i := range len(s) + 1 {
		for b := range 256 {
			list = append(list, s[:i]+string([]byte{byte(b)})+s[i:])
			if i < len(s) {
				list = append(list, s[:i]+string([]byte{byte(b)})+s[i+1:])
			}
		}
		if i < len(s) {
			list = append(list, s[:i], s[i:], s[:i]+s[i+1:], s[:i]+strings.ToUpper(s[i:i+1])+s[i+1:])
		}
		for _, part := range []string{"  ", "\n\n", "\r\n", "\u00a0", "\u0660", "\ufffd", "00", "-1", "10", " 0", "0 "} {
			list = append(list, s[:i]+part+s[i:])
		}
	}
	return list
}

func TestChangedNames(t *testing.T) {
	for _, k := range gateKinds() {
		for _, word := range changedTexts(k.name) {
			checkGateKind(t, word, expectedKindOf(word))
		}
	}
}

func TestGatesAndTheirTexts(t *testing.T) {
	cases := []struct {
		g    impl.Gate
		text string
	}{
		{impl.Gate{Kind: impl.GateX}, "x 0"},
		{impl.Gate{Kind: impl.GateY, A: 1}, "y 1"},
		{impl.Gate{Kind: impl.GateZ, A: 2}, "z 2"},
		{impl.Gate{Kind: impl.GateH, A: 3}, "h 3"},
		{impl.Gate{Kind: impl.GateS}, "s 0"},
		{impl.Gate{Kind: impl.GateSdg, A: 3}, "sd 3"},
		{impl.Gate{Kind: impl.GateT, A: 2}, "t 2"},
		{impl.Gate{Kind: impl.GateTdg, A: 1}, "td 1"},
		{impl.Gate{Kind: impl.GateCX, B: 2}, "cx 0 2"},
		{impl.Gate{Kind: impl.GateCX, A: 2}, "cx 2 0"},
		{impl.Gate{Kind: impl.GateCZ, A: 3, B: 1}, "cz 3 1"},
		{impl.Gate{Kind: impl.GateSwap, A: 1, B: 3}, "swap 1 3"},
		{impl.Gate{Kind: impl.GateSwap, A: 3, B: 1}, "swap 3 1"},
		{impl.Gate{Kind: impl.GateCCX, A: 2, C: 1}, "ccx 2 0 1"},
		{impl.Gate{Kind: impl.GateCCX, A: 1, B: 2, C: 3}, "ccx 1 2 3"},
		{impl.Gate{Kind: impl.GateCCX, A: 3, B: 1}, "ccx 3 1 0"},
	}
	for _, c := range cases {
		checkGateText(t, c.g, c.text)
		checkParsedGate(t, c.text, c.g, true)
	}
}

func TestGatesRoundTrip(t *testing.T) {
	for _, g := range validGates(4) {
		checkGateText(t, g, textOfGate(g))
		checkParsedGate(t, textOfGate(g), g, true)
		checkParsedGate(t, impl.FormatGate(g), g, true)
	}
	if len(gatesByText()) != 8*4+3*12+24 {
		t.Errorf("%d gates have a text", len(gatesByText()))
	}
}

func TestGatesWithoutText(t *testing.T) {
	for _, g := range slices.Concat(gatesOfNoState(4), fewGatesOfNoState()) {
		checkGateText(t, g, "")
	}
	for _, g := range []impl.Gate{
		{}, {Kind: impl.GateX, A: 4}, {Kind: impl.GateX, A: -1}, {Kind: impl.GateX, A: math.MinInt}, {Kind: impl.GateX, A: math.MaxInt},
		{Kind: impl.GateH, B: 1}, {Kind: impl.GateH, C: 1}, {Kind: impl.GateH, C: -1}, {Kind: impl.GateCX}, {Kind: impl.GateCX, A: 3, B: 3}, {Kind: impl.GateCX, A: 1, C: 2},
		{Kind: impl.GateCZ, A: 1, B: 4}, {Kind: impl.GateSwap, A: 0, B: -1}, {Kind: impl.GateCCX, A: 1, B: 2, C: 2}, {Kind: impl.GateCCX, A: 1, B: 2, C: 4}, {Kind: 13, A: 1}, {Kind: -1},
	} {
		checkGateText(t, g, "")
	}
}

func TestTextsOfNoGate(t *testing.T) {
	for _, s := range []string{
		"", " ", "  ", "   ", "0", "0 0", "0 1 2", "\n", "h\n0", "h 0\n", "\nh 0", "h 0\r", "h 0\nx 1", "cx 0\n1",
		// Spaces before, behind or twice between.
		" h 0", "h 0 ", "h  0", " cx 0 1", "cx  0 1", "cx 0  1", "cx 0 1 ", " ccx 0 1 2", "ccx 0 1 2 ", "ccx  0 1 2", "ccx 0  1 2", "ccx 0 1  2", "h ", " h", "cx 0 ", "ccx 0 1 ", "h  ", "cx  ",
		// Another separator.
		"h\t0", "h,0", "h-0", "h0", "h_0", "h(0)", "h[0]", "h:0", "h 0;", "h 0,", "cx 0,1", "cx 0, 1", "cx,0,1", "cx 0\t1", "cx\t0\t1", "cx 01", "cx0 1", "ccx 01 2", "ccx 0 12", "ccx 0,1,2", "h\u00a00", "h\u20030", "h\x000", "cx 0\v1", "cx 0/1", "cx 0->1",
		// Too few or too many numbers.
		"h", "x", "sd", "h 0 0", "h 0 1", "t 1 0 0", "td 0 1 2", "cx", "cx 0", "cx 1", "cx 0 1 0", "cx 0 1 2", "cz 1", "swap 3", "swap 3 1 0", "ccx", "ccx 0", "ccx 0 1", "ccx 0 1 2 3", "ccx 0 1 2 0", "ccx 0 1 2 3 0",
		// Equal qubits.
		"cx 0 0", "cx 1 1", "cz 2 2", "swap 3 3", "ccx 0 0 1", "ccx 0 1 0", "ccx 1 0 0", "ccx 2 2 2",
		// Past the qubits.
		"h 4", "h 5", "h 9", "h 10", "h -1", "cx 0 4", "cx 4 0", "cz 3 4", "swap 4 5", "ccx 0 1 4", "ccx 4 1 0", "ccx 1 4 0", "h 64", "h 256", "h 257", "h 999999", "h 1000000", "h 4294967296", "h 4294967297",
		"h 18446744073709551616", "h 18446744073709551617", "h -18446744073709551615", "cx 0 18446744073709551617",
		// Unknown names.
		"H 0", "X 0", "CX 0 1", "Cx 0 1", "SWAP 0 1", "Sd 0", "xx 0", "hh 0", "cnot 0 1", "sdg 0", "tdg 0", "ccz 0 1 2", "cy 0 1", "i 0", "id 0", "0 h", "0 1 cx", "qubits 1", "qubits 4", "cs 0 1", "c 0", "swa 0 1", "swapp 0 1", "gate 0", "c x 0 1", "4 0", "9 0 1",
		// The numbers come first, or a name comes twice.
		"0 x", "h h 0", "h h", "h x", "h 0 h", "cx cx 0 1", "cx h 0", "h 0 cx 0 1",
	} {
		checkNoGate(t, s)
	}
}

// textsOfNoQubit returns texts that are not in the way in which a number is written, or that are not from 0 to 3.
func textsOfNoQubit() []string {
	return []string{
		"", " ", "00", "01", "02", "03", "000", "0003", "0000000000000001", "+0", "+1", "-0", "-1", "-2", "-3", "--1", "+-1", "-01", "4", "5", "7", "8", "9", "10", "11", "12", "20", "100", "1000000", "9999999", "65536", "65537",
		"4294967296", "4294967298", "9223372036854775807", "-9223372036854775808", "9223372036854775808", "18446744073709551616", "18446744073709551618", "340282366920938463463374607431768211457", strings.Repeat("9", 100), strings.Repeat("0", 1000), "1" + strings.Repeat("0", 64),
		"a", "x", "h", "q", "q1", "1q", "1a", "a1", "0x1", "0b1", "0o1", "1e0", "1.0", "1.", ".1", "1_0", "_1", "1_", "'1'", "\"1\"", "(1)", "[1]", "1,", ",1", "1;", "one", "NaN", "Inf",
		"\t1", "1\t", "1\r", "\r1", "1\v", "\u00a01", "1\u2003", "\ufeff1", "1\x00", "\x001", "\x80", "1\xff", "\xff", "\xb1", "\xc0\xb1", "\uff11", "\u0661", "\u00b9", "\u2081", "\u06f2", "\u0967", "\U0001d7cf", "1\u0301", "\ufffd", "-", "+",
	}
}

func TestGatesWithOtherNumbers(t *testing.T) {
	for _, g := range []impl.Gate{gateOn(impl.GateX, 3), gateOn(impl.GateTdg), gateOn(impl.GateCX, 0, 1), gateOn(impl.GateSwap, 3, 2), gateOn(impl.GateCCX, 2, 3, 1)} {
		words := strings.Split(textOfGate(g), " ")
		for k := 1; k < len(words); k++ {
			for _, number := range textsOfNoQubit() {
				changed := slices.Clone(words)
				changed[k] = number
				checkNoGate(t, strings.Join(changed, " "))
			}
		}
	}
}

// TestGatesWithOtherNames gives each name, and words that are none, 0 to 4 qubits.
func TestGatesWithOtherNames(t *testing.T) {
	words := []string{"", "X", "Cx", "xd", "sdg", "cc", "swa", "ccz", "qubits", "0"}
	for _, k := range gateKinds()[1:] {
		words = append(words, k.name)
	}
	accepted := 0
	for _, word := range words {
		for length := range 5 {
			for _, qubits := range slicesOf(length, []int{-1, 0, 1, 2, 3, 4}) {
				s := word
				for _, q := range qubits {
					s += fmt.Sprintf(" %d", q)
				}
				want, accept := gatesByText()[s]
				checkParsedGate(t, s, want, accept)
				if accept {
					accepted++
				}
			}
		}
	}
	if accepted != len(gatesByText()) {
		t.Errorf("%d of %d gates found", accepted, len(gatesByText()))
	}
}

// TestGateTextsChangedInOnePlace: a text that is accepted is the text of its gate.
func TestGateTextsChangedInOnePlace(t *testing.T) {
	accepted := 0
	for _, g := range validGates(4) {
		for _, s := range changedTexts(textOfGate(g)) {
			want, accept := gatesByText()[s]
			checkParsedGate(t, s, want, accept)
			if accept {
				checkGateText(t, want, s)
				accepted++
			}
		}
	}
	if accepted < 200 {
		t.Errorf("only %d texts are those of gates", accepted)
	}
}

func TestCircuitsAndTheirTexts(t *testing.T) {
	h, cx := gateOn(impl.GateH), gateOn(impl.GateCX, 0, 1)
	cases := []struct {
		c    impl.Circuit
		text string
	}{
		{circuitOf(1), "qubits 1"},
		{circuitOf(2), "qubits 2"},
		{circuitOf(3), "qubits 3"},
		{circuitOf(4), "qubits 4"},
		{circuitOf(1, h), "qubits 1\nh 0"},
		{circuitOf(1, h, gateOn(impl.GateTdg), h), "qubits 1\nh 0\ntd 0\nh 0"},
		{circuitOf(2, h, cx), "qubits 2\nh 0\ncx 0 1"},
		{circuitOf(2, cx, h), "qubits 2\ncx 0 1\nh 0"},
		// The number of qubits is N, also if fewer of them are used.
		{circuitOf(4, h, cx), "qubits 4\nh 0\ncx 0 1"},
		{circuitOf(3, gateOn(impl.GateH, 1), gateOn(impl.GateCCX, 2, 0, 1)), "qubits 3\nh 1\nccx 2 0 1"},
		{
			circuitOf(4, gateOn(impl.GateX, 3), gateOn(impl.GateY, 2), gateOn(impl.GateZ, 1), gateOn(impl.GateS), gateOn(impl.GateSdg, 1), gateOn(impl.GateT, 2), gateOn(impl.GateTdg, 3), gateOn(impl.GateCZ, 3, 0), gateOn(impl.GateSwap, 1, 2), gateOn(impl.GateCCX, 3, 2, 1)),
			"qubits 4\nx 3\ny 2\nz 1\ns 0\nsd 1\nt 2\ntd 3\ncz 3 0\nswap 1 2\nccx 3 2 1",
		},
		{circuitOf(1, slices.Repeat([]impl.Gate{h}, 60)...), "qubits 1" + strings.Repeat("\nh 0", 60)},
	}
	for _, c := range cases {
		checkCircuitText(t, c.c, c.text)
		checkParsedCircuit(t, c.text, c.c, true)
	}
}

func TestCircuitsRoundTrip(t *testing.T) {
	for n := 1; n <= 4; n++ {
		list := someCircuits(n)
		for _, c := range list {
			checkCircuitText(t, c, textOfCircuit(c))
			checkParsedCircuit(t, textOfCircuit(c), c, true)
			if back, ok := impl.ParseCircuit(impl.FormatCircuit(c)); !ok || !impl.EqualCircuit(back, c) {
				t.Fatalf("the text of %v is that of %v, %v", c, back, ok)
			}
		}
		if len(list) < 40 {
			t.Errorf("only %d circuits on %d qubits", len(list), n)
		}
	}
}

// TestCircuitTextsOfAllLengths: with one gate more than there may be, neither the circuit nor its text is accepted.
func TestCircuitTextsOfAllLengths(t *testing.T) {
	for n := 1; n <= 4; n++ {
		for length := range maxGates + 1 {
			c := circuitOf(n, manyGates(n, length)...)
			checkCircuitText(t, c, textOfCircuit(c))
			checkParsedCircuit(t, textOfCircuit(c), c, true)
		}
		for _, length := range []int{maxGates + 1, maxGates + 2, 2 * maxGates, 256 + 1, 1000} {
			c := circuitOf(n, manyGates(n, length)...)
			checkCircuitText(t, c, "")
			checkParsedCircuit(t, textOfCircuit(c), impl.Circuit{}, false)
		}
		// The gates count, and not the room for them.
		c := impl.Circuit{N: n, Gates: manyGates(n, 1000)[:maxGates]}
		checkCircuitText(t, c, textOfCircuit(c))
	}
}

func TestCircuitsWithoutText(t *testing.T) {
	for _, c := range invalidCircuits() {
		checkCircuitText(t, c, "")
		// An unused qubit that is not 0 would not be seen in the text.
		want, accept := expectedParsed(textOfCircuit(c))
		checkParsedCircuit(t, textOfCircuit(c), want, accept)
		if accept && sameCircuit(want, c) {
			t.Fatalf("this test expects %v to be valid", c)
		}
	}
	for _, g := range gatesOfNoState(4) {
		checkCircuitText(t, circuitOf(4, g), "")
		checkCircuitText(t, circuitOf(4, gateOn(impl.GateH), g, gateOn(impl.GateH)), "")
	}
}

// TestQubitsOfCircuitTexts: a gate may stand in the texts of exactly those circuits that have its qubits.
func TestQubitsOfCircuitTexts(t *testing.T) {
	for _, g := range validGates(4) {
		for n := -1; n <= 6; n++ {
			accept := n >= 1 && n <= 4 && slices.Contains(validGates(n), g)
			for _, gates := range [][]impl.Gate{{g}, {g, gateOn(impl.GateH)}, {gateOn(impl.GateH), g}, {gateOn(impl.GateH), g, gateOn(impl.GateX)}} {
				c := circuitOf(n, gates...)
				text := ""
				if accept {
					text = textOfCircuit(c)
				}
				checkCircuitText(t, c, text)
				checkParsedCircuit(t, textOfCircuit(c), c, accept)
			}
		}
	}
}

func TestTextsOfNoCircuit(t *testing.T) {
	for _, s := range []string{
		"", " ", "\n", "\n\n", "qubits", "qubits ", "qubits  ", "qubits\n", "qubits \n", "1", "4", " 1", "2\nh 0",
		// No header, or one that does not come first.
		"h 0", "h 0\ncx 0 1", "h 0\nqubits 1", "h 0\nqubits 2\ncx 0 1", "\nqubits 1", "\nqubits 2\nh 0", "\r\nqubits 1", "qubits 1\nqubits 1", "qubits 2\nh 0\nqubits 2", "qubits 2\nh 0\nqubits 2\nh 0",
		// Empty lines.
		"qubits 1\n", "qubits 2\n", "qubits 2\n\n", "qubits 2\n\nh 0", "qubits 2\nh 0\n", "qubits 2\nh 0\n\n", "qubits 2\nh 0\n\ncx 0 1", "qubits 2\nh 0\ncx 0 1\n", "qubits 2\n ", "qubits 2\n \nh 0", "qubits 2\nh 0\n ",
		// Carriage returns.
		"qubits 2\r", "qubits 2\r\nh 0", "qubits 2\r\nh 0\r\n", "qubits 2\r\nh 0\r\ncx 0 1", "qubits 2\nh 0\r", "qubits 2\nh 0\r\ncx 0 1", "qubits 2\rh 0", "qubits 2\nh 0\rcx 0 1", "qubits 2\n\rh 0", "\rqubits 2",
		// Other separators of lines.
		"qubits 2 h 0", "qubits 2;h 0", "qubits 2; h 0;", "qubits 2,h 0", "qubits 2\nh 0;cx 0 1", "qubits 2\nh 0 cx 0 1", "qubits 2\\nh 0", "qubits 2\vh 0", "qubits 2\fh 0", "qubits 2\x00h 0", "qubits 2\u2028h 0", "qubits 2\u0085h 0", "qubits 2\x85h 0", "qubits 2h 0", "qubits 2\nh 0cx 0 1",
		// A character more at either end.
		" qubits 1", "qubits 1 ", "xqubits 1", "qubits 1x", "qubits 1;", "qubits 1.", "qubits 1\x00", "\x00qubits 1", "\ufeffqubits 1", "qubits 1\ufeff", " qubits 2\nh 0", "qubits 2\nh 0 ", "qubits 2\nh 01", "qubits 2\nh 00", "qubits 2\nh 0;", "qubits 2\nh 0\x00",
		"qubits 2 \nh 0", "qubits 2\n h 0", "qubits 2\nh  0", "qubits  2\nh 0", "qubits\t2\nh 0", "qubits\n2\nh 0", "qubits2\nh 0", "qubits-2", "qubits:2", "qubits,2", "qubits=2", "qubits(2)", "qubits 2 2", "qubits 1 2", "qubits 2 0", "qubits 2 x", "qubits x 2", "qubits 2 h 0\n",
		// Another word.
		"qubit 1", "qubitss 1", "Qubits 1", "QUBITS 1", "qubitS 1", "ubits 1", "qbits 1", "qubits1", "bits 1", "n 1", "circuit 1", "h 1", "x 0", "q 2", "qreg 2", "gates 1", "qubits: 1", "qubits\u00a01", "\u051bubits 1", " 2\nh 0", "qubits qubits 1", "2 qubits", "1 qubits",
		// The gates of one circuit do not fit the header.
		"qubits 1\ncx 0 1", "qubits 1\nh 1", "qubits 1\nh 0\nh 1", "qubits 2\nccx 0 1 2", "qubits 2\nh 2", "qubits 3\ncz 1 3", "qubits 3\nccx 3 1 0\nh 0", "qubits 4\nh 4", "qubits 2\nh", "qubits 2\nh 0\nh", "qubits 2\ncx 1 1",
	} {
		checkParsedCircuit(t, s, impl.Circuit{}, false)
	}
}

func TestHeadersWithOtherNumbers(t *testing.T) {
	numbers := slices.DeleteFunc(textsOfNoQubit(), func(s string) bool { return s == "4" })
	for _, n := range sizesOfNoState() {
		numbers = append(numbers, strconv.Itoa(n))
	}
	for _, number := range append(numbers, "0", "5", "-4", "04", "004", "+4", "64", "4.0", "4a", "a4", "4 4", "four", "\uff14", "\u0664", "4\u0301", "44", "14", "41", "40") {
		for _, rest := range []string{"", "\nh 0", "\nh 0\nx 0", "\n", "\nh 4"} {
			checkParsedCircuit(t, "qubits "+number+rest, impl.Circuit{}, false)
		}
	}
}

// TestCircuitTextsChangedInOnePlace: a text that is accepted is the text of its circuit.
func TestCircuitTextsChangedInOnePlace(t *testing.T) {
	accepted := 0
	check := func(s string) {
		want, accept := expectedParsed(s)
		checkParsedCircuit(t, s, want, accept)
		if accept {
			checkCircuitText(t, want, s)
			accepted++
		}
	}
	for _, s := range []string{
		"qubits 1", "qubits 2", "qubits 4", "qubits 1\nh 0", "qubits 2\nh 0\ncx 0 1", "qubits 3\nccx 2 0 1\nsd 1\nswap 0 2", "qubits 4\ntd 3\ncz 2 1\nt 0\ns 0\ny 0", "qubits 2\ncx 1 0\nx 1\nz 0",
	} {
		check(s)
		for _, changed := range changedTexts(s) {
			check(changed)
		}
	}
	if accepted < 100 {
		t.Errorf("only %d texts are those of circuits", accepted)
	}
}

// TestCircuitTextsWithOtherLines combines lines: which of them are accepted depends on the header.
func TestCircuitTextsWithOtherLines(t *testing.T) {
	accepted := 0
	lines := []string{"", "h 0", "t 1", "cx 1 0", "swap 0 2", "ccx 3 0 1", "h 4", "cx 0 0", "h 01", "qubits 4", "x 0 "}
	for _, header := range []string{"", "qubits 0", "qubits 1", "qubits 2", "qubits 3", "qubits 4", "qubits 5", "qubits", "qubits 02", "h 0", "Qubits 4", "qubits 4 "} {
		for length := range 4 {
			for _, choice := range slicesOf(length, ascending(len(lines))) {
				s := header
				for _, k := range choice {
					s += "\n" + lines[k]
				}
				want, accept := expectedParsed(s)
				checkParsedCircuit(t, s, want, accept)
				if accept {
					accepted++
				}
			}
		}
	}
	// One to three lines on 1, 2, 3 and 4 qubits, of 1, 3, 4 and 5 that are valid there, and no line.
	if want := (1 + 1 + 1 + 1) + (1 + 3 + 9 + 27) + (1 + 4 + 16 + 64) + (1 + 5 + 25 + 125); accepted != want {
		t.Errorf("%d texts are those of circuits, not %d", accepted, want)
	}
}

func TestFaultsInLongCircuitTexts(t *testing.T) {
	for n := 1; n <= 4; n++ {
		lines := strings.Split(textOfCircuit(circuitOf(n, manyGates(n, maxGates)...)), "\n")
		for _, k := range []int{1, 2, 30, maxGates - 1, maxGates} {
			for _, line := range []string{"", " ", "h", "h 4", "h 00", "H 0", "cx 0 0", lines[k] + " ", " " + lines[k], lines[k] + "\r", lines[k] + "0", lines[k] + " 0", lines[k][1:], lines[k] + "\n", "\n" + lines[k], lines[k] + "\n" + lines[k], lines[0]} {
				changed := slices.Clone(lines)
				changed[k] = line
				checkParsedCircuit(t, strings.Join(changed, "\n"), impl.Circuit{}, false)
			}
			shorter := slices.Delete(slices.Clone(lines), k, k+1)
			want, accept := expectedParsed(strings.Join(shorter, "\n"))
			checkParsedCircuit(t, strings.Join(shorter, "\n"), want, accept && len(want.Gates) == maxGates-1)
		}
	}
}

func TestLongTextsOfGatesAndCircuits(t *testing.T) {
	for _, s := range []string{
		strings.Repeat(" ", 100000), strings.Repeat("h 0 ", 30000), "h " + strings.Repeat("0", 100000), "h" + strings.Repeat(" 0", 50000), "cx 0 1" + strings.Repeat(" ", 100000), strings.Repeat("ccx", 30000), strings.Repeat("\xff", 100000), strings.Repeat("\u20ac", 30000),
	} {
		checkNoGate(t, s)
	}
	for _, s := range []string{
		strings.Repeat("\n", 100000), "qubits 1" + strings.Repeat("\n", 100000), "qubits 1" + strings.Repeat("\nh 0", 10000), strings.Repeat("qubits 1\n", 10000), "qubits " + strings.Repeat("1", 100000), "qubits " + strings.Repeat("0", 100000) + "1", strings.Repeat("qubits ", 10000) + "1",
	} {
		checkParsedCircuit(t, s, impl.Circuit{}, false)
	}
}

// TestCircuitTextsShareNoMemory overwrites each result: neither an argument nor another result may change with it.
func TestCircuitTextsShareNoMemory(t *testing.T) {
	for n := 1; n <= 4; n++ {
		for _, before := range memoryCircuits(n) {
			c := roomyCircuit(before)
			want := ""
			if _, accept := expectedParsed(textOfCircuit(before)); accept {
				want = textOfCircuit(before)
			}
			checkCircuitText(t, c, want)
			checkMarks(t, "FormatCircuit", c.Gates, before.Gates, unusedGate)
			text := impl.FormatCircuit(c)
			checkFreshGates(t, "ParseCircuit", func() []impl.Gate { return firstGates(impl.ParseCircuit(text)) })
			fillWith(c.Gates, unusedGate)
			if text != want {
				t.Fatalf("the text of %v becomes %q", before, text)
			}
		}
	}
}

// TestCircuitsOfTextsGrowApart: what is appended to one result is not seen in another.
func TestCircuitsOfTextsGrowApart(t *testing.T) {
	for n := 1; n <= 4; n++ {
		for _, c := range someCircuits(n) {
			first, _ := impl.ParseCircuit(textOfCircuit(c))
			second, _ := impl.ParseCircuit(textOfCircuit(c))
			long := append(first.Gates, gateOn(impl.GateX))
			other := append(second.Gates, gateOn(impl.GateT))
			if long[len(long)-1] != gateOn(impl.GateX) || other[len(other)-1] != gateOn(impl.GateT) || !sameCircuit(first, c) || !sameCircuit(second, c) {
				t.Fatalf("two circuits of the text %q share their memory", textOfCircuit(c))
			}
		}
	}
}

// TestCircuitTextsInAnyOrder expects the same results of every call, whatever was asked in between.
func TestCircuitTextsInAnyOrder(t *testing.T) {
	h, cx := gateOn(impl.GateH), gateOn(impl.GateCX, 1, 0)
	for range 3 {
		checkParsedCircuit(t, "qubits 2\nh 0\ncx 1 0", circuitOf(2, h, cx), true)
		checkParsedCircuit(t, "qubits 2\nh 0\ncx 1", impl.Circuit{}, false)
		checkParsedCircuit(t, "qubits 2", circuitOf(2), true)
		checkParsedCircuit(t, "h 0", impl.Circuit{}, false)
		checkParsedGate(t, "cx 1 0", cx, true)
		checkParsedGate(t, "cx 1", impl.Gate{}, false)
		checkParsedGate(t, "h 0", h, true)
		checkGateKind(t, "unknown", 0)
		checkGateKind(t, "h", impl.GateH)
		checkGateText(t, impl.Gate{Kind: impl.GateCX}, "")
		checkGateText(t, cx, "cx 1 0")
		checkCircuitText(t, circuitOf(1, cx), "")
		checkCircuitText(t, circuitOf(2, cx, h), "qubits 2\ncx 1 0\nh 0")
	}
}
