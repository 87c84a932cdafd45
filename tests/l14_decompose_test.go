package tests

import (
	"math"
	"slices"
	"strings"
	"testing"

	"loop.example/g00506/impl"
)

// Promise 14: decomposition preserves the operation exactly.
// Promise 47: every function is total, pure, and does not modify its arguments.

// decompositionTexts returns what the chapter states for the kinds that are not basic.
func decompositionTexts() map[int]string {
	return map[int]string{
		impl.GateCZ:   "h b; cx a b; h b",
		impl.GateSwap: "cx a b; cx b a; cx a b",
		impl.GateCCX:  "h c; cx b c; td c; cx a c; t c; cx b c; td c; cx a c; t b; t c; h c; cx a b; t a; td b; cx a b",
	}
}

func expectedBasic(g impl.Gate) bool { return g.Kind >= 1 && g.Kind <= 9 }

// expectedDecomposition puts the qubits of g for a, b and c, whatever they are.
func expectedDecomposition(g impl.Gate) []impl.Gate {
	text, ok := decompositionTexts()[g.Kind]
	if !ok {
		return []impl.Gate{g}
	}
	return gatesNamed(text, map[string]int{"a": g.A, "b": g.B, "c": g.C})
}

// gatesNamed reads a text of the chapter such as "h b; cx a b; h b", in which qubits have names.
func gatesNamed(text string, named map[string]int) []impl.Gate {
	var list []impl.Gate
	for _, s := range strings.Split(text, "; ") {
		words := strings.Fields(s)
		var qubits []int
		for _, word := range words[1:] {
			qubits = append(qubits, named[word])
		}
		list = append(list, gateOn(expectedKindOf(words[0]), qubits...))
	}
	return list
}

func expectedDecompositions(list []impl.Gate) []impl.Gate {
	var basic []impl.Gate
	for _, g := range list {
		basic = append(basic, expectedDecomposition(g)...)
	}
	return basic
}

func checkBasic(t *testing.T, g impl.Gate, want bool) {
	t.Helper()
	if got := impl.IsBasicGate(g); got != want {
		t.Errorf("IsBasicGate(%v) = %v", g, got)
	}
}

// checkDecomposed asks for the decomposition of g, and of the list that has g alone.
func checkDecomposed(t *testing.T, g impl.Gate, want []impl.Gate) {
	t.Helper()
	if got := impl.DecomposeGate(g); !slices.Equal(got, want) {
		t.Errorf("DecomposeGate(%v) = %v, want %v", g, got, want)
	}
	checkDecomposedList(t, []impl.Gate{g}, want)
}

func checkDecomposedList(t *testing.T, list, want []impl.Gate) {
	t.Helper()
	if got := impl.DecomposeGates(list); !slices.Equal(got, want) {
		t.Errorf("DecomposeGates(%v) = %v, want %v", list, got, want)
	}
}

// checkSameOperation compares the states that the list and its decomposition make of each basis state of n qubits, the phase included.
func checkSameOperation(t *testing.T, n int, list []impl.Gate) {
	t.Helper()
	basic := impl.DecomposeGates(list)
	for i := range 1 << n {
		want, ok := expectedGates(list, impl.BasisState(n, i))
		if !ok {
			t.Fatalf("this test expects %v to fail at %d", list, i)
		}
		checkGatesApplied(t, basic, impl.BasisState(n, i), want, true)
	}
}

func TestIsBasicGate(t *testing.T) {
	cases := []struct {
		kind int
		want bool
	}{
		{impl.GateX, true}, {impl.GateY, true}, {impl.GateZ, true}, {impl.GateH, true},
		{impl.GateS, true}, {impl.GateSdg, true}, {impl.GateT, true}, {impl.GateTdg, true},
		{impl.GateCX, true}, {impl.GateCZ, false}, {impl.GateSwap, false}, {impl.GateCCX, false},
		{0, false}, {-1, false}, {13, false}, {14, false}, {-7, false}, {-9, false}, {math.MinInt, false}, {math.MaxInt, false},
	}
	for _, c := range cases {
		for _, qubits := range [][]int{{}, {1}, {0, 1}, {1, 0}, {3, 2, 1}} {
			checkBasic(t, gateOn(c.kind, qubits...), c.want)
		}
	}
	for _, kind := range kindsOfNoGate() {
		checkBasic(t, gateOn(kind), false)
		checkBasic(t, gateOn(kind, 2, 0, 1), false)
	}
}

// TestQubitsOfBasicGates: they do not count, valid or not.
func TestQubitsOfBasicGates(t *testing.T) {
	for _, kind := range kindsFromMinusOneTo14() {
		for _, g := range gatesWithQubits(kind, []int{-1, 0, 1, 2, 3, 4, math.MinInt, math.MaxInt}) {
			checkBasic(t, g, expectedBasic(g))
		}
	}
}

func TestDecomposeGate(t *testing.T) {
	cases := []struct{ g, want string }{
		{"x 0", "x 0"},
		{"y 1", "y 1"},
		{"z 2", "z 2"},
		{"h 3", "h 3"},
		{"s 0", "s 0"},
		{"sd 1", "sd 1"},
		{"t 2", "t 2"},
		{"td 3", "td 3"},
		{"cx 0 1", "cx 0 1"},
		{"cx 3 2", "cx 3 2"},
		{"cz 0 1", "h 1;cx 0 1;h 1"},
		{"cz 1 0", "h 0;cx 1 0;h 0"},
		{"cz 2 3", "h 3;cx 2 3;h 3"},
		{"swap 0 1", "cx 0 1;cx 1 0;cx 0 1"},
		{"swap 1 0", "cx 1 0;cx 0 1;cx 1 0"},
		{"swap 3 1", "cx 3 1;cx 1 3;cx 3 1"},
		{"ccx 0 1 2", "h 2;cx 1 2;td 2;cx 0 2;t 2;cx 1 2;td 2;cx 0 2;t 1;t 2;h 2;cx 0 1;t 0;td 1;cx 0 1"},
		{"ccx 1 0 2", "h 2;cx 0 2;td 2;cx 1 2;t 2;cx 0 2;td 2;cx 1 2;t 0;t 2;h 2;cx 1 0;t 1;td 0;cx 1 0"},
		{"ccx 3 2 0", "h 0;cx 2 0;td 0;cx 3 0;t 0;cx 2 0;td 0;cx 3 0;t 2;t 0;h 0;cx 3 2;t 3;td 2;cx 3 2"},
	}
	for _, c := range cases {
		checkDecomposed(t, gatesIn(c.g)[0], gatesIn(c.want))
	}
}

// TestDecompositionsOfAllGates expects basic gates on qubits of the gate itself.
func TestDecompositionsOfAllGates(t *testing.T) {
	lengths := map[int]int{}
	for n := 1; n <= 4; n++ {
		for _, g := range validGates(n) {
			checkDecomposed(t, g, expectedDecomposition(g))
			basic := impl.DecomposeGate(g)
			lengths[len(basic)]++
			checkValidCircuit(t, circuitOf(n, basic...), true)
			for _, h := range basic {
				checkBasic(t, h, true)
				if !expectedBasic(h) || slices.ContainsFunc(expectedQubits(h), func(q int) bool { return !slices.Contains(expectedQubits(g), q) }) {
					t.Errorf("DecomposeGate(%v) has %v", g, h)
				}
				// What is basic is decomposed already.
				checkDecomposed(t, h, []impl.Gate{h})
			}
		}
	}
	// Of each one-qubit kind there are 1 + 2 + 3 + 4, of each two-qubit kind 2 + 6 + 12, and of ccx 6 + 24.
	if lengths[1] != 8*10+20 || lengths[3] != 2*20 || lengths[15] != 30 || len(lengths) != 3 {
		t.Errorf("the decompositions have these lengths: %v", lengths)
	}
}

func TestDecompositionPreservesTheOperation(t *testing.T) {
	for n := 1; n <= 4; n++ {
		for _, g := range validGates(n) {
			want := expectedGateMatrix(g, n)
			checkCircuitMatrix(t, circuitOf(n, impl.DecomposeGate(g)...), want, true)
			checkCircuitMatrix(t, circuitOf(n, impl.DecomposeGates([]impl.Gate{g})...), want, true)
			checkSameOperation(t, n, []impl.Gate{g})
			// This does not use how impl applies gates.
			if got := expectedCircuitMatrix(t, circuitOf(n, impl.DecomposeGate(g)...)); !sameMatrix(got, want) {
				t.Errorf("the decomposition of %v has the matrix %v", g, got)
			}
		}
	}
}

// TestPhasesOfDecompositions: a gate that is undone by its own decomposition leaves the identity, with the phase 0.
func TestPhasesOfDecompositions(t *testing.T) {
	for n := 1; n <= 4; n++ {
		for _, g := range validGates(n) {
			inverse := impl.InverseCircuit(circuitOf(n, impl.DecomposeGate(g)...))
			for _, list := range [][]impl.Gate{append(slices.Clone(inverse.Gates), g), append([]impl.Gate{g}, inverse.Gates...)} {
				m := matrixOfCircuit(t, circuitOf(n, list...))
				if phase, ok := impl.GlobalPhase(m, impl.IdentityMatrix(n)); !ok || phase != 0 || !sameMatrix(m, impl.IdentityMatrix(n)) {
					t.Errorf("%v and its decomposition differ by the phase %d, %v", g, phase, ok)
				}
			}
		}
	}
}

// TestDecompositionsAtManyStates: the states have many different amplitudes, and room for the divisions of two GateH.
func TestDecompositionsAtManyStates(t *testing.T) {
	for n := 1; n <= 4; n++ {
		for _, g := range validGates(n) {
			for _, v := range statesFrom(append(eightPhases(), realIntegers(1, 2, 3, 4, 5, 6, 7, 8)...), n) {
				want, ok := expectedGate(g, v)
				checkGatesApplied(t, impl.DecomposeGate(g), v, want, ok)
			}
		}
	}
}

// TestDecompositionsInContext puts each gate that is not basic between gates that turn all its qubits.
func TestDecompositionsInContext(t *testing.T) {
	for n := 1; n <= 4; n++ {
		var before, after []impl.Gate
		for q := range n {
			before = append(before, gateOn(impl.GateH, q), gateOn(impl.GateT, q))
			after = append(after, gateOn(impl.GateSdg, q), gateOn(impl.GateH, q))
		}
		for _, g := range validGates(n) {
			if !expectedBasic(g) {
				checkSameOperation(t, n, slices.Concat(before, []impl.Gate{g}, after))
			}
		}
	}
}

func TestDecomposeGates(t *testing.T) {
	ccx := "h 2;cx 1 2;td 2;cx 0 2;t 2;cx 1 2;td 2;cx 0 2;t 1;t 2;h 2;cx 0 1;t 0;td 1;cx 0 1"
	cases := []struct{ list, want string }{
		{"", ""},
		{"t 3", "t 3"},
		{"cx 2 0", "cx 2 0"},
		{"cz 2 0", "h 0;cx 2 0;h 0"},
		{"ccx 0 1 2", ccx},
		// Gates that are basic already.
		{"h 0;h 0", "h 0;h 0"},
		{"x 0;y 1;z 2;h 3;s 0;sd 1;t 2;td 3;cx 0 1", "x 0;y 1;z 2;h 3;s 0;sd 1;t 2;td 3;cx 0 1"},
		{"cx 0 1;cx 0 1;cx 1 0", "cx 0 1;cx 0 1;cx 1 0"},
		// Nothing cancels.
		{"cz 0 1;cz 0 1", "h 1;cx 0 1;h 1;h 1;cx 0 1;h 1"},
		{"cz 0 1;h 1", "h 1;cx 0 1;h 1;h 1"},
		{"swap 0 1;cx 0 1", "cx 0 1;cx 1 0;cx 0 1;cx 0 1"},
		{"swap 0 1;swap 1 0", "cx 0 1;cx 1 0;cx 0 1;cx 1 0;cx 0 1;cx 1 0"},
		// In order, at the beginning, in the middle and at the end.
		{"cz 0 1;x 0;y 1", "h 1;cx 0 1;h 1;x 0;y 1"},
		{"x 0;cz 0 1;y 1", "x 0;h 1;cx 0 1;h 1;y 1"},
		{"x 0;y 1;cz 0 1", "x 0;y 1;h 1;cx 0 1;h 1"},
		{"ccx 0 1 2;ccx 0 1 2", ccx + ";" + ccx},
		{"swap 2 3;ccx 0 1 2;cz 3 0", "cx 2 3;cx 3 2;cx 2 3;" + ccx + ";h 0;cx 3 0;h 0"},
		{
			"x 0;y 1;z 2;h 3;s 0;sd 1;t 2;td 3;cx 0 1;cz 1 2;swap 2 3;ccx 0 1 2",
			"x 0;y 1;z 2;h 3;s 0;sd 1;t 2;td 3;cx 0 1;h 2;cx 1 2;h 2;cx 2 3;cx 3 2;cx 2 3;" + ccx,
		},
		{
			"ccx 0 1 2;swap 2 3;cz 1 2;cx 0 1;td 3;t 2;sd 1;s 0;h 3;z 2;y 1;x 0",
			ccx + ";cx 2 3;cx 3 2;cx 2 3;h 2;cx 1 2;h 2;cx 0 1;td 3;t 2;sd 1;s 0;h 3;z 2;y 1;x 0",
		},
	}
	for _, c := range cases {
		checkDecomposedList(t, gatesIn(c.list), gatesIn(c.want))
	}
}

func TestDecomposingNoGates(t *testing.T) {
	for _, list := range [][]impl.Gate{nil, {}, make([]impl.Gate, 0, 10), validGates(4)[:0]} {
		checkDecomposedList(t, list, nil)
	}
}

func TestDecompositionsOfManyLists(t *testing.T) {
	for n := 1; n <= 4; n++ {
		for _, length := range []int{2, 3, 5} {
			for k, list := range variedGates(n, length) {
				want := expectedDecompositions(list)
				checkDecomposedList(t, list, want)
				checkDecomposedList(t, want, want)
				cut := k % (length + 1)
				parts := slices.Concat(impl.DecomposeGates(list[:cut]), impl.DecomposeGates(list[cut:]))
				checkDecomposedList(t, list, parts)
				if n < 4 || length == 5 {
					checkSameOperation(t, n, list)
				}
			}
		}
	}
}

// TestDecomposingLongLists: neither the list nor the result has to be short enough for a circuit.
func TestDecomposingLongLists(t *testing.T) {
	for n := 1; n <= 4; n++ {
		for _, length := range []int{4, 5, maxGates - 1, maxGates, maxGates + 1, 2 * maxGates, 256 + 1, 1000} {
			list := manyGates(n, length)
			checkDecomposedList(t, list, expectedDecompositions(list))
		}
	}
	for _, text := range []string{"h 0", "cz 0 1", "swap 1 0", "ccx 2 0 1"} {
		for _, length := range []int{maxGates, maxGates + 1, 10000} {
			list := slices.Repeat(gatesIn(text), length)
			checkDecomposedList(t, list, slices.Repeat(expectedDecomposition(list[0]), length))
		}
	}
}

// TestOperationsOfLongLists has more gates than a circuit, before or after the decomposition.
func TestOperationsOfLongLists(t *testing.T) {
	for n := 2; n <= 4; n++ {
		var list []impl.Gate
		for _, g := range manyGates(n, 150) {
			// Many GateH on all qubits would leave the limits of the amplitudes.
			if g.Kind != impl.GateH || len(list)%20 == 0 {
				list = append(list, g)
			}
		}
		for _, part := range [][]impl.Gate{list[:20], list[:maxGates], list} {
			checkSameOperation(t, n, part)
		}
	}
}

// TestGatesWithOtherQubits: the chapter decomposes by the kind alone, and the gates are not tested for being valid.
func TestGatesWithOtherQubits(t *testing.T) {
	cases := []struct {
		g    impl.Gate
		want []impl.Gate
	}{
		// No kind.
		{impl.Gate{}, []impl.Gate{{}}},
		{impl.Gate{A: 1, B: 2, C: 3}, []impl.Gate{{A: 1, B: 2, C: 3}}},
		{impl.Gate{Kind: -1, A: 1}, []impl.Gate{{Kind: -1, A: 1}}},
		{impl.Gate{Kind: 13, A: 1, B: 2, C: 3}, []impl.Gate{{Kind: 13, A: 1, B: 2, C: 3}}},
		{impl.Gate{Kind: -10, A: 1, B: 2}, []impl.Gate{{Kind: -10, A: 1, B: 2}}},
		{impl.Gate{Kind: math.MinInt, C: 1}, []impl.Gate{{Kind: math.MinInt, C: 1}}},
		{impl.Gate{Kind: math.MaxInt, B: 1}, []impl.Gate{{Kind: math.MaxInt, B: 1}}},
		// Equal qubits.
		{impl.Gate{Kind: impl.GateCX}, []impl.Gate{{Kind: impl.GateCX}}},
		{impl.Gate{Kind: impl.GateCZ}, []impl.Gate{{Kind: impl.GateH}, {Kind: impl.GateCX}, {Kind: impl.GateH}}},
		{impl.Gate{Kind: impl.GateSwap, A: 2, B: 2}, slices.Repeat([]impl.Gate{{Kind: impl.GateCX, A: 2, B: 2}}, 3)},
		// Qubits that are negative or not below MaxQubits.
		{impl.Gate{Kind: impl.GateT, A: -1}, []impl.Gate{{Kind: impl.GateT, A: -1}}},
		{impl.Gate{Kind: impl.GateCX, A: 4, B: -2}, []impl.Gate{{Kind: impl.GateCX, A: 4, B: -2}}},
		{impl.Gate{Kind: impl.GateCZ, A: -1, B: 4}, []impl.Gate{{Kind: impl.GateH, A: 4}, {Kind: impl.GateCX, A: -1, B: 4}, {Kind: impl.GateH, A: 4}}},
		{
			impl.Gate{Kind: impl.GateSwap, A: math.MinInt, B: math.MaxInt},
			[]impl.Gate{{Kind: impl.GateCX, A: math.MinInt, B: math.MaxInt}, {Kind: impl.GateCX, A: math.MaxInt, B: math.MinInt}, {Kind: impl.GateCX, A: math.MinInt, B: math.MaxInt}},
		},
		// Unused qubits that are not 0: a gate that is basic keeps them, and the gates of a decomposition have none.
		{impl.Gate{Kind: impl.GateH, A: 1, B: 2, C: 3}, []impl.Gate{{Kind: impl.GateH, A: 1, B: 2, C: 3}}},
		{impl.Gate{Kind: impl.GateCX, A: 1, B: 2, C: 3}, []impl.Gate{{Kind: impl.GateCX, A: 1, B: 2, C: 3}}},
		{impl.Gate{Kind: impl.GateCZ, A: 1, B: 2, C: 3}, gatesIn("h 2;cx 1 2;h 2")},
		{impl.Gate{Kind: impl.GateSwap, A: 1, B: 2, C: -3}, gatesIn("cx 1 2;cx 2 1;cx 1 2")},
	}
	for _, c := range cases {
		checkDecomposed(t, c.g, c.want)
	}
}

func TestDecompositionsOfGatesThatAreNotValid(t *testing.T) {
	for _, g := range slices.Concat(gatesOfNoState(4), fewGatesOfNoState()) {
		checkDecomposed(t, g, expectedDecomposition(g))
	}
	for _, kind := range slices.Concat(kindsFromMinusOneTo14(), kindsOfNoGate()) {
		for _, qubits := range slicesOf(3, []int{-1, 0, 3, 4, math.MinInt, math.MaxInt}) {
			g := gateOn(kind, qubits...)
			checkDecomposed(t, g, expectedDecomposition(g))
		}
	}
}

// TestListsWithGatesThatAreNotValid puts each at the beginning, in the middle and at the end of a list.
func TestListsWithGatesThatAreNotValid(t *testing.T) {
	valid := gatesIn("cz 0 1;t 2;ccx 3 1 0;swap 0 2")
	for _, g := range fewGatesOfNoState() {
		for k := range len(valid) + 1 {
			list := slices.Insert(slices.Clone(valid), k, g)
			checkDecomposedList(t, list, expectedDecompositions(list))
		}
		checkDecomposedList(t, []impl.Gate{g, g}, expectedDecompositions([]impl.Gate{g, g}))
		list := slices.Repeat([]impl.Gate{g}, maxGates+1)
		checkDecomposedList(t, list, expectedDecompositions(list))
	}
}

// decomposedLists returns lists on n qubits, some of which have gates that are not valid or are longer than a circuit.
func decomposedLists(n int) [][]impl.Gate {
	lists := append(variedGates(n, 3), nil, []impl.Gate{}, []impl.Gate{{}}, fewGatesOfNoState(), manyGates(n, maxGates), manyGates(n, maxGates+1))
	for _, g := range validGates(n) {
		lists = append(lists, []impl.Gate{g}, []impl.Gate{g, g})
	}
	return lists
}

// TestDecomposedListsAreKept overwrites each result: neither the list nor another result may change with it.
func TestDecomposedListsAreKept(t *testing.T) {
	for n := 1; n <= 4; n++ {
		for _, g := range append(validGates(n), fewGatesOfNoState()...) {
			checkFreshGates(t, "DecomposeGate", func() []impl.Gate { return impl.DecomposeGate(g) })
		}
		for _, before := range decomposedLists(n) {
			list := withMarks(before, unusedGate)
			checkFreshGates(t, "DecomposeGates", func() []impl.Gate { return impl.DecomposeGates(list) })
			for _, g := range list {
				impl.IsBasicGate(g)
			}
			checkMarks(t, "DecomposeGates", list, before, unusedGate)
		}
	}
}

// TestDecompositionsKeepTheirValues: also when the list is overwritten afterwards.
func TestDecompositionsKeepTheirValues(t *testing.T) {
	for n := 1; n <= 4; n++ {
		for _, before := range decomposedLists(n) {
			list := withMarks(before, unusedGate)
			basic := impl.DecomposeGates(list)
			fillWith(list, unusedGate)
			if !slices.Equal(basic, expectedDecompositions(before)) {
				t.Fatalf("the decomposition of %v becomes %v", before, basic)
			}
		}
	}
}

// TestDecompositionsGrowApart: what is appended to one result is not seen in another.
func TestDecompositionsGrowApart(t *testing.T) {
	for n := 1; n <= 4; n++ {
		for _, g := range validGates(n) {
			want := append(expectedDecomposition(g), unusedGate)
			one := append(impl.DecomposeGate(g), unusedGate)
			two := append(impl.DecomposeGate(g), gateOn(impl.GateX))
			three := append(impl.DecomposeGates([]impl.Gate{g}), gateOn(impl.GateY))
			if !slices.Equal(one, want) || two[len(two)-1] != gateOn(impl.GateX) || three[len(three)-1] != gateOn(impl.GateY) {
				t.Fatalf("results of %v share their memory: %v, %v and %v", g, one, two, three)
			}
		}
	}
}

// TestDecomposingPartsOfOneArray: the lists may lie next to each other, or overlap.
func TestDecomposingPartsOfOneArray(t *testing.T) {
	for n := 1; n <= 4; n++ {
		before := manyGates(n, 20)
		array := withMarks(before, unusedGate)
		for from := range len(before) {
			for to := from; to <= len(before); to++ {
				checkDecomposedList(t, array[from:to], expectedDecompositions(before[from:to]))
			}
		}
		checkMarks(t, "DecomposeGates", array, before, unusedGate)
	}
}

// TestDecomposingInAnyOrder expects the same results of every call, whatever was asked in between.
func TestDecomposingInAnyOrder(t *testing.T) {
	gates := slices.Concat(validGates(4), fewGatesOfNoState())
	for range 3 {
		for _, g := range gates {
			checkBasic(t, g, expectedBasic(g))
			checkDecomposed(t, g, expectedDecomposition(g))
		}
		checkDecomposedList(t, gates, expectedDecompositions(gates))
		checkDecomposedList(t, nil, nil)
		slices.Reverse(gates)
	}
}
