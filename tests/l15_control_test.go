package tests

import (
	"math"
	"math/rand/v2"
	"slices"
	"testing"

	"loop.example/g00506/impl"
)

// Promise 15: controlled gates act only if the control is 1.
// Promise 47: every function is total, pure, and does not modify its arguments.

// controlTexts returns what the chapter states for the kinds that can be controlled.
func controlTexts() map[int]string {
	return map[int]string{
		impl.GateX:    "cx q a",
		impl.GateY:    "sd a; cx q a; s a",
		impl.GateZ:    "cz q a",
		impl.GateH:    "sd a; h a; td a; cx q a; t a; h a; s a",
		impl.GateS:    "t q; t a; cx q a; td a; cx q a",
		impl.GateSdg:  "td q; td a; cx q a; t a; cx q a",
		impl.GateCX:   "ccx q a b",
		impl.GateCZ:   "h b; ccx q a b; h b",
		impl.GateSwap: "cx b a; ccx q a b; cx b a",
	}
}

func expectedControlled(q int, g impl.Gate) ([]impl.Gate, bool) {
	text, ok := controlTexts()[g.Kind]
	if !ok || q < 0 || q > 3 || !slices.Contains(validGates(4), g) || slices.Contains(expectedQubits(g), q) {
		return nil, false
	}
	return gatesNamed(text, map[string]int{"q": q, "a": g.A, "b": g.B}), true
}

func expectedControlledList(q int, list []impl.Gate) ([]impl.Gate, bool) {
	var controlled []impl.Gate
	for _, g := range list {
		gates, ok := expectedControlled(q, g)
		if !ok {
			return nil, false
		}
		controlled = append(controlled, gates...)
	}
	return controlled, true
}

// expectedControlledMatrix expects a matrix that leaves bit q alone.
func expectedControlledMatrix(q int, m [][]impl.DOmega) [][]impl.DOmega {
	controlled := cloneMatrix(m)
	for i := range m {
		for k := range m {
			if bitAt(k, q) == 0 {
				controlled[i][k] = impl.DOmega{}
				if i == k {
					controlled[i][k] = domega(1, 0, 0, 0, 0)
				}
			}
		}
	}
	return controlled
}

// controllableGates returns the valid gates on n qubits that qubit q can control.
func controllableGates(q, n int) []impl.Gate {
	var list []impl.Gate
	for _, g := range validGates(n) {
		if _, ok := expectedControlled(q, g); ok {
			list = append(list, g)
		}
	}
	return list
}

// variedControllable returns lists of this length; together they have all gates on four qubits that q can control, in many orders.
func variedControllable(q, length int) [][]impl.Gate {
	var lists [][]impl.Gate
	all := controllableGates(q, 4)
	for k := range all {
		var list []impl.Gate
		for i := range length {
			list = append(list, all[(k+i*(2*k+1))%len(all)])
		}
		lists = append(lists, list)
	}
	return lists
}

// gatesBeside returns all valid gates on n qubits that do not act on qubit q.
func gatesBeside(q, n int) []impl.Gate {
	var list []impl.Gate
	for _, g := range validGates(n) {
		if !slices.Contains(expectedQubits(g), q) {
			list = append(list, g)
		}
	}
	return list
}

// controlsOfNoGate returns integers of all sizes that are no qubit.
func controlsOfNoGate() []int { return append(qubitsOfNoGate(), sizesOfNoState()[1:]...) }

func checkGates(t *testing.T, what string, operands []any, got []impl.Gate, ok bool, want []impl.Gate, accept bool) {
	t.Helper()
	if !accept {
		want = nil
	}
	if !slices.Equal(got, want) || ok != accept {
		t.Fatalf("%s of %v = %v, %v, want %v, %v", what, operands, got, ok, want, accept)
	}
}

// checkControlled asks for the gate, and for the list that has it alone.
func checkControlled(t *testing.T, q int, g impl.Gate, want []impl.Gate, accept bool) {
	t.Helper()
	got, ok := impl.ControlledGate(q, g)
	checkGates(t, "ControlledGate", []any{q, g}, got, ok, want, accept)
	checkControlledList(t, q, []impl.Gate{g}, want, accept)
}

func checkControlledList(t *testing.T, q int, list, want []impl.Gate, accept bool) {
	t.Helper()
	got, ok := impl.ControlledGates(q, list)
	checkGates(t, "ControlledGates", []any{q, list}, got, ok, want, accept)
}

func checkControlledMatrix(t *testing.T, q int, m, want [][]impl.DOmega, accept bool) {
	t.Helper()
	got, ok := impl.ControlledMatrix(q, m)
	checkMatrix(t, "ControlledMatrix", []any{q, m}, got, ok, want, accept)
}

// controlledList is a list that can be controlled.
func controlledList(t *testing.T, q int, list []impl.Gate) []impl.Gate {
	t.Helper()
	controlled, ok := impl.ControlledGates(q, list)
	if !ok {
		t.Fatalf("ControlledGates(%d, %v) fails", q, list)
	}
	return controlled
}

// controlledMatrix is a matrix that can be controlled.
func controlledMatrix(t *testing.T, q int, m [][]impl.DOmega) [][]impl.DOmega {
	t.Helper()
	controlled, ok := impl.ControlledMatrix(q, m)
	if !ok {
		t.Fatalf("ControlledMatrix(%d, %v) fails", q, m)
	}
	return controlled
}

func TestControlledGate(t *testing.T) {
	cases := []struct {
		q       int
		g, want string
	}{
		{0, "x 1", "cx 0 1"},
		{3, "x 0", "cx 3 0"},
		{0, "y 1", "sd 1;cx 0 1;s 1"},
		{2, "y 0", "sd 0;cx 2 0;s 0"},
		{0, "z 1", "cz 0 1"},
		{3, "z 2", "cz 3 2"},
		{0, "h 1", "sd 1;h 1;td 1;cx 0 1;t 1;h 1;s 1"},
		{1, "h 3", "sd 3;h 3;td 3;cx 1 3;t 3;h 3;s 3"},
		{0, "s 1", "t 0;t 1;cx 0 1;td 1;cx 0 1"},
		{3, "s 0", "t 3;t 0;cx 3 0;td 0;cx 3 0"},
		{0, "sd 1", "td 0;td 1;cx 0 1;t 1;cx 0 1"},
		{2, "sd 1", "td 2;td 1;cx 2 1;t 1;cx 2 1"},
		{2, "cx 0 1", "ccx 2 0 1"},
		{0, "cx 2 1", "ccx 0 2 1"},
		{2, "cz 0 1", "h 1;ccx 2 0 1;h 1"},
		{1, "cz 3 0", "h 0;ccx 1 3 0;h 0"},
		{2, "swap 0 1", "cx 1 0;ccx 2 0 1;cx 1 0"},
		{0, "swap 3 1", "cx 1 3;ccx 0 3 1;cx 1 3"},
	}
	for _, c := range cases {
		checkControlled(t, c.q, gatesIn(c.g)[0], gatesIn(c.want), true)
	}
}

// TestControlledGatesOfAllKinds has each choice of distinct qubits, and those that are not.
func TestControlledGatesOfAllKinds(t *testing.T) {
	accepted, refused := map[int]int{}, map[int]int{}
	for _, g := range validGates(4) {
		for q := -1; q <= 5; q++ {
			want, accept := expectedControlled(q, g)
			checkControlled(t, q, g, want, accept)
			if accept {
				accepted[g.Kind]++
			} else {
				refused[g.Kind]++
			}
		}
	}
	for kind, k := range gateKinds() {
		// The qubits and the control are different ones of four.
		choices := []int{0, 4 * 3, 4 * 3 * 2, 0}[k.arity]
		if kind == impl.GateT || kind == impl.GateTdg {
			choices = 0
		}
		if accepted[kind] != choices || k.arity > 0 && refused[kind] == 0 {
			t.Errorf("of kind %d %d are accepted and %d refused", kind, accepted[kind], refused[kind])
		}
	}
}

// TestControlledGatesAreValid: they act on the control and the qubits of the gate, and on nothing else.
func TestControlledGatesAreValid(t *testing.T) {
	for q := range 4 {
		for _, g := range controllableGates(q, 4) {
			list := controlledList(t, q, []impl.Gate{g})
			checkValidCircuit(t, circuitOf(4, list...), true)
			var qubits []int
			for _, h := range list {
				qubits = append(qubits, expectedQubits(h)...)
			}
			slices.Sort(qubits)
			want := append(expectedQubits(g), q)
			slices.Sort(want)
			if !slices.Equal(slices.Compact(qubits), want) {
				t.Errorf("%v with the control %d acts on %v", g, q, qubits)
			}
		}
	}
}

// TestControlledGatesActOnlyIfTheControlIsOne goes through the basis states, the phase included.
func TestControlledGatesActOnlyIfTheControlIsOne(t *testing.T) {
	for q := range 4 {
		for _, g := range controllableGates(q, 4) {
			list := controlledList(t, q, []impl.Gate{g})
			for i := range 16 {
				want := impl.BasisState(4, i)
				if bitAt(i, q) == 1 {
					want = expectedOfBasis(g, 4, i)
				}
				checkGatesApplied(t, list, impl.BasisState(4, i), want, true)
				// This does not use how impl applies gates.
				if got, ok := expectedGates(list, impl.BasisState(4, i)); !ok || !slices.Equal(got, want) {
					t.Fatalf("%v with the control %d makes %v of the basis state %d", g, q, got, i)
				}
			}
		}
	}
}

// TestMatricesOfControlledGates also computes them on no more qubits than there have to be.
func TestMatricesOfControlledGates(t *testing.T) {
	for n := 2; n <= 4; n++ {
		for q := range n {
			for _, g := range controllableGates(q, n) {
				m := expectedGateMatrix(g, n)
				want := expectedControlledMatrix(q, m)
				c := circuitOf(n, controlledList(t, q, []impl.Gate{g})...)
				checkCircuitMatrix(t, c, want, true)
				checkControlledMatrix(t, q, m, want, true)
				if got, ok := impl.GateMatrix(g, n); !ok || !sameMatrix(controlledMatrix(t, q, got), want) {
					t.Errorf("the matrix of %v with the control %d is not the controlled one", g, q)
				}
				if phase, ok := impl.GlobalPhase(matrixOfCircuit(t, c), want); !ok || phase != 0 {
					t.Errorf("%v with the control %d has the phase %d, %v", g, q, phase, ok)
				}
			}
		}
	}
}

// TestControlledGatesAtManyStates: half of the amplitudes stay as they are, whatever they are.
func TestControlledGatesAtManyStates(t *testing.T) {
	for q := range 4 {
		for _, g := range controllableGates(q, 4) {
			list := controlledList(t, q, []impl.Gate{g})
			for _, v := range statesFrom(append(eightPhases(), realIntegers(1, 2, 3, 4, 5, 6, 7, 8)...), 4) {
				acted, ok := expectedGate(g, v)
				if !ok {
					t.Fatalf("this test expects %v to fail at %v", g, v)
				}
				want := slices.Clone(v)
				for i := range v {
					if bitAt(i, q) == 1 {
						want[i] = acted[i]
					}
				}
				checkGatesApplied(t, list, v, want, true)
			}
		}
	}
}

// TestTwoControls: those of one X are the controls of a CCX, and their order does not matter.
func TestTwoControls(t *testing.T) {
	for _, p := range permutationsOf(4) {
		named := map[string]int{"p": p[1], "q": p[0], "a": p[2]}
		cases := []struct {
			kind int
			want string
		}{
			{impl.GateX, "ccx p q a"},
			{impl.GateZ, "h a; ccx p q a; h a"},
			{impl.GateY, "td p; td a; cx p a; t a; cx p a; ccx p q a; t p; t a; cx p a; td a; cx p a"},
		}
		for _, c := range cases {
			g := gateOn(c.kind, p[2])
			list := controlledList(t, p[0], []impl.Gate{g})
			checkControlledList(t, p[1], list, gatesNamed(c.want, named), true)
			want := expectedControlledMatrix(p[0], expectedControlledMatrix(p[1], expectedGateMatrix(g, 4)))
			checkCircuitMatrix(t, circuitOf(4, controlledList(t, p[1], list)...), want, true)
			// A third control there is not.
			checkControlledList(t, p[3], controlledList(t, p[1], list), nil, false)
		}
	}
}

func TestControlledInverses(t *testing.T) {
	for q := range 4 {
		for _, list := range variedControllable(q, 3) {
			inverse := expectedInverse(circuitOf(4, list...)).Gates
			both := slices.Concat(controlledList(t, q, list), controlledList(t, q, inverse))
			checkCircuitMatrix(t, circuitOf(4, both...), impl.IdentityMatrix(4), true)
		}
	}
}

func TestGatesThatCannotBeControlled(t *testing.T) {
	cases := []struct {
		q int
		g impl.Gate
	}{
		// There are no gates for these.
		{1, gateOn(impl.GateT, 0)}, {0, gateOn(impl.GateT, 3)}, {2, gateOn(impl.GateTdg, 1)}, {3, gateOn(impl.GateCCX, 0, 1, 2)}, {0, gateOn(impl.GateCCX, 3, 1, 2)},
		// The gate acts on the control.
		{0, gateOn(impl.GateX, 0)}, {3, gateOn(impl.GateZ, 3)}, {0, gateOn(impl.GateCX, 0, 1)}, {1, gateOn(impl.GateCX, 0, 1)}, {2, gateOn(impl.GateSwap, 3, 2)}, {1, gateOn(impl.GateCCX, 0, 2, 1)},
		// The control is no qubit.
		{-1, gateOn(impl.GateX, 0)}, {4, gateOn(impl.GateX, 0)}, {5, gateOn(impl.GateCX, 0, 1)}, {math.MinInt, gateOn(impl.GateH, 3)}, {math.MaxInt, gateOn(impl.GateSwap, 1, 2)},
		// No kind.
		{1, impl.Gate{}}, {0, impl.Gate{Kind: -1, A: 1}}, {0, impl.Gate{Kind: 13, A: 1, B: 2, C: 3}}, {0, impl.Gate{Kind: math.MinInt}}, {0, impl.Gate{Kind: math.MaxInt, A: 1}},
		// Equal qubits.
		{2, impl.Gate{Kind: impl.GateCX}}, {0, impl.Gate{Kind: impl.GateSwap, A: 1, B: 1}}, {3, impl.Gate{Kind: impl.GateCCX, A: 1, B: 2, C: 1}},
		// Qubits that are negative or not below MaxQubits.
		{0, impl.Gate{Kind: impl.GateX, A: -1}}, {0, impl.Gate{Kind: impl.GateX, A: 4}}, {0, impl.Gate{Kind: impl.GateCZ, A: 1, B: 4}}, {0, impl.Gate{Kind: impl.GateCX, A: math.MinInt, B: 1}}, {0, impl.Gate{Kind: impl.GateCX, A: 1, B: math.MaxInt}},
		// Unused qubits that are not 0.
		{0, impl.Gate{Kind: impl.GateX, A: 1, B: 2}}, {0, impl.Gate{Kind: impl.GateX, A: 1, C: 3}}, {0, impl.Gate{Kind: impl.GateS, A: 1, B: -1}}, {0, impl.Gate{Kind: impl.GateCX, A: 1, B: 2, C: 3}}, {3, impl.Gate{Kind: impl.GateSwap, A: 1, B: 2, C: 1}},
	}
	for _, c := range cases {
		checkControlled(t, c.q, c.g, nil, false)
	}
}

func TestControlsThatAreNoQubits(t *testing.T) {
	for _, q := range controlsOfNoGate() {
		for _, g := range slices.Concat(validGates(4), fewGatesOfNoState()) {
			checkControlled(t, q, g, nil, false)
		}
	}
}

func TestControlsOfGatesThatAreNotValid(t *testing.T) {
	gates := slices.Concat(gatesOfNoState(4), fewGatesOfNoState())
	for _, kind := range kindsOfNoGate() {
		for _, qubits := range slicesOf(3, []int{-1, 0, 1, 3, 4}) {
			gates = append(gates, gateOn(kind, qubits...))
		}
	}
	for k, g := range gates {
		checkControlled(t, k%4, g, nil, false)
		checkControlled(t, (k+2)%4, g, nil, false)
		checkControlled(t, k%6-1, g, nil, false)
	}
}

func TestControlledGates(t *testing.T) {
	cases := []struct {
		q          int
		list, want string
	}{
		{0, "", ""},
		{3, "", ""},
		{2, "x 0", "cx 2 0"},
		{2, "x 0;x 0", "cx 2 0;cx 2 0"},
		{2, "x 0;s 1", "cx 2 0;t 2;t 1;cx 2 1;td 1;cx 2 1"},
		{2, "s 1;x 0", "t 2;t 1;cx 2 1;td 1;cx 2 1;cx 2 0"},
		// Nothing cancels.
		{0, "s 1;sd 1", "t 0;t 1;cx 0 1;td 1;cx 0 1;td 0;td 1;cx 0 1;t 1;cx 0 1"},
		{1, "cz 0 2;cz 0 2", "h 2;ccx 1 0 2;h 2;h 2;ccx 1 0 2;h 2"},
		{0, "swap 1 2;swap 2 1", "cx 2 1;ccx 0 1 2;cx 2 1;cx 1 2;ccx 0 2 1;cx 1 2"},
		// All kinds, in order.
		{
			3, "x 0;y 1;z 2;h 0;s 1;sd 2;cx 0 1;cz 1 2;swap 2 0",
			"cx 3 0;sd 1;cx 3 1;s 1;cz 3 2;sd 0;h 0;td 0;cx 3 0;t 0;h 0;s 0;t 3;t 1;cx 3 1;td 1;cx 3 1;td 3;td 2;cx 3 2;t 2;cx 3 2;ccx 3 0 1;h 2;ccx 3 1 2;h 2;cx 0 2;ccx 3 2 0;cx 0 2",
		},
		{
			0, "swap 2 3;cz 1 2;cx 3 1;sd 2;s 1;h 3;z 2;y 1;x 3",
			"cx 3 2;ccx 0 2 3;cx 3 2;h 2;ccx 0 1 2;h 2;ccx 0 3 1;td 0;td 2;cx 0 2;t 2;cx 0 2;t 0;t 1;cx 0 1;td 1;cx 0 1;sd 3;h 3;td 3;cx 0 3;t 3;h 3;s 3;cz 0 2;sd 1;cx 0 1;s 1;cx 0 3",
		},
	}
	for _, c := range cases {
		checkControlledList(t, c.q, gatesIn(c.list), gatesIn(c.want), true)
	}
}

// TestControllingNoGates: where there is no gate none fails, whatever the control is.
func TestControllingNoGates(t *testing.T) {
	for _, q := range append(controlsOfNoGate(), 0, 1, 2, 3) {
		for _, list := range [][]impl.Gate{nil, {}, make([]impl.Gate, 0, 10), validGates(4)[:0]} {
			checkControlledList(t, q, list, nil, true)
		}
	}
}

func TestControllingManyLists(t *testing.T) {
	for q := range 4 {
		for _, length := range []int{2, 3, 5} {
			for k, list := range variedControllable(q, length) {
				want, ok := expectedControlledList(q, list)
				checkControlledList(t, q, list, want, ok)
				cut := k % (length + 1)
				parts := slices.Concat(controlledList(t, q, list[:cut]), controlledList(t, q, list[cut:]))
				checkControlledList(t, q, list, parts, true)
				// The same list with a control on which some of its gates may act.
				for other := range 4 {
					want, ok := expectedControlledList(other, list)
					checkControlledList(t, other, list, want, ok)
				}
			}
		}
		for _, list := range append(variedGates(4, 2), variedGates(4, 3)...) {
			want, ok := expectedControlledList(q, list)
			checkControlledList(t, q, list, want, ok)
		}
	}
}

// TestOperationsOfControlledLists compares the matrices, the phase included.
func TestOperationsOfControlledLists(t *testing.T) {
	for q := range 4 {
		for _, list := range append(variedControllable(q, 2), variedControllable(q, 5)...) {
			m := expectedCircuitMatrix(t, circuitOf(4, list...))
			want := expectedControlledMatrix(q, m)
			checkControlledMatrix(t, q, m, want, true)
			checkCircuitMatrix(t, circuitOf(4, controlledList(t, q, list)...), want, true)
		}
	}
}

// TestControllingLongLists: neither the list nor the result has to be short enough for a circuit.
func TestControllingLongLists(t *testing.T) {
	for q := range 4 {
		all := controllableGates(q, 4)
		for _, length := range []int{4, 8, maxGates, maxGates + 1, 2 * maxGates, 256 + 1, 1000} {
			list := slices.Repeat(all, length/len(all)+1)[:length]
			want, ok := expectedControlledList(q, list)
			checkControlledList(t, q, list, want, ok)
			for _, k := range []int{0, length / 2, length - 1} {
				for _, g := range []impl.Gate{gateOn(impl.GateT, (q+1)%4), gateOn(impl.GateX, q), {}} {
					checkControlledList(t, q, slices.Replace(slices.Clone(list), k, k+1, g), nil, false)
				}
			}
		}
	}
}

// TestListsThatCannotBeControlled puts each gate first, in the middle and last.
func TestListsThatCannotBeControlled(t *testing.T) {
	for q := range 4 {
		valid := controllableGates(q, 4)[:6]
		bad := fewGatesOfNoState()
		for _, g := range validGates(4) {
			if _, ok := expectedControlled(q, g); !ok {
				bad = append(bad, g)
			}
		}
		for _, g := range bad {
			for k := range len(valid) + 1 {
				checkControlledList(t, q, slices.Insert(slices.Clone(valid), k, g), nil, false)
			}
			checkControlledList(t, q, []impl.Gate{g, g}, nil, false)
		}
		for _, other := range append(controlsOfNoGate(), -1, 4) {
			checkControlledList(t, other, valid, nil, false)
		}
	}
}

// keepingMatrices returns the matrices without the amplitudes that would change bit q. Most of them are not unitary.
func keepingMatrices(q int, matrices [][][]impl.DOmega) [][][]impl.DOmega {
	var list [][][]impl.DOmega
	for _, m := range matrices {
		kept := cloneMatrix(m)
		for i := range m {
			for k := range m {
				if bitAt(i, q) != bitAt(k, q) {
					kept[i][k] = impl.DOmega{}
				}
			}
		}
		list = append(list, kept)
	}
	return list
}

func TestControlledMatrix(t *testing.T) {
	half, phases := domega(1, 0, 0, 0, 1), eightPhases()
	var zero impl.DOmega
	two := domega(2, 0, 0, 0, 0)
	cases := []struct {
		q       int
		m, want [][]impl.DOmega
	}{
		{0, diagonalOf(phases[3], phases[5]), diagonalOf(phases[0], phases[5])},
		{0, diagonalOf(zero, zero), diagonalOf(phases[0], zero)},
		{0, diagonalOf(two, half), diagonalOf(phases[0], half)},
		{0, diagonalOf(phases[1], phases[2], phases[3], phases[4]), diagonalOf(phases[0], phases[2], phases[0], phases[4])},
		{1, diagonalOf(phases[1], phases[2], phases[3], phases[4]), diagonalOf(phases[0], phases[0], phases[3], phases[4])},
		// X on qubit 1 becomes a CX from qubit 0, and X on qubit 0 one from qubit 1.
		{0, permutationOf(2, 3, 0, 1), permutationOf(0, 3, 2, 1)},
		{1, permutationOf(1, 0, 3, 2), permutationOf(0, 1, 3, 2)},
		// A CX becomes a CCX.
		{2, permutationOf(0, 3, 2, 1, 4, 7, 6, 5), permutationOf(0, 1, 2, 3, 4, 7, 6, 5)},
		// H on qubit 1, and H on qubit 0.
		{
			0, matrixOf(4, half, zero, half, zero, zero, half, zero, half, half, zero, domega(-1, 0, 0, 0, 1), zero, zero, half, zero, domega(-1, 0, 0, 0, 1)),
			matrixOf(4, phases[0], zero, zero, zero, zero, half, zero, half, zero, zero, phases[0], zero, zero, half, zero, domega(-1, 0, 0, 0, 1)),
		},
		{
			1, matrixOf(4, half, half, zero, zero, half, domega(-1, 0, 0, 0, 1), zero, zero, zero, zero, half, half, zero, zero, half, domega(-1, 0, 0, 0, 1)),
			matrixOf(4, phases[0], zero, zero, zero, zero, phases[0], zero, zero, zero, zero, half, half, zero, zero, half, domega(-1, 0, 0, 0, 1)),
		},
		// What is not unitary, and not symmetric.
		{
			0, matrixOf(4, realIntegers(1, 0, 2, 0, 0, 3, 0, 4, 5, 0, 6, 0, 0, 7, 0, 8)...),
			matrixOf(4, realIntegers(1, 0, 0, 0, 0, 3, 0, 4, 0, 0, 1, 0, 0, 7, 0, 8)...),
		},
		{
			1, matrixOf(4, realIntegers(1, 2, 0, 0, 3, 4, 0, 0, 0, 0, 5, 6, 0, 0, 7, 8)...),
			matrixOf(4, realIntegers(1, 0, 0, 0, 0, 1, 0, 0, 0, 0, 5, 6, 0, 0, 7, 8)...),
		},
	}
	for _, c := range cases {
		checkControlledMatrix(t, c.q, c.m, c.want, true)
	}
}

func TestControlledIdentities(t *testing.T) {
	for n := 1; n <= 4; n++ {
		for q := range n {
			checkControlledMatrix(t, q, impl.IdentityMatrix(n), impl.IdentityMatrix(n), true)
			// A phase of the whole is one of the half in which the control is 1.
			for _, x := range append(eightPhases(), impl.DOmega{}, domega(0, 0, 0, 1, 60), domega(maxC, 0, 0, -maxC, 0)) {
				m := diagonalOf(sameAmplitudes(1<<n, x)...)
				checkControlledMatrix(t, q, m, expectedControlledMatrix(q, m), true)
			}
		}
	}
}

func TestControlledMatricesOfGates(t *testing.T) {
	for n := 1; n <= 4; n++ {
		for q := range n {
			for _, g := range gatesBeside(q, n) {
				m := expectedGateMatrix(g, n)
				checkControlledMatrix(t, q, m, expectedControlledMatrix(q, m), true)
			}
		}
	}
}

// TestControlledMatricesOfDiagonalGates: they leave the qubits alone on which they act, and the controls of others too.
func TestControlledMatricesOfDiagonalGates(t *testing.T) {
	for n := 1; n <= 4; n++ {
		for q := range n {
			for _, g := range validGates(n) {
				m := expectedGateMatrix(g, n)
				accept := true
				for i := range m {
					for k := range m {
						if bitAt(i, q) != bitAt(k, q) && m[i][k] != (impl.DOmega{}) {
							accept = false
						}
					}
				}
				keeps := []int{impl.GateZ, impl.GateS, impl.GateSdg, impl.GateT, impl.GateTdg, impl.GateCZ}
				isControl := g.Kind == impl.GateCX && g.A == q || g.Kind == impl.GateCCX && g.C != q
				if want := slices.Contains(keeps, g.Kind) || isControl || !slices.Contains(expectedQubits(g), q); accept != want {
					t.Fatalf("this test expects that %v changes qubit %d: %v", g, q, !want)
				}
				checkControlledMatrix(t, q, m, expectedControlledMatrix(q, m), accept)
			}
		}
	}
}

func TestControlledMatricesOfCircuits(t *testing.T) {
	for n := 2; n <= 4; n++ {
		for q := range n {
			all := gatesBeside(q, n)
			for k := range all {
				var list []impl.Gate
				for i := range 6 {
					list = append(list, all[(k*5+i*7+k*i)%len(all)])
				}
				m := matrixOfCircuit(t, circuitOf(n, list...))
				want := expectedControlledMatrix(q, m)
				checkControlledMatrix(t, q, m, want, true)
				checkUnitary(t, want, true)
			}
		}
	}
}

func TestControlledMatricesOfManyMatrices(t *testing.T) {
	for n := 1; n <= 4; n++ {
		all := append(someMatrices(t, n), smallMatrices(t, n)...)
		for q := range n {
			for _, m := range keepingMatrices(q, all) {
				want := expectedControlledMatrix(q, m)
				checkControlledMatrix(t, q, m, want, true)
				// What is controlled already stays.
				checkControlledMatrix(t, q, want, want, true)
			}
		}
	}
}

// TestColumnsOfControlledMatrices applies them to the basis states.
func TestColumnsOfControlledMatrices(t *testing.T) {
	for n := 1; n <= 4; n++ {
		all := append(someMatrices(t, n), smallMatrices(t, n)...)
		for q := range n {
			for _, m := range keepingMatrices(q, all) {
				controlled := controlledMatrix(t, q, m)
				for i := range m {
					want := impl.BasisState(n, i)
					if bitAt(i, q) == 1 {
						want = columnOf(m, i)
					}
					checkApplied(t, controlled, impl.BasisState(n, i), want, true)
				}
			}
		}
	}
}

// TestMatricesWithTwoControls: the order of the controls does not matter.
func TestMatricesWithTwoControls(t *testing.T) {
	for n := 2; n <= 4; n++ {
		for _, p := range permutationsOf(n) {
			for _, g := range gatesBeside(p[0], n) {
				if slices.Contains(expectedQubits(g), p[1]) {
					continue
				}
				m := expectedGateMatrix(g, n)
				want := expectedControlledMatrix(p[0], expectedControlledMatrix(p[1], m))
				checkControlledMatrix(t, p[0], controlledMatrix(t, p[1], m), want, true)
				checkControlledMatrix(t, p[1], controlledMatrix(t, p[0], m), want, true)
				if g.Kind == impl.GateX && !sameMatrix(want, expectedGateMatrix(gateOn(impl.GateCCX, p[0], p[1], g.A), n)) {
					t.Errorf("%v with the controls %v is no CCX", g, p[:2])
				}
			}
		}
	}
}

func TestControlledMatricesOfProducts(t *testing.T) {
	for n := 1; n <= 4; n++ {
		all := smallMatrices(t, n)
		for q := range n {
			list := keepingMatrices(q, all)
			for i, a := range list {
				b := list[(i*3+1)%len(list)]
				product, ok := expectedMultiplied(a, b)
				if !ok {
					t.Fatalf("the product of %v and %v fails", a, b)
				}
				checkMultiplied(t, controlledMatrix(t, q, a), controlledMatrix(t, q, b), controlledMatrix(t, q, product), true)
				checkAdjoint(t, controlledMatrix(t, q, a), controlledMatrix(t, q, expectedAdjoint(a)))
			}
		}
	}
}

func TestControlsThatAMatrixDoesNotHave(t *testing.T) {
	for n := 1; n <= 4; n++ {
		for _, m := range append(someMatrices(t, n), impl.IdentityMatrix(n)) {
			for _, q := range controlsOfNoGate() {
				checkControlledMatrix(t, q, m, nil, false)
			}
			for q := n; q < 70; q++ {
				checkControlledMatrix(t, q, m, nil, false)
				checkControlledMatrix(t, n-1-q, m, nil, false)
			}
		}
	}
}

func TestControlsOfInvalidMatrices(t *testing.T) {
	for _, m := range invalidMatrices() {
		for _, q := range []int{0, 1, 2, 3, 4, -1, math.MinInt, math.MaxInt} {
			checkControlledMatrix(t, q, m, nil, false)
		}
	}
	for n := 1; n <= 4; n++ {
		for i := range 1 << n {
			for k := range 1 << n {
				for _, x := range amplitudesOfNoState() {
					m := changedAt(impl.IdentityMatrix(n), i, k, x)
					for q := range n {
						checkControlledMatrix(t, q, m, nil, false)
					}
				}
			}
		}
	}
}

// TestMatricesThatChangeTheControl has one non-zero amplitude where bit q of the row and of the column differ.
func TestMatricesThatChangeTheControl(t *testing.T) {
	amplitudes := []impl.DOmega{domega(1, 0, 0, 0, 0), domega(0, -1, 0, 0, 0), domega(0, 0, 2, 0, 0), domega(0, 0, 0, 1, 0), domega(0, 0, 0, -1, 60), domega(-maxC, 0, 0, 0, 0), domega(1, 1, 0, 1, 1)}
	for n := 1; n <= 4; n++ {
		for i := range 1 << n {
			for k := range 1 << n {
				x := amplitudes[(i*3+k)%len(amplitudes)]
				for _, m := range [][][]impl.DOmega{squareOf(1<<n, impl.DOmega{}), impl.IdentityMatrix(n), diagonalOf(sameAmplitudes(1<<n, domega(0, 1, 0, 0, 1))...)} {
					changed := changedAt(m, i, k, x)
					for q := range n {
						checkControlledMatrix(t, q, changed, expectedControlledMatrix(q, changed), bitAt(i, q) == bitAt(k, q))
					}
				}
			}
		}
	}
}

// TestFullMatrices have non-zero amplitudes everywhere, or nowhere but where the control changes.
func TestFullMatrices(t *testing.T) {
	for n := 1; n <= 4; n++ {
		for q := range n {
			checkControlledMatrix(t, q, squareOf(1<<n, domega(1, 0, 0, 0, 2)), nil, false)
			others := squareOf(1<<n, domega(1, 0, 0, 0, 2))
			for i := range others {
				for k := range others {
					if bitAt(i, q) == bitAt(k, q) {
						others[i][k] = impl.DOmega{}
					}
				}
			}
			checkControlledMatrix(t, q, others, nil, false)
		}
	}
}

// controlledLists returns lists, some of which cannot be controlled.
func controlledLists(q int) [][]impl.Gate {
	lists := append(variedControllable(q, 1), nil, []impl.Gate{}, []impl.Gate{{}}, fewGatesOfNoState(), manyGates(4, maxGates))
	for _, list := range variedControllable(q, 4) {
		lists = append(lists, list, append(slices.Clone(list), gateOn(impl.GateX, q)), append([]impl.Gate{gateOn(impl.GateT)}, list...))
	}
	return lists
}

func firstList(list []impl.Gate, _ bool) []impl.Gate { return list }

// TestControlledListsAreKept overwrites each result: neither the list nor another result may change with it.
func TestControlledListsAreKept(t *testing.T) {
	for q := range 4 {
		for _, g := range append(validGates(4), fewGatesOfNoState()...) {
			checkFreshGates(t, "ControlledGate", func() []impl.Gate { return firstList(impl.ControlledGate(q, g)) })
		}
		for _, before := range controlledLists(q) {
			list := withMarks(before, unusedGate)
			checkFreshGates(t, "ControlledGates", func() []impl.Gate { return firstList(impl.ControlledGates(q, list)) })
			checkMarks(t, "ControlledGates", list, before, unusedGate)
		}
	}
}

// TestControlledListsKeepTheirValues: also when the list is overwritten afterwards.
func TestControlledListsKeepTheirValues(t *testing.T) {
	for q := range 4 {
		for _, before := range controlledLists(q) {
			list := withMarks(before, unusedGate)
			controlled, ok := impl.ControlledGates(q, list)
			fillWith(list, unusedGate)
			want, accept := expectedControlledList(q, before)
			checkGates(t, "ControlledGates, once the list was overwritten,", []any{q, before}, controlled, ok, want, accept)
		}
	}
}

// TestControlledListsGrowApart: what is appended to one result is not seen in another.
func TestControlledListsGrowApart(t *testing.T) {
	for q := range 4 {
		for _, g := range controllableGates(q, 4) {
			want, _ := expectedControlled(q, g)
			one := append(firstList(impl.ControlledGate(q, g)), unusedGate)
			two := append(firstList(impl.ControlledGate(q, g)), gateOn(impl.GateX))
			three := append(firstList(impl.ControlledGates(q, []impl.Gate{g})), gateOn(impl.GateY))
			if !slices.Equal(one, append(want, unusedGate)) || two[len(two)-1] != gateOn(impl.GateX) || three[len(three)-1] != gateOn(impl.GateY) {
				t.Fatalf("results of %v share their memory: %v, %v and %v", g, one, two, three)
			}
		}
	}
}

// TestControlledMatricesAreKept overwrites each result: neither the matrix nor another result may change with it.
func TestControlledMatricesAreKept(t *testing.T) {
	for n := 1; n <= 4; n++ {
		all := someMatrices(t, n)
		for q := range n {
			for _, before := range slices.Concat(keepingMatrices(q, all), all, invalidMatrices()[:20]) {
				m := roomyMatrix(before)
				checkFreshMatrices(t, "ControlledMatrix", func() [][]impl.DOmega { return firstMatrix(impl.ControlledMatrix(q, m)) })
				impl.ControlledMatrix(-1, m)
				impl.ControlledMatrix(n, m)
				checkMatrixUntouched(t, "ControlledMatrix", m, before)
			}
		}
	}
}

// TestControlledMatricesKeepTheirValues: also when the matrix is overwritten afterwards.
func TestControlledMatricesKeepTheirValues(t *testing.T) {
	for n := 1; n <= 4; n++ {
		all := append(someMatrices(t, n), smallMatrices(t, n)...)
		for q := range n {
			for _, before := range keepingMatrices(q, all) {
				m := roomyMatrix(before)
				controlled := controlledMatrix(t, q, m)
				overwriteMatrix(m)
				if !sameMatrix(controlled, expectedControlledMatrix(q, before)) {
					t.Fatalf("the controlled matrix of %v becomes %v", before, controlled)
				}
			}
		}
	}
}

// TestControlledRowsThatShareMemory: a matrix may hold one slice as several rows.
func TestControlledRowsThatShareMemory(t *testing.T) {
	for n := 1; n <= 4; n++ {
		row := withUnusedCapacity(make([]impl.DOmega, 1<<n))
		m := slices.Repeat([][]impl.DOmega{row}, 1<<n)
		for q := range n {
			want := expectedControlledMatrix(q, squareOf(1<<n, impl.DOmega{}))
			checkControlledMatrix(t, q, m, want, true)
			checkFreshMatrices(t, "ControlledMatrix", func() [][]impl.DOmega { return firstMatrix(impl.ControlledMatrix(q, m)) })
		}
		checkUntouched(t, "ControlledMatrix", row, make([]impl.DOmega, 1<<n))
	}
}

// TestControllingPartsOfOneArray: the lists may lie next to each other, or overlap.
func TestControllingPartsOfOneArray(t *testing.T) {
	for q := range 4 {
		before := controllableGates(q, 4)[:20]
		array := withMarks(before, unusedGate)
		for from := range len(before) {
			for to := from; to <= len(before); to++ {
				want, ok := expectedControlledList(q, before[from:to])
				checkControlledList(t, q, array[from:to], want, ok)
			}
		}
		checkMarks(t, "ControlledGates", array, before, unusedGate)
	}
}

// TestControllingInAnyOrder expects the same results of every call, whatever was asked in between.
func TestControllingInAnyOrder(t *testing.T) {
	type question struct {
		q int
		g impl.Gate
	}
	var questions []question
	for q := -1; q <= 4; q++ {
		for _, g := range append(validGates(4), fewGatesOfNoState()...) {
			questions = append(questions, question{q, g})
		}
	}
	source := rand.New(rand.NewPCG(15, 15))
	for range 3 {
		for _, x := range questions {
			want, ok := expectedControlled(x.q, x.g)
			checkControlled(t, x.q, x.g, want, ok)
		}
		checkControlledMatrix(t, 0, impl.IdentityMatrix(2), impl.IdentityMatrix(2), true)
		source.Shuffle(len(questions), func(i, j int) { questions[i], questions[j] = questions[j], questions[i] })
	}
}
