package tests

import (
	"slices"
	"testing"

	"loop.example/g00506/impl"
)

// Promise 11: a circuit and its inverse cancel.
// Promise 47: every function is total, pure, and does not modify its arguments.

const maxGates = 60

func circuitOf(n int, gates ...impl.Gate) impl.Circuit { return impl.Circuit{N: n, Gates: gates} }

// emptyCircuits returns circuits on n qubits with no gate; one of them has gates in its unused capacity.
func emptyCircuits(n int) []impl.Circuit {
	return []impl.Circuit{{N: n}, {N: n, Gates: []impl.Gate{}}, {N: n, Gates: make([]impl.Gate, 0, 4)}, {N: n, Gates: validGates(4)[:0]}}
}

// manyGates returns a list of this length; it goes through all valid gates on n qubits again and again.
func manyGates(n, length int) []impl.Gate {
	var list []impl.Gate
	for all := validGates(n); len(list) < length; {
		list = append(list, all...)
	}
	return list[:length:length]
}

// shortCircuits returns valid circuits on n qubits with at most a few gates, also one gate of every kind on every choice of qubits.
func shortCircuits(n int) []impl.Circuit {
	list := emptyCircuits(n)
	for _, g := range validGates(n) {
		list = append(list, circuitOf(n, g))
	}
	for _, length := range []int{2, 3, 5} {
		for _, gates := range variedGates(n, length) {
			list = append(list, circuitOf(n, gates...))
		}
	}
	return list
}

// longCircuits returns valid circuits on n qubits with up to as many gates as there may be.
func longCircuits(n int) []impl.Circuit {
	list := []impl.Circuit{circuitOf(n, manyGates(n, maxGates)...), circuitOf(n, slices.Repeat([]impl.Gate{gateOn(impl.GateT, n-1)}, maxGates)...)}
	for _, length := range []int{20, 30, 31, 59, maxGates} {
		lists := variedGates(n, length)
		list = append(list, circuitOf(n, lists[0]...), circuitOf(n, lists[len(lists)-1]...))
	}
	return list
}

func someCircuits(n int) []impl.Circuit { return append(shortCircuits(n), longCircuits(n)...) }

// gatesOfMoreQubits returns gates that are valid on four qubits but not on n, if n is less.
func gatesOfMoreQubits(n int) []impl.Gate {
	var list []impl.Gate
	for _, g := range validGates(4) {
		if !slices.Contains(validGates(n), g) {
			list = append(list, g)
		}
	}
	return list
}

// invalidCircuits returns circuits with a number of qubits that is none, with the first, a middle or the last gate not valid, or with too many gates.
func invalidCircuits() []impl.Circuit {
	var list []impl.Circuit
	for _, n := range sizesOfNoState() {
		list = append(list, emptyCircuits(n)...)
		list = append(list, circuitOf(n, gateOn(impl.GateH)), circuitOf(n, gateOn(impl.GateX), gateOn(impl.GateCX, 0, 1)), circuitOf(n, impl.Gate{}))
	}
	for n := 1; n <= 4; n++ {
		valid := []impl.Gate{gateOn(impl.GateH), gateOn(impl.GateT, n-1), gateOn(impl.GateS), gateOn(impl.GateX, n-1)}
		for _, g := range append(fewGatesOfNoState(), gatesOfMoreQubits(n)...) {
			list = append(list, circuitOf(n, g), circuitOf(n, g, g))
			for k := range len(valid) + 1 {
				list = append(list, circuitOf(n, slices.Insert(slices.Clone(valid), k, g)...))
			}
			list = append(list, circuitOf(n, append(manyGates(n, maxGates-1), g)...))
		}
		for _, length := range []int{maxGates + 1, maxGates + 2, 2 * maxGates, 256 + 1, 1000} {
			list = append(list, circuitOf(n, manyGates(n, length)...), circuitOf(n, slices.Repeat([]impl.Gate{gateOn(impl.GateX)}, length)...))
		}
	}
	return list
}

// expectedCircuitMatrix has as its columns what the matrices of the kinds make of the basis states.
func expectedCircuitMatrix(t *testing.T, c impl.Circuit) [][]impl.DOmega {
	t.Helper()
	m := squareOf(1<<c.N, impl.DOmega{})
	for i := range m {
		column, ok := expectedGates(c.Gates, impl.BasisState(c.N, i))
		if !ok {
			t.Fatalf("this test expects %v to fail at %d", c, i)
		}
		for k, x := range column {
			m[k][i] = x
		}
	}
	return m
}

func expectedInverse(c impl.Circuit) impl.Circuit {
	inverse := impl.Circuit{N: c.N}
	for k := len(c.Gates) - 1; k >= 0; k-- {
		g := c.Gates[k]
		g.Kind = expectedKind(g.Kind).inverse
		inverse.Gates = append(inverse.Gates, g)
	}
	return inverse
}

func expectedRelabelled(c impl.Circuit, p []int) impl.Circuit {
	relabelled := impl.Circuit{N: c.N}
	for _, g := range c.Gates {
		var qubits []int
		for _, q := range expectedQubits(g) {
			qubits = append(qubits, p[q])
		}
		relabelled.Gates = append(relabelled.Gates, gateOn(g.Kind, qubits...))
	}
	return relabelled
}

// sameCircuit compares without the program.
func sameCircuit(a, b impl.Circuit) bool { return a.N == b.N && slices.Equal(a.Gates, b.Gates) }

// checkCircuit expects the circuit and true, or the zero one and false if it is not to be accepted.
func checkCircuit(t *testing.T, what string, operands []any, got impl.Circuit, ok bool, want impl.Circuit, accept bool) {
	t.Helper()
	if !accept {
		want = impl.Circuit{}
	}
	if !sameCircuit(got, want) || ok != accept {
		t.Fatalf("%s of %v = %v, %v, want %v, %v", what, operands, got, ok, want, accept)
	}
}

func checkValidCircuit(t *testing.T, c impl.Circuit, want bool) {
	t.Helper()
	if got := impl.IsValidCircuit(c); got != want {
		t.Fatalf("IsValidCircuit(%v) = %v", c, got)
	}
}

func checkCircuitMatrix(t *testing.T, c impl.Circuit, want [][]impl.DOmega, accept bool) {
	t.Helper()
	got, ok := impl.CircuitMatrix(c)
	checkMatrix(t, "CircuitMatrix", []any{c}, got, ok, want, accept)
}

func checkInverseCircuit(t *testing.T, c, want impl.Circuit) {
	t.Helper()
	checkCircuit(t, "InverseCircuit", []any{c}, impl.InverseCircuit(c), true, want, true)
}

func checkConcat(t *testing.T, a, b, want impl.Circuit, accept bool) {
	t.Helper()
	got, ok := impl.ConcatCircuits(a, b)
	checkCircuit(t, "ConcatCircuits", []any{a, b}, got, ok, want, accept)
}

func checkRelabelled(t *testing.T, c impl.Circuit, p []int, want impl.Circuit, accept bool) {
	t.Helper()
	got, ok := impl.RelabelCircuit(c, p)
	checkCircuit(t, "RelabelCircuit", []any{c, p}, got, ok, want, accept)
}

// checkEqualCircuit expects the same answer for both orders of the circuits.
func checkEqualCircuit(t *testing.T, a, b impl.Circuit, want bool) {
	t.Helper()
	if impl.EqualCircuit(a, b) != want || impl.EqualCircuit(b, a) != want {
		t.Fatalf("EqualCircuit of %v and %v is not %v in both orders", a, b, want)
	}
}

// matrixOfCircuit is a matrix that can be computed.
func matrixOfCircuit(t *testing.T, c impl.Circuit) [][]impl.DOmega {
	t.Helper()
	m, ok := impl.CircuitMatrix(c)
	if !ok {
		t.Fatalf("CircuitMatrix(%v) fails", c)
	}
	return m
}

func TestMaxGates(t *testing.T) {
	if impl.MaxGates != maxGates {
		t.Fatalf("MaxGates = %d", impl.MaxGates)
	}
	for n := 1; n <= 4; n++ {
		for length := range 2*maxGates + 10 {
			checkValidCircuit(t, circuitOf(n, manyGates(n, length)...), length <= maxGates)
		}
		// The gates count, and not the room for them.
		checkValidCircuit(t, impl.Circuit{N: n, Gates: manyGates(n, 1000)[:maxGates]}, true)
	}
}

func TestIsValidCircuit(t *testing.T) {
	for n := 1; n <= 4; n++ {
		for _, c := range someCircuits(n) {
			checkValidCircuit(t, c, true)
		}
		// A circuit on n qubits may stay below them.
		for m := 1; m <= n; m++ {
			checkValidCircuit(t, circuitOf(n, validGates(m)[:8]...), true)
		}
	}
	for _, g := range gatesOfNoState(4) {
		checkValidCircuit(t, circuitOf(4, g), false)
		checkValidCircuit(t, circuitOf(4, gateOn(impl.GateH), g, gateOn(impl.GateH)), false)
	}
}

// TestQubitsOfCircuits: a gate is valid exactly on the circuits that have its qubits.
func TestQubitsOfCircuits(t *testing.T) {
	for _, g := range validGates(4) {
		for n := -1; n <= 6; n++ {
			accept := n >= 1 && n <= 4 && slices.Contains(validGates(n), g)
			checkValidCircuit(t, circuitOf(n, g), accept)
			if _, ok := impl.CircuitMatrix(circuitOf(n, g)); ok != accept {
				t.Fatalf("the matrix of %v on %d qubits: %v", g, n, ok)
			}
		}
	}
}

func TestCircuitMatrix(t *testing.T) {
	half, phases := domega(1, 0, 0, 0, 1), eightPhases()
	x, h, s := gateOn(impl.GateX), gateOn(impl.GateH), gateOn(impl.GateS)
	cases := []struct {
		c    impl.Circuit
		want [][]impl.DOmega
	}{
		{circuitOf(1, x, s), matrixOf(2, impl.DOmega{}, phases[0], phases[2], impl.DOmega{})},
		{circuitOf(1, s, x), matrixOf(2, impl.DOmega{}, phases[2], phases[0], impl.DOmega{})},
		{circuitOf(1, h, gateOn(impl.GateZ), h), permutationOf(1, 0)},
		{circuitOf(1, h, x, h), diagonalOf(phases[0], phases[4])},
		{circuitOf(1, gateOn(impl.GateT), gateOn(impl.GateT)), diagonalOf(phases[0], phases[2])},
		{circuitOf(2, h, gateOn(impl.GateCX, 0, 1)), matrixOf(4, half, half, impl.DOmega{}, impl.DOmega{}, impl.DOmega{}, impl.DOmega{}, half, domega(-1, 0, 0, 0, 1), impl.DOmega{}, impl.DOmega{}, half, half, half, domega(-1, 0, 0, 0, 1), impl.DOmega{}, impl.DOmega{})},
		{circuitOf(2, gateOn(impl.GateCX, 0, 1), gateOn(impl.GateCX, 1, 0), gateOn(impl.GateCX, 0, 1)), permutationOf(0, 2, 1, 3)},
		{circuitOf(2, gateOn(impl.GateCX, 0, 1), gateOn(impl.GateCX, 1, 0)), indexMatrix([]int{0, 2, 3, 1})},
		{circuitOf(2, gateOn(impl.GateCX, 1, 0), gateOn(impl.GateCX, 0, 1)), indexMatrix([]int{0, 3, 1, 2})},
		{circuitOf(3, gateOn(impl.GateX, 2), gateOn(impl.GateCCX, 1, 2, 0)), indexMatrix([]int{4, 5, 7, 6, 0, 1, 2, 3})},
	}
	for _, c := range cases {
		checkCircuitMatrix(t, c.c, c.want, true)
	}
}

func TestMatricesOfShortCircuits(t *testing.T) {
	for n := 1; n <= 4; n++ {
		for _, c := range emptyCircuits(n) {
			checkCircuitMatrix(t, c, impl.IdentityMatrix(n), true)
		}
		for _, g := range validGates(n) {
			checkCircuitMatrix(t, circuitOf(n, g), expectedGateMatrix(g, n), true)
		}
		for k, gates := range variedGates(n, 4) {
			if n < 4 || k%8 == 0 {
				c := circuitOf(n, gates...)
				checkCircuitMatrix(t, c, expectedCircuitMatrix(t, c), true)
			}
		}
	}
}

// TestColumnsOfCircuits: each column is what the gates make of its basis state.
func TestColumnsOfCircuits(t *testing.T) {
	for n := 1; n <= 4; n++ {
		for k, c := range someCircuits(n) {
			if n == 4 && len(c.Gates) < 20 && k%5 != 0 {
				continue
			}
			m := matrixOfCircuit(t, c)
			if len(m) != 1<<n {
				t.Fatalf("CircuitMatrix(%v) has %d rows", c, len(m))
			}
			for i := range m {
				checkGatesApplied(t, c.Gates, impl.BasisState(n, i), columnOf(m, i), true)
			}
		}
	}
}

// TestMatricesOfTwoGates: the matrix of the first gate stands on the right, in both orders of the gates.
func TestMatricesOfTwoGates(t *testing.T) {
	differ := 0
	for n := 1; n <= 3; n++ {
		for _, pair := range append(variedGates(n, 2), []impl.Gate{gateOn(impl.GateH), gateOn(impl.GateT)}) {
			first, second := expectedGateMatrix(pair[0], n), expectedGateMatrix(pair[1], n)
			forward, backward := expectedMatrix(t, second, first), expectedMatrix(t, first, second)
			checkCircuitMatrix(t, circuitOf(n, pair[0], pair[1]), forward, true)
			checkCircuitMatrix(t, circuitOf(n, pair[1], pair[0]), backward, true)
			if !sameMatrix(forward, backward) {
				differ++
			}
		}
	}
	if differ < 20 {
		t.Errorf("the order of %d pairs counts", differ)
	}
}

// TestManyHadamards: on one qubit each second gate cancels the one before; on all qubits the exponent grows to their number.
func TestManyHadamards(t *testing.T) {
	for n := 1; n <= 4; n++ {
		for length := range maxGates + 1 {
			h := gateOn(impl.GateH, length%n)
			want := impl.IdentityMatrix(n)
			if length%2 == 1 {
				want = expectedGateMatrix(h, n)
			}
			checkCircuitMatrix(t, circuitOf(n, slices.Repeat([]impl.Gate{h}, length)...), want, true)
		}
	}
	all := []impl.Gate{gateOn(impl.GateH, 0), gateOn(impl.GateH, 1), gateOn(impl.GateH, 2), gateOn(impl.GateH, 3)}
	want := tensor(t, tensor(t, hadamard(), hadamard()), tensor(t, hadamard(), hadamard()))
	checkCircuitMatrix(t, circuitOf(4, slices.Repeat(all, 15)...), want, true)
	checkCircuitMatrix(t, circuitOf(4, slices.Repeat(all, 14)...), impl.IdentityMatrix(4), true)
}

// controlledHadamard divides the amplitudes only where qubit 0 is 1.
func controlledHadamard() []impl.Gate {
	return []impl.Gate{gateOn(impl.GateS, 1), gateOn(impl.GateH, 1), gateOn(impl.GateT, 1), gateOn(impl.GateCX, 0, 1), gateOn(impl.GateTdg, 1), gateOn(impl.GateH, 1), gateOn(impl.GateSdg, 1)}
}

// TestGatesThatFailAtOneBasisState: no circuit has room for as many divisions as a failure takes, so that its gates apply at every basis state.
func TestGatesThatFailAtOneBasisState(t *testing.T) {
	var list []impl.Gate
	for accept := true; accept && len(list) < 2000; {
		list = append(append(list, controlledHadamard()...), gateOn(impl.GateT, 1))
		_, accept = impl.ApplyGates(list, impl.BasisState(2, 1))
	}
	checkGatesApplied(t, list, impl.BasisState(2, 1), nil, false)
	checkGatesApplied(t, list, impl.BasisState(2, 0), impl.BasisState(2, 0), true)
	checkCircuitMatrix(t, circuitOf(2, list...), nil, false)
	for length := range maxGates + 1 {
		c := circuitOf(2, list[:length]...)
		checkCircuitMatrix(t, c, expectedCircuitMatrix(t, c), true)
	}
}

func TestMatricesOfCircuitsAreUnitary(t *testing.T) {
	for n := 1; n <= 3; n++ {
		for k, c := range someCircuits(n) {
			if k%3 == 0 {
				checkUnitary(t, matrixOfCircuit(t, c), true)
			}
		}
	}
}

func TestInverseCircuit(t *testing.T) {
	h, s, cx := gateOn(impl.GateH, 1), gateOn(impl.GateS), gateOn(impl.GateCX, 1, 0)
	checkInverseCircuit(t, circuitOf(2, h, s, cx), circuitOf(2, cx, gateOn(impl.GateSdg), h))
	checkInverseCircuit(t, circuitOf(2, cx, s, h), circuitOf(2, h, gateOn(impl.GateSdg), cx))
	checkInverseCircuit(t, circuitOf(1, gateOn(impl.GateT), gateOn(impl.GateSdg)), circuitOf(1, gateOn(impl.GateS), gateOn(impl.GateTdg)))
	checkInverseCircuit(t, circuitOf(1, gateOn(impl.GateTdg), gateOn(impl.GateTdg), gateOn(impl.GateY)), circuitOf(1, gateOn(impl.GateY), gateOn(impl.GateT), gateOn(impl.GateT)))
	for n := 1; n <= 4; n++ {
		for _, c := range emptyCircuits(n) {
			checkInverseCircuit(t, c, impl.Circuit{N: n})
		}
		for _, c := range someCircuits(n) {
			checkInverseCircuit(t, c, expectedInverse(c))
			checkInverseCircuit(t, impl.InverseCircuit(c), c)
			checkValidCircuit(t, impl.InverseCircuit(c), true)
		}
	}
}

// TestCircuitsAndTheirInversesCancel: in both orders; the inverse has the adjoint matrix.
func TestCircuitsAndTheirInversesCancel(t *testing.T) {
	cancelled := 0
	for n := 1; n <= 4; n++ {
		for k, c := range someCircuits(n) {
			if n == 4 && len(c.Gates) < 20 && k%5 != 0 {
				continue
			}
			inverse := impl.InverseCircuit(c)
			checkCircuitMatrix(t, inverse, expectedAdjoint(matrixOfCircuit(t, c)), true)
			for _, pair := range [][2]impl.Circuit{{c, inverse}, {inverse, c}} {
				both, ok := impl.ConcatCircuits(pair[0], pair[1])
				if ok != (len(c.Gates) <= maxGates/2) {
					t.Fatalf("ConcatCircuits of %v and %v: %v", pair[0], pair[1], ok)
				}
				if ok {
					checkCircuitMatrix(t, both, impl.IdentityMatrix(n), true)
					cancelled++
				}
			}
		}
	}
	if cancelled < 500 {
		t.Errorf("%d circuits cancel", cancelled)
	}
}

// TestInversesOfLongCircuits: also where both do not fit into one circuit.
func TestInversesOfLongCircuits(t *testing.T) {
	for n := 1; n <= 4; n++ {
		for _, c := range longCircuits(n) {
			gates := slices.Concat(c.Gates, impl.InverseCircuit(c).Gates)
			for i := range 1 << n {
				checkGatesApplied(t, gates, impl.BasisState(n, i), impl.BasisState(n, i), true)
			}
		}
	}
}

func TestConcatCircuits(t *testing.T) {
	h, s, cx := gateOn(impl.GateH, 1), gateOn(impl.GateS), gateOn(impl.GateCX, 1, 0)
	checkConcat(t, circuitOf(2, h), circuitOf(2, s), circuitOf(2, h, s), true)
	checkConcat(t, circuitOf(2, s), circuitOf(2, h), circuitOf(2, s, h), true)
	checkConcat(t, circuitOf(2, h, s), circuitOf(2, cx), circuitOf(2, h, s, cx), true)
	checkConcat(t, circuitOf(2, h), circuitOf(2, s, cx), circuitOf(2, h, s, cx), true)
	for n := 1; n <= 4; n++ {
		list := shortCircuits(n)
		for k, a := range list {
			b := list[(k*5+2)%len(list)]
			checkConcat(t, a, b, circuitOf(n, slices.Concat(a.Gates, b.Gates)...), true)
			checkConcat(t, b, a, circuitOf(n, slices.Concat(b.Gates, a.Gates)...), true)
			checkConcat(t, a, a, circuitOf(n, slices.Concat(a.Gates, a.Gates)...), true)
		}
	}
}

func TestConcatWithEmptyCircuits(t *testing.T) {
	for n := 1; n <= 4; n++ {
		for _, empty := range emptyCircuits(n) {
			for _, other := range emptyCircuits(n) {
				checkConcat(t, empty, other, impl.Circuit{N: n}, true)
			}
			for _, c := range someCircuits(n) {
				checkConcat(t, empty, c, c, true)
				checkConcat(t, c, empty, c, true)
			}
		}
	}
}

// TestConcatAtTheLimit: each length of the first circuit, with as many gates behind it as there may be, and with one more.
func TestConcatAtTheLimit(t *testing.T) {
	for n := 1; n <= 4; n++ {
		for length := range maxGates + 1 {
			gates := manyGates(n, maxGates+1)
			first := circuitOf(n, gates[:length]...)
			checkConcat(t, first, circuitOf(n, gates[length:maxGates]...), circuitOf(n, gates[:maxGates]...), true)
			// Behind no gate there would be more than a valid circuit has.
			checkConcat(t, first, circuitOf(n, gates[length:]...), impl.Circuit{}, false)
		}
		full := circuitOf(n, manyGates(n, maxGates)...)
		one := circuitOf(n, gateOn(impl.GateX))
		checkConcat(t, full, one, impl.Circuit{}, false)
		checkConcat(t, one, full, impl.Circuit{}, false)
		checkConcat(t, full, full, impl.Circuit{}, false)
	}
}

// TestConcatOfDifferentSizes: also where all gates are valid on both numbers of qubits, and where there is none.
func TestConcatOfDifferentSizes(t *testing.T) {
	for n := 1; n <= 4; n++ {
		for m := 1; m <= 4; m++ {
			for _, gates := range [][]impl.Gate{nil, {}, {gateOn(impl.GateH)}, {gateOn(impl.GateX), gateOn(impl.GateTdg)}} {
				for _, other := range [][]impl.Gate{nil, {}, {gateOn(impl.GateT)}} {
					checkConcat(t, circuitOf(n, gates...), circuitOf(m, other...), circuitOf(n, slices.Concat(gates, other)...), n == m)
					checkConcat(t, circuitOf(m, other...), circuitOf(n, gates...), circuitOf(n, slices.Concat(other, gates)...), n == m)
				}
			}
		}
	}
}

// TestMatricesOfConcatenations: the matrix of the first circuit stands on the right.
func TestMatricesOfConcatenations(t *testing.T) {
	for n := 1; n <= 3; n++ {
		list := shortCircuits(n)
		for k, a := range list {
			b := list[(k*3+5)%len(list)]
			both, ok := impl.ConcatCircuits(a, b)
			product, ok2 := impl.MulMatrix(matrixOfCircuit(t, b), matrixOfCircuit(t, a))
			if !ok || !ok2 {
				t.Fatalf("%v and %v: %v, and a product of their matrices: %v", a, b, ok, ok2)
			}
			checkCircuitMatrix(t, both, product, true)
		}
	}
}

// TestInversesOfConcatenations: the inverse of the second circuit comes first.
func TestInversesOfConcatenations(t *testing.T) {
	for n := 1; n <= 4; n++ {
		list := shortCircuits(n)
		for k, a := range list {
			b := list[(k*3+7)%len(list)]
			both, _ := impl.ConcatCircuits(a, b)
			checkConcat(t, impl.InverseCircuit(b), impl.InverseCircuit(a), impl.InverseCircuit(both), true)
		}
	}
}

func TestRelabelCircuit(t *testing.T) {
	cx, ccx := gateOn(impl.GateCX, 0, 1), gateOn(impl.GateCCX, 0, 1, 2)
	checkRelabelled(t, circuitOf(2, cx), []int{1, 0}, circuitOf(2, gateOn(impl.GateCX, 1, 0)), true)
	checkRelabelled(t, circuitOf(3, cx, ccx), []int{1, 2, 0}, circuitOf(3, gateOn(impl.GateCX, 1, 2), gateOn(impl.GateCCX, 1, 2, 0)), true)
	checkRelabelled(t, circuitOf(3, cx, ccx), []int{2, 0, 1}, circuitOf(3, gateOn(impl.GateCX, 2, 0), gateOn(impl.GateCCX, 2, 0, 1)), true)
	// The qubits that a gate does not use stay 0.
	checkRelabelled(t, circuitOf(2, gateOn(impl.GateT), gateOn(impl.GateH, 1)), []int{1, 0}, circuitOf(2, gateOn(impl.GateT, 1), gateOn(impl.GateH)), true)
	checkRelabelled(t, circuitOf(4, gateOn(impl.GateY, 2), gateOn(impl.GateSwap, 3, 1)), []int{3, 2, 1, 0}, circuitOf(4, gateOn(impl.GateY, 1), gateOn(impl.GateSwap, 0, 2)), true)
	// Neither the qubits nor the gates are sorted.
	checkRelabelled(t, circuitOf(4, gateOn(impl.GateCZ, 3, 1), gateOn(impl.GateX)), []int{0, 2, 1, 3}, circuitOf(4, gateOn(impl.GateCZ, 3, 2), gateOn(impl.GateX)), true)
}

func TestRelabellingByAllPermutations(t *testing.T) {
	for n := 1; n <= 4; n++ {
		for _, p := range permutationsOf(n) {
			for _, c := range someCircuits(n) {
				want := expectedRelabelled(c, p)
				checkRelabelled(t, c, p, want, true)
				checkValidCircuit(t, want, true)
				checkRelabelled(t, want, impl.InversePermutation(p), c, true)
			}
		}
		for _, c := range someCircuits(n) {
			checkRelabelled(t, c, ascending(n), c, true)
		}
	}
}

// TestMatricesOfRelabelledCircuits: the amplitudes move as the bits of both indices do.
func TestMatricesOfRelabelledCircuits(t *testing.T) {
	for n := 1; n <= 4; n++ {
		for i, p := range permutationsOf(n) {
			lists := variedGates(n, 4)
			c := circuitOf(n, lists[(i*3+1)%len(lists)]...)
			m := matrixOfCircuit(t, c)
			want := squareOf(1<<n, impl.DOmega{})
			for row := range m {
				for column, x := range m[row] {
					want[expectedIndex(p, row)][expectedIndex(p, column)] = x
				}
			}
			relabelled, _ := impl.RelabelCircuit(c, p)
			checkCircuitMatrix(t, relabelled, want, true)
		}
	}
}

func TestRelabellingTwice(t *testing.T) {
	for n := 1; n <= 4; n++ {
		c := circuitOf(n, validGates(n)[:min(maxGates, len(validGates(n)))]...)
		for _, p := range permutationsOf(n) {
			once, _ := impl.RelabelCircuit(c, p)
			for _, q := range permutationsOf(n) {
				want, ok := impl.RelabelCircuit(c, impl.ComposePermutations(p, q))
				checkRelabelled(t, once, q, want, ok)
			}
		}
	}
}

func TestRelabellingByNoPermutation(t *testing.T) {
	for n := 1; n <= 4; n++ {
		circuits := []impl.Circuit{{N: n}, {N: n, Gates: []impl.Gate{}}, circuitOf(n, gateOn(impl.GateH)), circuitOf(n, gateOn(impl.GateT, n-1), gateOn(impl.GateX)), circuitOf(n, manyGates(n, maxGates)...)}
		for _, c := range circuits {
			for _, p := range notPermutations() {
				checkRelabelled(t, c, p, impl.Circuit{}, false)
			}
			// A permutation of another length, also if it has all the qubits that are used.
			for _, p := range allPermutations() {
				checkRelabelled(t, c, p, expectedRelabelled(c, append(slices.Clone(p), 0, 0, 0, 0)), len(p) == n)
			}
		}
	}
}

// differentCircuits returns circuits that differ from c in N, in the number of gates, or in one field of the first, a middle or the last gate.
func differentCircuits(c impl.Circuit) []impl.Circuit {
	var list []impl.Circuit
	for _, n := range append(sizesOfNoState(), 1, 2, 3, 4) {
		if n != c.N {
			list = append(list, circuitOf(n, c.Gates...))
		}
	}
	for k, g := range c.Gates {
		list = append(list, circuitOf(c.N, c.Gates[:k]...), circuitOf(c.N, slices.Delete(slices.Clone(c.Gates), k, k+1)...))
		for _, x := range []int{1, -1, 256, 1 << 32, -1 << 63} {
			for _, changed := range []impl.Gate{{Kind: g.Kind + x, A: g.A, B: g.B, C: g.C}, {Kind: g.Kind, A: g.A + x, B: g.B, C: g.C}, {Kind: g.Kind, A: g.A, B: g.B + x, C: g.C}, {Kind: g.Kind, A: g.A, B: g.B, C: g.C + x}} {
				other := circuitOf(c.N, slices.Clone(c.Gates)...)
				other.Gates[k] = changed
				list = append(list, other)
			}
		}
	}
	for _, g := range []impl.Gate{{}, gateOn(impl.GateX)} {
		list = append(list, circuitOf(c.N, append(slices.Clone(c.Gates), g)...), circuitOf(c.N, append([]impl.Gate{g}, c.Gates...)...))
	}
	return list
}

func TestEqualCircuit(t *testing.T) {
	x, h := gateOn(impl.GateX), gateOn(impl.GateH)
	circuits := []impl.Circuit{{}, {N: 2}, circuitOf(1, h), circuitOf(2, gateOn(impl.GateCX, 1, 0), h, gateOn(impl.GateSwap, 0, 1)), circuitOf(4, gateOn(impl.GateCCX, 3, 2, 1), h, x, gateOn(impl.GateT, 2), gateOn(impl.GateCZ, 3, 0))}
	// Circuits that are not valid are compared too.
	circuits = append(circuits, circuitOf(0, x), circuitOf(-7, h, impl.Gate{}), circuitOf(5, impl.Gate{Kind: -1, A: 9, B: -9, C: 9}, x, x), circuitOf(2, manyGates(3, 70)...))
	for _, c := range circuits {
		checkEqualCircuit(t, c, c, true)
		checkEqualCircuit(t, c, circuitOf(c.N, slices.Clone(c.Gates)...), true)
		checkEqualCircuit(t, c, impl.Circuit{N: c.N, Gates: withMarks(c.Gates, unusedGate)}, true)
		for _, other := range differentCircuits(c) {
			checkEqualCircuit(t, c, other, false)
		}
	}
	checkEqualCircuit(t, circuitOf(1, x, h), circuitOf(1, h, x), false)
	// Two circuits with the same matrix may differ.
	checkEqualCircuit(t, circuitOf(2, gateOn(impl.GateSwap, 0, 1)), circuitOf(2, gateOn(impl.GateSwap, 1, 0)), false)
	checkEqualCircuit(t, circuitOf(1, h, h), circuitOf(1), false)
	for _, n := range append(sizesOfNoState(), 1, 2, 3, 4) {
		for _, a := range emptyCircuits(n) {
			for _, b := range emptyCircuits(n) {
				checkEqualCircuit(t, a, b, true)
			}
		}
	}
}

// TestCircuitsAreEqualOnlyToThemselves compares all short circuits with each other.
func TestCircuitsAreEqualOnlyToThemselves(t *testing.T) {
	var list []impl.Circuit
	for n := 1; n <= 3; n++ {
		list = append(list, shortCircuits(n)...)
	}
	for _, a := range list {
		for _, b := range list {
			if got := impl.EqualCircuit(a, b); got != sameCircuit(a, b) {
				t.Fatalf("EqualCircuit(%v, %v) = %v", a, b, got)
			}
		}
	}
}

func TestCircuitsThatAreNotValid(t *testing.T) {
	for _, c := range invalidCircuits() {
		checkValidCircuit(t, c, false)
		checkCircuitMatrix(t, c, nil, false)
		checkInverseCircuit(t, c, impl.Circuit{})
		checkConcat(t, c, c, impl.Circuit{}, false)
		checkConcat(t, c, impl.Circuit{N: c.N}, impl.Circuit{}, false)
		checkConcat(t, impl.Circuit{N: c.N}, c, impl.Circuit{}, false)
		for n := 1; n <= 4; n++ {
			checkConcat(t, c, circuitOf(n, gateOn(impl.GateH)), impl.Circuit{}, false)
			checkConcat(t, circuitOf(n, gateOn(impl.GateH)), c, impl.Circuit{}, false)
		}
		for _, p := range append(allPermutations(), nil, []int{}, []int{0, 0}, ascending(5)) {
			checkRelabelled(t, c, p, impl.Circuit{}, false)
		}
	}
}

func firstGates(c impl.Circuit, _ bool) []impl.Gate { return c.Gates }

func checkFreshGates(t *testing.T, what string, call func() []impl.Gate) {
	t.Helper()
	checkFresh(t, what, impl.Gate{Kind: 99, A: 98, B: 97, C: 96}, call)
}

// roomyCircuit returns c with marks in the unused capacity of its gates.
func roomyCircuit(c impl.Circuit) impl.Circuit {
	return impl.Circuit{N: c.N, Gates: withMarks(c.Gates, unusedGate)}
}

// memoryCircuits returns circuits on n qubits, some of which are not valid.
func memoryCircuits(n int) []impl.Circuit {
	list := append(emptyCircuits(n), longCircuits(n)...)
	for _, length := range []int{1, 2, 5} {
		for _, gates := range variedGates(n, length)[:8] {
			list = append(list, circuitOf(n, gates...))
		}
	}
	return append(list, impl.Circuit{}, circuitOf(5, gateOn(impl.GateX)), circuitOf(n, gateOn(impl.GateH), impl.Gate{}), circuitOf(n, manyGates(n, maxGates+1)...))
}

// TestCircuitsAreKept overwrites each result: neither an argument nor another result may change with it.
func TestCircuitsAreKept(t *testing.T) {
	for n := 1; n <= 4; n++ {
		list := memoryCircuits(n)
		for k, before := range list {
			other := list[(k*3+1)%len(list)]
			c, d, empty := roomyCircuit(before), roomyCircuit(other), roomyCircuit(impl.Circuit{N: before.N})
			checkFreshGates(t, "InverseCircuit", func() []impl.Gate { return impl.InverseCircuit(c).Gates })
			for _, pair := range [][2]impl.Circuit{{c, d}, {d, c}, {c, c}, {c, empty}, {empty, c}, {empty, empty}} {
				checkFreshGates(t, "ConcatCircuits", func() []impl.Gate { return firstGates(impl.ConcatCircuits(pair[0], pair[1])) })
			}
			for _, order := range append(permutationsOf(n), ascending(n), nil, make([]int, n)) {
				p := roomyInts(order)
				checkFreshGates(t, "RelabelCircuit", func() []impl.Gate { return firstGates(impl.RelabelCircuit(c, p)) })
				checkIntsUntouched(t, "RelabelCircuit", p, order)
			}
			impl.IsValidCircuit(c)
			impl.EqualCircuit(c, d)
			checkMarks(t, "a function of circuits", c.Gates, before.Gates, unusedGate)
			checkMarks(t, "a function of circuits", d.Gates, other.Gates, unusedGate)
			checkMarks(t, "a function of circuits", empty.Gates, nil, unusedGate)
		}
	}
}

func TestMatricesOfCircuitsShareNoMemory(t *testing.T) {
	for n := 1; n <= 4; n++ {
		for k, before := range memoryCircuits(n) {
			if len(before.Gates) < 6 && (n < 4 || k%3 == 0) || len(before.Gates) > maxGates {
				c := roomyCircuit(before)
				checkFreshMatrices(t, "CircuitMatrix", func() [][]impl.DOmega { return firstMatrix(impl.CircuitMatrix(c)) })
				checkMarks(t, "CircuitMatrix", c.Gates, before.Gates, unusedGate)
			}
		}
	}
}

// TestCircuitResultsKeepTheirValues: also when an argument is overwritten afterwards.
func TestCircuitResultsKeepTheirValues(t *testing.T) {
	for n := 1; n <= 4; n++ {
		for _, before := range someCircuits(n) {
			c, empty, p := roomyCircuit(before), roomyCircuit(impl.Circuit{N: n}), roomyInts(ascending(n))
			left, _ := impl.ConcatCircuits(c, empty)
			right, _ := impl.ConcatCircuits(empty, c)
			same, _ := impl.RelabelCircuit(c, p)
			inverse := impl.InverseCircuit(c)
			fillWith(c.Gates, unusedGate)
			fillWith(empty.Gates, unusedGate)
			overwriteInts(p)
			for _, result := range []impl.Circuit{left, right, same} {
				if !sameCircuit(result, before) {
					t.Fatalf("a result that is %v becomes %v", before, result)
				}
			}
			if !sameCircuit(inverse, expectedInverse(before)) {
				t.Fatalf("the inverse of %v becomes %v", before, inverse)
			}
		}
	}
}

// TestCircuitsInOneArray: the gates of two circuits may lie next to each other, or be the same.
func TestCircuitsInOneArray(t *testing.T) {
	for n := 1; n <= 4; n++ {
		all := manyGates(n, 20)
		for k := range len(all) + 1 {
			array := withMarks(all, unusedGate)
			first, second := impl.Circuit{N: n, Gates: array[:k]}, impl.Circuit{N: n, Gates: array[k:]}
			checkConcat(t, first, second, circuitOf(n, all...), true)
			checkConcat(t, second, first, circuitOf(n, slices.Concat(all[k:], all[:k])...), true)
			checkConcat(t, first, first, circuitOf(n, slices.Concat(all[:k], all[:k])...), true)
			checkInverseCircuit(t, first, expectedInverse(circuitOf(n, all[:k]...)))
			checkRelabelled(t, first, ascending(n), circuitOf(n, all[:k]...), true)
			checkMarks(t, "a function of parts of one array", array, all, unusedGate)
		}
	}
}
