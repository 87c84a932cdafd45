package tests

import (
	"math"
	"slices"
	"testing"

	"loop.example/g00506/impl"
)

// Promise 10: a gate and its inverse cancel.
// Promise 47: every function is total, pure, and does not modify its arguments.

// bitAt is the binary digit of i with the weight of qubit q.
func bitAt(i, q int) int { return i / weightOf(q) % 2 }

func weightOf(q int) int { return []int{1, 2, 4, 8}[q] }

func flippedAt(i, q int) int {
	if bitAt(i, q) == 1 {
		return i - weightOf(q)
	}
	return i + weightOf(q)
}

func swappedAt(i, p, q int) int {
	if bitAt(i, p) == bitAt(i, q) {
		return i
	}
	return flippedAt(flippedAt(i, p), q)
}

// amplitudeAt returns the state of n qubits with x at index i and 0 elsewhere.
func amplitudeAt(n, i int, x impl.DOmega) []impl.DOmega {
	return replacedAt(make([]impl.DOmega, 1<<n), i, x)
}

// expectedOfBasis is the chapter's answer for the basis state i, kind by kind.
func expectedOfBasis(g impl.Gate, n, i int) []impl.DOmega {
	a, b, phases := bitAt(i, g.A), bitAt(i, g.B), eightPhases()
	switch g.Kind {
	case impl.GateX:
		return amplitudeAt(n, flippedAt(i, g.A), phases[0])
	case impl.GateY:
		return amplitudeAt(n, flippedAt(i, g.A), phases[[]int{2, 6}[a]])
	case impl.GateZ:
		return amplitudeAt(n, i, phases[[]int{0, 4}[a]])
	case impl.GateS:
		return amplitudeAt(n, i, phases[[]int{0, 2}[a]])
	case impl.GateSdg:
		return amplitudeAt(n, i, phases[[]int{0, 6}[a]])
	case impl.GateT:
		return amplitudeAt(n, i, phases[[]int{0, 1}[a]])
	case impl.GateTdg:
		return amplitudeAt(n, i, phases[[]int{0, 7}[a]])
	case impl.GateH:
		v := amplitudeAt(n, i, domega(1-2*a, 0, 0, 0, 1))
		v[flippedAt(i, g.A)] = domega(1, 0, 0, 0, 1)
		return v
	case impl.GateCX:
		if a == 1 {
			i = flippedAt(i, g.B)
		}
	case impl.GateCZ:
		return amplitudeAt(n, i, phases[4*a*b])
	case impl.GateSwap:
		i = swappedAt(i, g.A, g.B)
	case impl.GateCCX:
		if a == 1 && b == 1 {
			i = flippedAt(i, g.C)
		}
	}
	return amplitudeAt(n, i, phases[0])
}

// ownMatrix is the matrix of a kind on its own qubits alone: A is qubit 0, B is qubit 1 and C is qubit 2.
func ownMatrix(kind int) [][]impl.DOmega {
	one, minus, i := domega(1, 0, 0, 0, 0), domega(-1, 0, 0, 0, 0), domega(0, 0, 1, 0, 0)
	switch kind {
	case impl.GateX:
		return permutationOf(1, 0)
	case impl.GateY:
		return matrixOf(2, impl.DOmega{}, domega(0, 0, -1, 0, 0), i, impl.DOmega{})
	case impl.GateZ:
		return diagonalOf(one, minus)
	case impl.GateH:
		return hadamard()
	case impl.GateS:
		return diagonalOf(one, i)
	case impl.GateSdg:
		return diagonalOf(one, domega(0, 0, -1, 0, 0))
	case impl.GateT:
		return diagonalOf(one, domega(0, 1, 0, 0, 0))
	case impl.GateTdg:
		return diagonalOf(one, domega(0, 0, 0, -1, 0))
	case impl.GateCX:
		return permutationOf(0, 3, 2, 1)
	case impl.GateCZ:
		return diagonalOf(one, one, one, minus)
	case impl.GateSwap:
		return permutationOf(0, 2, 1, 3)
	}
	return permutationOf(0, 1, 2, 7, 4, 5, 6, 3)
}

// placesOf returns the indices that differ from i in bits of these qubits, which are 0 in i: the bit of the first qubit changes first.
func placesOf(qubits []int, i int) []int {
	places := []int{i}
	for _, q := range qubits {
		for _, place := range places {
			places = append(places, place+weightOf(q))
		}
	}
	return places
}

// expectedGate applies the matrix of the kind to the parts of v that differ only in bits of the gate.
func expectedGate(g impl.Gate, v []impl.DOmega) ([]impl.DOmega, bool) {
	m, qubits, list := ownMatrix(g.Kind), expectedQubits(g), slices.Clone(v)
	for i := range v {
		if slices.ContainsFunc(qubits, func(q int) bool { return bitAt(i, q) == 1 }) {
			continue
		}
		var part []impl.DOmega
		places := placesOf(qubits, i)
		for _, place := range places {
			part = append(part, v[place])
		}
		part, ok := expectedApplied(m, part)
		if !ok {
			return nil, false
		}
		for k, place := range places {
			list[place] = part[k]
		}
	}
	return list, true
}

func expectedGates(list []impl.Gate, v []impl.DOmega) ([]impl.DOmega, bool) {
	for _, g := range list {
		next, ok := expectedGate(g, v)
		if !ok {
			return nil, false
		}
		v = next
	}
	return v, true
}

// expectedGateMatrix has the chapter's answers as its columns.
func expectedGateMatrix(g impl.Gate, n int) [][]impl.DOmega {
	m := squareOf(1<<n, impl.DOmega{})
	for i := range m {
		for k, x := range expectedOfBasis(g, n, i) {
			m[k][i] = x
		}
	}
	return m
}

func checkGateApplied(t *testing.T, g impl.Gate, v, want []impl.DOmega, accept bool) {
	t.Helper()
	got, ok := impl.ApplyGate(g, v)
	checkState(t, "ApplyGate", []any{g, v}, got, ok, want, accept)
}

func checkGatesApplied(t *testing.T, list []impl.Gate, v, want []impl.DOmega, accept bool) {
	t.Helper()
	got, ok := impl.ApplyGates(list, v)
	checkState(t, "ApplyGates", []any{list, v}, got, ok, want, accept)
}

func checkGateMatrix(t *testing.T, g impl.Gate, n int, want [][]impl.DOmega, accept bool) {
	t.Helper()
	got, ok := impl.GateMatrix(g, n)
	checkMatrix(t, "GateMatrix", []any{g, n}, got, ok, want, accept)
}

// checkPair applies GateH to the two amplitudes, which are put at each two indices that differ in its bit.
func checkPair(t *testing.T, pair, want []impl.DOmega, accept bool) {
	t.Helper()
	for n := 1; n <= 4; n++ {
		for q := range n {
			for i := range 1 << n {
				if bitAt(i, q) == 0 {
					v := replacedAt(amplitudeAt(n, i, pair[0]), i+weightOf(q), pair[1])
					image := replacedAt(amplitudeAt(n, i, want[0]), i+weightOf(q), want[1])
					checkGateApplied(t, gateOn(impl.GateH, q), v, image, accept)
				}
			}
		}
	}
}

// gatesOfNoState returns gates that are not valid on n qubits: of no kind, with a qubit out of range, with two equal qubits, or with an unused one that is not 0.
func gatesOfNoState(n int) []impl.Gate {
	var list []impl.Gate
	for _, kind := range kindsFromMinusOneTo14() {
		for _, g := range gatesWithQubits(kind, []int{-1, 0, 1, 2, 3, 4}) {
			if !slices.Contains(validGates(n), g) {
				list = append(list, g)
			}
		}
	}
	for _, g := range validGates(n) {
		list = append(list, changedGates(g)...)
	}
	for _, kind := range kindsOfNoGate() {
		list = append(list, gateOn(kind), gateOn(kind, 0, 1, 2))
	}
	return list
}

// fewGatesOfNoState has one of them for each reason, for 1 to 4 qubits.
func fewGatesOfNoState() []impl.Gate {
	return []impl.Gate{
		{}, {Kind: -1}, {Kind: 13}, {Kind: 13, A: 1, B: 2, C: 3}, {Kind: math.MinInt}, {Kind: math.MaxInt}, {Kind: impl.GateX, A: 4}, {Kind: impl.GateH, A: -1},
		{Kind: impl.GateCX}, {Kind: impl.GateSwap, A: 1, B: 1}, {Kind: impl.GateCCX, A: 1}, {Kind: impl.GateH, B: 1}, {Kind: impl.GateCZ, B: 1, C: 2}, {Kind: impl.GateCX, A: 4, B: 1}, {Kind: impl.GateT, A: math.MaxInt},
	}
}

func TestApplyGate(t *testing.T) {
	one, h, phases := realIntegers(1)[0], domega(1, 0, 0, 0, 1), eightPhases()
	cases := []struct {
		g       impl.Gate
		v, want []impl.DOmega
	}{
		{impl.Gate{Kind: impl.GateX}, realIntegers(5, 7), realIntegers(7, 5)},
		{impl.Gate{Kind: impl.GateX}, realIntegers(1, 2, 3, 4), realIntegers(2, 1, 4, 3)},
		{impl.Gate{Kind: impl.GateX, A: 1}, realIntegers(1, 2, 3, 4), realIntegers(3, 4, 1, 2)},
		{impl.Gate{Kind: impl.GateY}, realIntegers(1, 1), []impl.DOmega{phases[6], phases[2]}},
		{impl.Gate{Kind: impl.GateY}, []impl.DOmega{phases[1], phases[3]}, []impl.DOmega{phases[1], phases[3]}},
		{impl.Gate{Kind: impl.GateZ}, realIntegers(5, 7), realIntegers(5, -7)},
		{impl.Gate{Kind: impl.GateZ, A: 1}, realIntegers(1, 2, 3, 4), realIntegers(1, 2, -3, -4)},
		{impl.Gate{Kind: impl.GateS}, realIntegers(1, 1), []impl.DOmega{one, phases[2]}},
		{impl.Gate{Kind: impl.GateSdg}, realIntegers(1, 1), []impl.DOmega{one, phases[6]}},
		{impl.Gate{Kind: impl.GateT}, realIntegers(1, 1), []impl.DOmega{one, phases[1]}},
		{impl.Gate{Kind: impl.GateTdg}, realIntegers(1, 1), []impl.DOmega{one, phases[7]}},
		{impl.Gate{Kind: impl.GateT}, []impl.DOmega{phases[5], domega(1, 2, 3, 4, 0)}, []impl.DOmega{phases[5], domega(-4, 1, 2, 3, 0)}},
		{impl.Gate{Kind: impl.GateH}, realIntegers(1, 0), []impl.DOmega{h, h}},
		{impl.Gate{Kind: impl.GateH}, realIntegers(0, 1), []impl.DOmega{h, domega(-1, 0, 0, 0, 1)}},
		{impl.Gate{Kind: impl.GateH}, realIntegers(5, 2), []impl.DOmega{domega(7, 0, 0, 0, 1), domega(3, 0, 0, 0, 1)}},
		{impl.Gate{Kind: impl.GateH, A: 1}, realIntegers(1, 0, 0, 1), []impl.DOmega{h, h, h, domega(-1, 0, 0, 0, 1)}},
		{impl.Gate{Kind: impl.GateCX, B: 1}, realIntegers(1, 2, 3, 4), realIntegers(1, 4, 3, 2)},
		{impl.Gate{Kind: impl.GateCX, A: 1}, realIntegers(1, 2, 3, 4), realIntegers(1, 2, 4, 3)},
		{impl.Gate{Kind: impl.GateCZ, B: 1}, realIntegers(1, 2, 3, 4), realIntegers(1, 2, 3, -4)},
		{impl.Gate{Kind: impl.GateCZ, A: 2, B: 1}, realIntegers(1, 2, 3, 4, 5, 6, 7, 8), realIntegers(1, 2, 3, 4, 5, 6, -7, -8)},
		{impl.Gate{Kind: impl.GateSwap, B: 1}, realIntegers(1, 2, 3, 4), realIntegers(1, 3, 2, 4)},
		{impl.Gate{Kind: impl.GateSwap, A: 2}, realIntegers(1, 2, 3, 4, 5, 6, 7, 8), realIntegers(1, 5, 3, 7, 2, 6, 4, 8)},
		{impl.Gate{Kind: impl.GateCCX, B: 1, C: 2}, realIntegers(1, 2, 3, 4, 5, 6, 7, 8), realIntegers(1, 2, 3, 8, 5, 6, 7, 4)},
		{impl.Gate{Kind: impl.GateCCX, A: 2, B: 1}, realIntegers(1, 2, 3, 4, 5, 6, 7, 8), realIntegers(1, 2, 3, 4, 5, 6, 8, 7)},
	}
	for _, c := range cases {
		checkGateApplied(t, c.g, c.v, c.want, true)
	}
}

func TestAllGatesAtBasisStates(t *testing.T) {
	for n := 1; n <= 4; n++ {
		for _, g := range validGates(n) {
			for i := range 1 << n {
				want := expectedOfBasis(g, n, i)
				if other, ok := expectedGate(g, impl.BasisState(n, i)); !ok || !slices.Equal(other, want) {
					t.Fatalf("this test expects both %v and %v of %v at %d", want, other, g, i)
				}
				checkGateApplied(t, g, impl.BasisState(n, i), want, true)
				checkGatesApplied(t, []impl.Gate{g}, impl.BasisState(n, i), want, true)
			}
		}
	}
}

func TestAllGatesAtManyStates(t *testing.T) {
	applied, failed := 0, 0
	for n := 1; n <= 4; n++ {
		for _, g := range validGates(n) {
			for _, v := range someStates(n) {
				want, accept := expectedGate(g, v)
				checkGateApplied(t, g, v, want, accept)
				if accept {
					applied++
				} else {
					failed++
				}
				// Only a division or a sum can fail.
				if !accept && g.Kind != impl.GateH {
					t.Fatalf("this test expects %v of %v to fail", g, v)
				}
			}
		}
	}
	if applied < 5000 || failed < 50 {
		t.Errorf("%d gates are applied, and %d fail", applied, failed)
	}
}

// TestGatesAreLinear: a sum of states is mapped to the sum of their images, also where contributions meet.
func TestGatesAreLinear(t *testing.T) {
	for n := 1; n <= 4; n++ {
		states := statesFrom(append(eightPhases(), eightPhases()...), n)
		for _, g := range validGates(n) {
			for i := range 1 << n {
				u, v := impl.BasisState(n, i), states[i%len(states)]
				sum, ok := impl.AddStates(u, v)
				image, ok2 := impl.ApplyGate(g, u)
				other, ok3 := impl.ApplyGate(g, v)
				want, ok4 := impl.AddStates(image, other)
				if !ok || !ok2 || !ok3 || !ok4 {
					t.Fatalf("%v of %v or %v fails", g, u, v)
				}
				checkGateApplied(t, g, sum, want, true)
			}
		}
	}
}

// TestContributionsThatMeet: they cancel, add up, or leave a sum that has to be reduced.
func TestContributionsThatMeet(t *testing.T) {
	phases, h := eightPhases(), domega(1, 0, 0, 0, 1)
	cases := []struct{ x, y, sum, difference impl.DOmega }{
		{h, h, phases[0], impl.DOmega{}},
		{h, domega(-1, 0, 0, 0, 1), impl.DOmega{}, phases[0]},
		{phases[0], phases[0], domega(0, 1, 0, -1, 0), impl.DOmega{}},
		{phases[0], phases[4], impl.DOmega{}, domega(0, 1, 0, -1, 0)},
		{phases[0], phases[2], phases[1], phases[7]},
		{phases[0], phases[6], phases[7], phases[1]},
		{phases[1], phases[3], phases[2], phases[0]},
		{phases[0], phases[1], domega(1, 1, 0, 0, 1), domega(1, -1, 0, 0, 1)},
		{domega(3, 1, -2, 0, 4), domega(3, 1, -2, 0, 4), domega(3, 1, -2, 0, 3), impl.DOmega{}},
		{domega(3, 1, -2, 0, 4), domega(-3, -1, 2, 0, 4), impl.DOmega{}, domega(3, 1, -2, 0, 3)},
		{domega(0, 1, 0, -1, 0), domega(0, 1, 0, -1, 0), domega(2, 0, 0, 0, 0), impl.DOmega{}},
		{domega(3, 0, 0, 0, 2), domega(1, 0, 0, 0, 2), domega(0, 1, 0, -1, 0), h},
		{domega(1, 0, 0, 0, 59), domega(-1, 0, 0, 0, 59), impl.DOmega{}, domega(1, 0, 0, 0, 58)},
		{impl.DOmega{}, impl.DOmega{}, impl.DOmega{}, impl.DOmega{}},
	}
	for _, c := range cases {
		checkPair(t, []impl.DOmega{c.x, c.y}, []impl.DOmega{c.sum, c.difference}, true)
	}
}

// TestHadamardTwice: no trace of the contributions that cancel may remain, not even an exponent.
func TestHadamardTwice(t *testing.T) {
	for n := 1; n <= 4; n++ {
		for q := range n {
			h := gateOn(impl.GateH, q)
			for i := range 1 << n {
				checkGatesApplied(t, []impl.Gate{h, h}, impl.BasisState(n, i), impl.BasisState(n, i), true)
			}
			once, ok := impl.ApplyGate(h, impl.BasisState(n, 0))
			checkGateApplied(t, h, once, impl.BasisState(n, 0), ok)
		}
	}
	// On all four qubits in turn, and back: everything cancels but at index 0.
	all := []impl.Gate{gateOn(impl.GateH, 0), gateOn(impl.GateH, 1), gateOn(impl.GateH, 2), gateOn(impl.GateH, 3)}
	checkGatesApplied(t, all, impl.BasisState(4, 0), sameAmplitudes(16, domega(1, 0, 0, 0, 4)), true)
	checkGatesApplied(t, all, sameAmplitudes(16, domega(1, 0, 0, 0, 4)), impl.BasisState(4, 0), true)
}

// statesWithRoom returns states of n qubits at which two gates in turn stay within the limits.
func statesWithRoom(n int) [][]impl.DOmega {
	var list [][]impl.DOmega
	for i := range 1 << n {
		list = append(list, impl.BasisState(n, i), amplitudeAt(n, i, domega(0, 0, 0, -1, 58)))
	}
	small := statesFrom(append(smallAmplitudes(), append(eightPhases(), realIntegers(1, 2, 3, 4, 5, 6, 7, 8)...)...), n)
	return append(list, small[max(0, len(small)-12):]...)
}

func TestGatesAndTheirInversesCancel(t *testing.T) {
	for n := 1; n <= 4; n++ {
		for _, g := range validGates(n) {
			inverse := g
			inverse.Kind = expectedKind(g.Kind).inverse
			for _, v := range statesWithRoom(n) {
				checkGatesApplied(t, []impl.Gate{g, impl.InverseGate(g)}, v, v, true)
				checkGatesApplied(t, []impl.Gate{impl.InverseGate(g), g}, v, v, true)
				there, ok := impl.ApplyGate(g, v)
				checkGateApplied(t, inverse, there, v, ok)
				back, ok := impl.ApplyGate(inverse, v)
				checkGateApplied(t, g, back, v, ok)
			}
		}
	}
}

// TestInversesNextToTheLimits: where both applications succeed, they cancel, and only those of GateH may fail.
func TestInversesNextToTheLimits(t *testing.T) {
	cancelled, failed := 0, 0
	for n := 1; n <= 4; n++ {
		for _, g := range validGates(n) {
			for _, v := range someStates(n) {
				pair := []impl.Gate{g, impl.InverseGate(g)}
				_, accept := expectedGates(pair, v)
				if !accept && g.Kind != impl.GateH {
					t.Fatalf("this test expects %v of %v to fail", pair, v)
				}
				checkGatesApplied(t, pair, v, v, accept)
				if accept {
					cancelled++
				} else {
					failed++
				}
			}
		}
	}
	if cancelled < 5000 || failed < 50 {
		t.Errorf("%d gates cancel, and %d fail", cancelled, failed)
	}
}

// TestStepsNextToTheLimits divides both amplitudes, and adds and subtracts the results.
func TestStepsNextToTheLimits(t *testing.T) {
	whole := func(a int) impl.DOmega { return domega(a, 0, 0, 0, 0) }
	deep := func(exp int) impl.DOmega { return domega(1, 0, 0, 0, exp) }
	cases := []struct {
		x, y, sum, difference impl.DOmega
		accept                bool
	}{
		{deep(59), impl.DOmega{}, deep(60), deep(60), true},
		{deep(59), deep(59), deep(58), impl.DOmega{}, true},
		{domega(maxC-1, 0, 0, 0, 59), impl.DOmega{}, domega(maxC-1, 0, 0, 0, 60), domega(maxC-1, 0, 0, 0, 60), true},
		// The exponent of the quotient exceeds the limit, also where the sum and the difference would not.
		{deep(60), impl.DOmega{}, impl.DOmega{}, impl.DOmega{}, false},
		{impl.DOmega{}, deep(60), impl.DOmega{}, impl.DOmega{}, false},
		{deep(60), deep(60), impl.DOmega{}, impl.DOmega{}, false},
		{deep(60), domega(-1, 0, 0, 0, 60), impl.DOmega{}, impl.DOmega{}, false},
		{deep(60), deep(58), impl.DOmega{}, impl.DOmega{}, false},
		{domega(0, 0, 0, -maxC, 0), impl.DOmega{}, domega(maxC/2, 0, -maxC/2, 0, 0), domega(maxC/2, 0, -maxC/2, 0, 0), true},
		{whole(maxC), whole(maxC), domega(0, maxC, 0, -maxC, 0), impl.DOmega{}, true},
		{whole(maxC), whole(-maxC), impl.DOmega{}, domega(0, maxC, 0, -maxC, 0), true},
		{domega(maxC, 0, maxC, 0, 0), impl.DOmega{}, domega(0, maxC, 0, 0, 0), domega(0, maxC, 0, 0, 0), true},
		{domega(maxC, 0, maxC, 0, 0), domega(0, 0, 0, 1, 0), domega(maxC, 0, maxC, 1, 1), domega(maxC, 0, maxC, -1, 1), true},
		{domega(maxC, 0, maxC, 0, 0), whole(1), impl.DOmega{}, impl.DOmega{}, false},
		{whole(maxC - 1), impl.DOmega{}, domega(maxC-1, 0, 0, 0, 1), domega(maxC-1, 0, 0, 0, 1), true},
		// The sum or the difference is 2*maxC before the reduction, which is too late.
		{whole(maxC - 1), whole(maxC - 1), impl.DOmega{}, impl.DOmega{}, false},
		{whole(maxC - 1), whole(1 - maxC), impl.DOmega{}, impl.DOmega{}, false},
		{whole(maxC - 1), whole(1), domega(0, maxC/2, 0, -maxC/2, 0), domega(0, maxC/2-1, 0, 1-maxC/2, 0), true},
		{whole(maxC - 1), whole(-1), domega(0, maxC/2-1, 0, 1-maxC/2, 0), domega(0, maxC/2, 0, -maxC/2, 0), true},
		// Only the sum, or only the difference.
		{whole(maxC - 1), whole(3), impl.DOmega{}, impl.DOmega{}, false},
		{whole(maxC - 1), whole(-3), impl.DOmega{}, impl.DOmega{}, false},
		{whole(1 - maxC), whole(-3), impl.DOmega{}, impl.DOmega{}, false},
		{whole(1 - maxC), whole(3), impl.DOmega{}, impl.DOmega{}, false},
		// One of the quotients has to be lifted to the exponent of the other.
		{whole(maxC), deep(1), domega(1, maxC, 0, -maxC, 2), domega(-1, maxC, 0, -maxC, 2), true},
		{whole(maxC), deep(3), impl.DOmega{}, impl.DOmega{}, false},
		{deep(3), whole(maxC), impl.DOmega{}, impl.DOmega{}, false},
		{whole(maxC - 1), deep(1), domega(1, maxC-1, 0, 1-maxC, 2), domega(-1, maxC-1, 0, 1-maxC, 2), true},
		{whole(1), deep(59), domega(1, maxC/2, 0, -maxC/2, 60), domega(-1, maxC/2, 0, -maxC/2, 60), true},
		{whole(3), deep(59), impl.DOmega{}, impl.DOmega{}, false},
	}
	for _, c := range cases {
		checkPair(t, []impl.DOmega{c.x, c.y}, []impl.DOmega{c.sum, c.difference}, c.accept)
	}
}

// TestMovesAndPhasesAtTheLimits: an amplitude at a limit can be moved and turned.
func TestMovesAndPhasesAtTheLimits(t *testing.T) {
	for n := 1; n <= 4; n++ {
		for _, g := range validGates(n) {
			if g.Kind == impl.GateH {
				continue
			}
			for _, x := range []impl.DOmega{domega(maxC, -maxC, maxC, maxC, 0), domega(-maxC, -maxC, -maxC, 1-maxC, 60), domega(0, 0, 0, 1, 60)} {
				want, ok := expectedGate(g, sameAmplitudes(1<<n, x))
				if !ok {
					t.Fatalf("this test expects %v of %v to fail", g, x)
				}
				checkGateApplied(t, g, sameAmplitudes(1<<n, x), want, true)
			}
		}
	}
}

func TestApplyGates(t *testing.T) {
	h, x, z, s := gateOn(impl.GateH), gateOn(impl.GateX), gateOn(impl.GateZ), gateOn(impl.GateS)
	half, phases := domega(1, 0, 0, 0, 1), eightPhases()
	cases := []struct {
		list    []impl.Gate
		v, want []impl.DOmega
	}{
		{[]impl.Gate{h, gateOn(impl.GateCX, 0, 1)}, impl.BasisState(2, 0), []impl.DOmega{half, {}, {}, half}},
		{[]impl.Gate{gateOn(impl.GateCX, 0, 1), h}, impl.BasisState(2, 0), []impl.DOmega{half, half, {}, {}}},
		{[]impl.Gate{x, z}, realIntegers(1, 2), realIntegers(2, -1)},
		{[]impl.Gate{z, x}, realIntegers(1, 2), realIntegers(-2, 1)},
		{[]impl.Gate{x, s}, realIntegers(1, 0), []impl.DOmega{{}, phases[2]}},
		{[]impl.Gate{s, x}, realIntegers(1, 0), realIntegers(0, 1)},
		{[]impl.Gate{h, z, h}, realIntegers(1, 2), realIntegers(2, 1)},
		{[]impl.Gate{h, s, s, h}, realIntegers(1, 2), realIntegers(2, 1)},
		{[]impl.Gate{gateOn(impl.GateX, 1), gateOn(impl.GateX, 0), gateOn(impl.GateCCX, 0, 1, 2), gateOn(impl.GateSwap, 2, 3)}, impl.BasisState(4, 0), impl.BasisState(4, 11)},
		{[]impl.Gate{gateOn(impl.GateSwap, 2, 3), gateOn(impl.GateCCX, 0, 1, 2), gateOn(impl.GateX, 0), gateOn(impl.GateX, 1)}, impl.BasisState(4, 0), impl.BasisState(4, 3)},
		{slices.Repeat([]impl.Gate{gateOn(impl.GateT)}, 8), realIntegers(3, 5), realIntegers(3, 5)},
		{slices.Repeat([]impl.Gate{gateOn(impl.GateT)}, 3), realIntegers(1, 1), []impl.DOmega{phases[0], phases[3]}},
		{slices.Repeat([]impl.Gate{h}, 401), realIntegers(1, 0), []impl.DOmega{half, half}},
	}
	for _, c := range cases {
		checkGatesApplied(t, c.list, c.v, c.want, true)
	}
}

// TestEmptyLists: also with gates in the unused capacity.
func TestEmptyLists(t *testing.T) {
	for n := 1; n <= 4; n++ {
		for _, list := range [][]impl.Gate{nil, {}, make([]impl.Gate, 0, 4), validGates(n)[:0]} {
			for _, v := range someStates(n) {
				checkGatesApplied(t, list, v, v, true)
			}
		}
	}
	for _, v := range invalidStates() {
		checkGatesApplied(t, nil, v, nil, false)
		checkGatesApplied(t, []impl.Gate{}, v, nil, false)
	}
}

// variedGates returns lists of this length on n qubits; together they have all valid gates in many orders.
func variedGates(n, length int) [][]impl.Gate {
	var lists [][]impl.Gate
	all := validGates(n)
	for k := range all {
		var list []impl.Gate
		for i := range length {
			list = append(list, all[(k*7+i*11+k*i)%len(all)])
		}
		lists = append(lists, list)
	}
	return lists
}

func TestManyLists(t *testing.T) {
	differ, failed := 0, 0
	for n := 1; n <= 4; n++ {
		states := someStates(n)
		for k, list := range variedGates(n, 5) {
			backward := slices.Clone(list)
			slices.Reverse(backward)
			for i := range 6 {
				v := states[(k+i*5)%len(states)]
				want, accept := expectedGates(list, v)
				checkGatesApplied(t, list, v, want, accept)
				other, accept2 := expectedGates(backward, v)
				checkGatesApplied(t, backward, v, other, accept2)
				if !accept {
					failed++
				} else if accept2 && !slices.Equal(want, other) {
					differ++
				}
			}
		}
	}
	if differ < 200 || failed < 20 {
		t.Errorf("the order of %d lists counts, and %d fail", differ, failed)
	}
}

// TestConcatenatedLists: where the first list fails, so does the concatenation.
func TestConcatenatedLists(t *testing.T) {
	for n := 1; n <= 4; n++ {
		lists, states := variedGates(n, 3), someStates(n)
		for k, first := range lists {
			second := lists[(k*3+1)%len(lists)]
			for i := range 8 {
				v := states[(k*2+i*3)%len(states)]
				middle, ok := impl.ApplyGates(first, v)
				want, accept := impl.ApplyGates(second, middle)
				checkGatesApplied(t, slices.Concat(first, second), v, want, ok && accept)
			}
		}
	}
}

// TestRepeatedDivisions: the exponents grow until they exceed the limit.
func TestRepeatedDivisions(t *testing.T) {
	for n := 1; n <= 4; n++ {
		var list []impl.Gate
		v, accept := impl.BasisState(n, 0), true
		for k := 0; accept && k < 1000; k++ {
			pair := []impl.Gate{gateOn(impl.GateH, k%n), gateOn(impl.GateT, k%n)}
			list = append(list, pair...)
			v, accept = expectedGates(pair, v)
			checkGatesApplied(t, list, impl.BasisState(n, 0), v, accept)
		}
		if accept || len(list) < 40 {
			t.Errorf("the list of %d gates on %d qubits is the first to fail", len(list), n)
		}
	}
}

// TestListsWithAStepThatFails: the first, a middle or the last application exceeds a limit.
func TestListsWithAStepThatFails(t *testing.T) {
	for n := 1; n <= 4; n++ {
		h, moves := gateOn(impl.GateH), []impl.Gate{gateOn(impl.GateX), gateOn(impl.GateT), gateOn(impl.GateY)}
		for i := range 1 << n {
			deep := amplitudeAt(n, i, domega(0, 1, 0, 0, 60))
			for k := range 4 {
				checkGatesApplied(t, slices.Insert(slices.Clone(moves), k, h), deep, nil, false)
			}
			want, ok := expectedGates(moves, deep)
			checkGatesApplied(t, moves, deep, want, ok)
			// The first division reaches the limit, and the second exceeds it.
			next := amplitudeAt(n, i, domega(0, 1, 0, 0, 59))
			once, ok := expectedGate(h, next)
			checkGatesApplied(t, []impl.Gate{h}, next, once, ok)
			checkGatesApplied(t, []impl.Gate{h, h}, next, nil, false)
		}
	}
}

func TestGateMatrix(t *testing.T) {
	one, i := domega(1, 0, 0, 0, 0), domega(0, 0, 1, 0, 0)
	checkGateMatrix(t, gateOn(impl.GateX), 1, permutationOf(1, 0), true)
	checkGateMatrix(t, gateOn(impl.GateY), 1, matrixOf(2, impl.DOmega{}, domega(0, 0, -1, 0, 0), i, impl.DOmega{}), true)
	checkGateMatrix(t, gateOn(impl.GateH), 1, hadamard(), true)
	checkGateMatrix(t, gateOn(impl.GateS, 1), 2, diagonalOf(one, one, i, i), true)
	checkGateMatrix(t, gateOn(impl.GateCX, 0, 1), 2, permutationOf(0, 3, 2, 1), true)
	checkGateMatrix(t, gateOn(impl.GateCX, 1, 0), 2, permutationOf(0, 1, 3, 2), true)
	checkGateMatrix(t, gateOn(impl.GateSwap, 1, 0), 2, permutationOf(0, 2, 1, 3), true)
	checkGateMatrix(t, gateOn(impl.GateCCX, 1, 2, 0), 3, permutationOf(0, 1, 2, 3, 4, 5, 7, 6), true)
	checkGateMatrix(t, gateOn(impl.GateH, 0), 2, tensor(t, impl.IdentityMatrix(1), hadamard()), true)
	checkGateMatrix(t, gateOn(impl.GateH, 1), 2, tensor(t, hadamard(), impl.IdentityMatrix(1)), true)
	checkGateMatrix(t, gateOn(impl.GateY, 1), 3, tensor(t, impl.IdentityMatrix(1), tensor(t, ownMatrix(impl.GateY), impl.IdentityMatrix(1))), true)
}

func TestMatricesOfAllGates(t *testing.T) {
	for n := 1; n <= 4; n++ {
		for _, g := range validGates(n) {
			checkGateMatrix(t, g, n, expectedGateMatrix(g, n), true)
			m, _ := impl.GateMatrix(g, n)
			for i := range m {
				checkGateApplied(t, g, impl.BasisState(n, i), columnOf(m, i), true)
			}
			for k, v := range statesWithRoom(n) {
				if n < 4 || k%4 == 0 {
					applied, ok := impl.ApplyMatrix(m, v)
					checkGateApplied(t, g, v, applied, ok)
				}
			}
			inverse, _ := impl.GateMatrix(impl.InverseGate(g), n)
			checkAdjoint(t, m, inverse)
			checkMultiplied(t, m, inverse, impl.IdentityMatrix(n), true)
			checkMultiplied(t, inverse, m, impl.IdentityMatrix(n), true)
		}
	}
}

// TestMatricesOfLists: the matrix of the first gate stands on the right.
func TestMatricesOfLists(t *testing.T) {
	for n := 1; n <= 4; n++ {
		for k, list := range variedGates(n, 2) {
			first, _ := impl.GateMatrix(list[0], n)
			second, _ := impl.GateMatrix(list[1], n)
			product, ok := impl.MulMatrix(second, first)
			i := k % (1 << n)
			checkGatesApplied(t, list, impl.BasisState(n, i), columnOf(product, i), ok)
		}
	}
}

// TestMatricesOfPermutations: swaps and a product of them permute the indices as chapter 8 does.
func TestMatricesOfPermutations(t *testing.T) {
	for n := 2; n <= 4; n++ {
		for p := range n {
			for q := range n {
				if p == q {
					continue
				}
				exchanged := ascending(n)
				exchanged[p], exchanged[q] = q, p
				checkGateMatrix(t, gateOn(impl.GateSwap, p, q), n, impl.PermutationMatrix(exchanged), true)
			}
		}
	}
}

func TestGatesThatCannotBeApplied(t *testing.T) {
	for n := 1; n <= 4; n++ {
		for _, g := range gatesOfNoState(n) {
			checkGateApplied(t, g, impl.BasisState(n, 0), nil, false)
			checkGateMatrix(t, g, n, nil, false)
		}
		for _, g := range fewGatesOfNoState() {
			checkGateApplied(t, g, sameAmplitudes(1<<n, domega(0, 1, 0, 0, 3)), nil, false)
			checkGatesApplied(t, []impl.Gate{g}, sameAmplitudes(1<<n, domega(0, 1, 0, 0, 3)), nil, false)
		}
	}
	// The qubits of the state decide, and not those that a state may have.
	for n := 1; n <= 4; n++ {
		for _, g := range validGates(4) {
			accept := !slices.ContainsFunc(expectedQubits(g), func(q int) bool { return q >= n })
			_, ok := impl.ApplyGate(g, impl.BasisState(n, 0))
			_, ok2 := impl.GateMatrix(g, n)
			if ok != accept || ok2 != accept {
				t.Errorf("%v on %d qubits: %v and %v, want %v", g, n, ok, ok2, accept)
			}
		}
	}
}

// TestListsWithAGateThatIsNotValid: the first, a middle or the last one.
func TestListsWithAGateThatIsNotValid(t *testing.T) {
	for n := 1; n <= 4; n++ {
		valid := []impl.Gate{gateOn(impl.GateH), gateOn(impl.GateT), gateOn(impl.GateH), gateOn(impl.GateX)}
		invalid := append(fewGatesOfNoState(), gateOn(impl.GateX, n), gateOn(impl.GateCX, 0, n))
		for i := range 1 << n {
			want, ok := expectedGates(valid, impl.BasisState(n, i))
			checkGatesApplied(t, valid, impl.BasisState(n, i), want, ok)
			for _, g := range invalid {
				for k := range len(valid) + 1 {
					checkGatesApplied(t, slices.Insert(slices.Clone(valid), k, g), impl.BasisState(n, i), nil, false)
				}
				checkGatesApplied(t, []impl.Gate{g, g}, impl.BasisState(n, i), nil, false)
			}
		}
	}
}

func TestStatesThatAreNotValid(t *testing.T) {
	gates := []impl.Gate{gateOn(impl.GateX), gateOn(impl.GateZ), gateOn(impl.GateH), gateOn(impl.GateT), gateOn(impl.GateCX, 0, 1), gateOn(impl.GateCCX, 2, 1, 0), {}, gateOn(impl.GateX, 4)}
	for _, v := range invalidStates() {
		for _, g := range gates {
			checkGateApplied(t, g, v, nil, false)
			checkGatesApplied(t, []impl.Gate{g}, v, nil, false)
		}
		checkGatesApplied(t, gates[:4], v, nil, false)
	}
	for _, length := range []int{0, 1, 3, 5, 15, 17, 32} {
		for kind := range 14 {
			checkGateApplied(t, gateOn(kind), make([]impl.DOmega, length, 40), nil, false)
		}
	}
}

// TestAmplitudesThatAGateDoesNotTouch: they have to be valid too.
func TestAmplitudesThatAGateDoesNotTouch(t *testing.T) {
	for n := 1; n <= 4; n++ {
		for i := range 1 << n {
			for _, x := range amplitudesOfNoState() {
				for _, g := range validGates(n) {
					checkGateApplied(t, g, amplitudeAt(n, i, x), nil, false)
				}
			}
		}
	}
}

// sizesOfNoState returns integers of all sizes that are no number of qubits; some of them have one as their last bits.
func sizesOfNoState() []int {
	return []int{0, -1, -2, -3, -4, -64, 5, 6, 8, 16, 31, 32, 62, 63, 64, 65, 256, 257, 1 << 32, 1<<32 + 1, 1<<62 + 2, math.MinInt, math.MinInt + 1, math.MinInt + 4, math.MaxInt - 1, math.MaxInt}
}

func TestMatricesOfNoNumberOfQubits(t *testing.T) {
	for _, n := range sizesOfNoState() {
		for _, g := range slices.Concat(validGates(4), fewGatesOfNoState()) {
			checkGateMatrix(t, g, n, nil, false)
		}
	}
}

var unusedGate = impl.Gate{Kind: -7, A: 7, B: -7, C: 7}

// gateMemoryCases returns states and lists, some of which are not valid or fail at one step.
func gateMemoryCases(n int) ([][]impl.DOmega, [][]impl.Gate) {
	states := append(someStates(n), nil, make([]impl.DOmega, 3), amplitudeAt(n, 0, domega(2, 0, 0, 0, 1)), make([]impl.DOmega, 32))
	lists := append(variedGates(n, 3)[:6], nil, []impl.Gate{}, []impl.Gate{gateOn(impl.GateH)}, []impl.Gate{gateOn(impl.GateZ), {}}, []impl.Gate{{}, gateOn(impl.GateZ)})
	return states, lists
}

// TestStatesAndListsAreKept overwrites each result: neither an argument nor another result may change with it.
func TestStatesAndListsAreKept(t *testing.T) {
	for n := 1; n <= 4; n++ {
		states, lists := gateMemoryCases(n)
		for k, before := range states {
			v := withUnusedCapacity(before)
			for i, g := range append(validGates(n), fewGatesOfNoState()...) {
				if n < 3 || (i+k)%5 == 0 {
					checkFreshResults(t, "ApplyGate", func() []impl.DOmega { return firstOf(impl.ApplyGate(g, v)) })
					checkUntouched(t, "ApplyGate", v, before)
				}
			}
			for _, gates := range lists {
				list := withMarks(gates, unusedGate)
				checkFreshResults(t, "ApplyGates", func() []impl.DOmega { return firstOf(impl.ApplyGates(list, v)) })
				checkUntouched(t, "ApplyGates", v, before)
				checkMarks(t, "ApplyGates", list, gates, unusedGate)
			}
		}
	}
}

// TestGateResultsKeepTheirValues: also when an argument is overwritten afterwards.
func TestGateResultsKeepTheirValues(t *testing.T) {
	for n := 1; n <= 4; n++ {
		for _, before := range statesWithRoom(n) {
			v, list := withUnusedCapacity(before), withMarks([]impl.Gate{gateOn(impl.GateX), gateOn(impl.GateT)}, unusedGate)
			none, _ := impl.ApplyGates(nil, v)
			empty, _ := impl.ApplyGates(list[:0], v)
			turned, _ := impl.ApplyGate(gateOn(impl.GateT), v)
			both, _ := impl.ApplyGates(list, v)
			overwrite(v)
			fillWith(list, unusedGate)
			if !slices.Equal(none, before) || !slices.Equal(empty, before) {
				t.Fatalf("results of no gates at %v become %v and %v", before, none, empty)
			}
			once, _ := expectedGate(gateOn(impl.GateT), before)
			twice, _ := expectedGates([]impl.Gate{gateOn(impl.GateX), gateOn(impl.GateT)}, before)
			if !slices.Equal(turned, once) || !slices.Equal(both, twice) {
				t.Fatalf("results of gates at %v become %v and %v", before, turned, both)
			}
		}
	}
}

func TestMatricesOfGatesShareNoMemory(t *testing.T) {
	for n := 1; n <= 4; n++ {
		for _, g := range validGates(n) {
			checkFreshMatrices(t, "GateMatrix", func() [][]impl.DOmega { return firstMatrix(impl.GateMatrix(g, n)) })
		}
	}
}

// TestGatesAtPartsOfOneArray: the state and the result of another call may lie next to each other.
func TestGatesAtPartsOfOneArray(t *testing.T) {
	for n := 1; n <= 4; n++ {
		size := 1 << n
		for _, g := range validGates(n) {
			before := slices.Concat(impl.BasisState(n, size-1), sameAmplitudes(size, domega(0, 1, 0, 0, 2)), impl.BasisState(n, 0))
			array := slices.Clone(before)
			for k := range 3 {
				want, ok := expectedGate(g, before[k*size:(k+1)*size])
				checkGateApplied(t, g, array[k*size:(k+1)*size], want, ok)
				checkGatesApplied(t, nil, array[k*size:(k+1)*size], before[k*size:(k+1)*size], true)
			}
			if !slices.Equal(array, before) {
				t.Fatalf("%v changes %v to %v", g, before, array)
			}
		}
	}
}
