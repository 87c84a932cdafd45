package tests

import (
	"math"
	"slices"
	"testing"

	"loop.example/g00506/impl"
)

// Promise 9: gate inversion is an involution.
// Promise 47: every function is total, pure, and does not modify its arguments.

type gateKind struct {
	constant   int
	name       string
	arity      int
	inverse    int
	isClifford bool
}

// gateKinds returns at index k what the specification says of kind k; at 0 it is what it says of a kind that is none.
func gateKinds() []gateKind {
	return []gateKind{
		{0, "", 0, 0, false},
		{impl.GateX, "x", 1, 1, true},
		{impl.GateY, "y", 1, 2, true},
		{impl.GateZ, "z", 1, 3, true},
		{impl.GateH, "h", 1, 4, true},
		{impl.GateS, "s", 1, 6, true},
		{impl.GateSdg, "sd", 1, 5, true},
		{impl.GateT, "t", 1, 8, false},
		{impl.GateTdg, "td", 1, 7, false},
		{impl.GateCX, "cx", 2, 9, true},
		{impl.GateCZ, "cz", 2, 10, true},
		{impl.GateSwap, "swap", 2, 11, true},
		{impl.GateCCX, "ccx", 3, 12, false},
	}
}

// kindsOfNoGate returns integers of all sizes that are no kind; some of them have a kind as their last bits.
func kindsOfNoGate() []int {
	return []int{
		-1, 0, 13, 14, 15, 16, -2, -5, -7, -9, -12, -13, 17, 20, 28, 32, 64, 65, 73, 128, 256, 257, 265, 268, 65536 + 12,
		1 << 32, 1<<32 + 1, 1<<32 + 9, -1 << 32, 1 - 1<<32, 12 - 1<<32, 1 << 62, 1<<62 + 12,
		math.MinInt, math.MinInt + 1, math.MinInt + 5, math.MinInt + 12, math.MaxInt - 1, math.MaxInt,
	}
}

// kindsFromMinusOneTo14 has all kinds and some that are none.
func kindsFromMinusOneTo14() []int {
	list := []int{}
	for kind := -1; kind <= 14; kind++ {
		list = append(list, kind)
	}
	return list
}

func expectedKind(kind int) gateKind {
	if kind < 1 || kind > 12 {
		return gateKinds()[0]
	}
	return gateKinds()[kind]
}

// qubitsOfNoGate returns integers that are no qubit of a gate on up to four qubits; some of them have a qubit as their last bits.
func qubitsOfNoGate() []int {
	return []int{-1, -2, -3, -4, math.MinInt, math.MinInt + 1, math.MinInt + 3, -1 << 32, 1 - 1<<32, 4, 5, 8, 16, 64, 65, 256, 257, 1 << 32, 1<<32 + 2, 1 << 62, math.MaxInt - 1, math.MaxInt}
}

func gateOn(kind int, qubits ...int) impl.Gate {
	all := append(slices.Clone(qubits), 0, 0, 0)
	return impl.Gate{Kind: kind, A: all[0], B: all[1], C: all[2]}
}

// gatesWithQubits returns the gate of this kind with each choice of A, B and C from the list.
func gatesWithQubits(kind int, list []int) []impl.Gate {
	var gates []impl.Gate
	for _, qubits := range slicesOf(3, list) {
		gates = append(gates, gateOn(kind, qubits...))
	}
	return gates
}

// validGates returns all valid gates on n qubits: the first qubits of all orders, each choice once.
func validGates(n int) []impl.Gate {
	var gates []impl.Gate
	for kind, k := range gateKinds() {
		if k.arity == 0 || k.arity > n {
			continue
		}
		for _, p := range permutationsOf(n) {
			if g := gateOn(kind, p[:k.arity]...); !slices.Contains(gates, g) {
				gates = append(gates, g)
			}
		}
	}
	return gates
}

// expectedQubits returns the first qubits of the gate, as many as its kind has.
func expectedQubits(g impl.Gate) []int {
	return []int{g.A, g.B, g.C}[:expectedKind(g.Kind).arity]
}

func checkKind(t *testing.T, kind int) {
	t.Helper()
	want := expectedKind(kind)
	if got := impl.Arity(kind); got != want.arity {
		t.Errorf("Arity(%d) = %d, want %d", kind, got, want.arity)
	}
	if got := impl.GateName(kind); got != want.name {
		t.Errorf("GateName(%d) = %q, want %q", kind, got, want.name)
	}
	for _, qubits := range [][]int{{}, {1}, {0, 1}, {2, 1, 0}, {1, 1, 1}, {-1, 4, 5}, {math.MinInt, math.MaxInt, math.MinInt}} {
		if got := impl.IsClifford(gateOn(kind, qubits...)); got != want.isClifford {
			t.Errorf("IsClifford(%v) = %v", gateOn(kind, qubits...), got)
		}
	}
}

func checkValidGate(t *testing.T, g impl.Gate, n int, want bool) {
	t.Helper()
	if got := impl.IsValidGate(g, n); got != want {
		t.Errorf("IsValidGate(%v, %d) = %v", g, n, got)
	}
}

func checkInverseGate(t *testing.T, g, want impl.Gate) {
	t.Helper()
	inverse := impl.InverseGate(g)
	if inverse != want {
		t.Errorf("InverseGate(%v) = %v, want %v", g, inverse, want)
	}
	if back := impl.InverseGate(inverse); back != g {
		t.Errorf("the inverse of InverseGate(%v) = %v is %v", g, inverse, back)
	}
}

// checkGateQubits expects no qubits and nothing acted on of a kind that is none.
func checkGateQubits(t *testing.T, g impl.Gate) {
	t.Helper()
	want := expectedQubits(g)
	if got := impl.GateQubits(g); !slices.Equal(got, want) {
		t.Errorf("GateQubits(%v) = %v, want %v", g, got, want)
	}
	for _, q := range append(qubitsOfNoGate(), 0, 1, 2, 3, g.A, g.B, g.C) {
		if got := impl.ActsOn(g, q); got != slices.Contains(want, q) {
			t.Errorf("ActsOn(%v, %d) = %v", g, q, got)
		}
	}
}

func TestKinds(t *testing.T) {
	for kind, k := range gateKinds() {
		if k.constant != kind {
			t.Errorf("the kind of %q is %d", k.name, k.constant)
		}
	}
	for _, kind := range slices.Concat(kindsFromMinusOneTo14(), kindsOfNoGate()) {
		checkKind(t, kind)
	}
}

func TestNamesDiffer(t *testing.T) {
	names := map[string]bool{}
	for kind := 1; kind <= 12; kind++ {
		names[impl.GateName(kind)] = true
	}
	if len(names) != 12 || names[""] {
		t.Errorf("the names are %v", names)
	}
}

func TestIsValidGate(t *testing.T) {
	cases := []struct {
		g    impl.Gate
		n    int
		want bool
	}{
		{impl.Gate{Kind: impl.GateX}, 1, true},
		{impl.Gate{Kind: impl.GateX}, 4, true},
		{impl.Gate{Kind: impl.GateTdg, A: 3}, 4, true},
		{impl.Gate{Kind: impl.GateTdg, A: 3}, 3, false},
		{impl.Gate{Kind: impl.GateCX, A: 1}, 2, true},
		{impl.Gate{Kind: impl.GateCX, B: 1}, 2, true},
		{impl.Gate{Kind: impl.GateCX, B: 1}, 1, false},
		{impl.Gate{Kind: impl.GateCX, A: 3, B: 2}, 4, true},
		{impl.Gate{Kind: impl.GateCX, A: 3, B: 2}, 3, false},
		{impl.Gate{Kind: impl.GateCCX, A: 2, B: 1}, 3, true},
		{impl.Gate{Kind: impl.GateCCX, A: 1, B: 3, C: 2}, 4, true},
		{impl.Gate{Kind: impl.GateCCX, A: 1, B: 3, C: 2}, 3, false},
		{impl.Gate{Kind: impl.GateCCX, A: 1, C: 2}, 2, false},
		// Two equal qubits.
		{impl.Gate{Kind: impl.GateCX}, 2, false},
		{impl.Gate{Kind: impl.GateCZ, A: 1, B: 1}, 2, false},
		{impl.Gate{Kind: impl.GateSwap, A: 3, B: 3}, 4, false},
		{impl.Gate{Kind: impl.GateCCX, B: 1}, 4, false},
		{impl.Gate{Kind: impl.GateCCX, A: 1}, 4, false},
		{impl.Gate{Kind: impl.GateCCX, A: 2, B: 2, C: 1}, 4, false},
		// An unused qubit that is not 0, even if a gate could use it.
		{impl.Gate{Kind: impl.GateX, B: 1}, 4, false},
		{impl.Gate{Kind: impl.GateX, C: 1}, 4, false},
		{impl.Gate{Kind: impl.GateH, A: 1, B: 2, C: 3}, 4, false},
		{impl.Gate{Kind: impl.GateH, A: 1, B: 1}, 4, false},
		{impl.Gate{Kind: impl.GateCX, A: 1, C: 2}, 4, false},
		{impl.Gate{Kind: impl.GateCX, A: 2, B: 1, C: -1}, 4, false},
		// No kind.
		{impl.Gate{}, 1, false},
		{impl.Gate{Kind: -1}, 1, false},
		{impl.Gate{Kind: 13}, 4, false},
		{impl.Gate{Kind: 13, A: 2, B: 1}, 4, false},
	}
	for _, c := range cases {
		checkValidGate(t, c.g, c.n, c.want)
	}
}

// TestAllSmallGates expects exactly the gates on n qubits that use distinct ones of them.
func TestAllSmallGates(t *testing.T) {
	for n := 0; n <= 5; n++ {
		valid := []impl.Gate{}
		if n >= 1 && n <= 4 {
			valid = validGates(n)
		}
		// Eight kinds on one qubit, three on two and one on three.
		if want := []int{0, 8, 8*2 + 3*2, 8*3 + 3*6 + 6, 8*4 + 3*12 + 24, 0}[n]; len(valid) != want {
			t.Fatalf("%d gates on %d qubits, not %d", len(valid), n, want)
		}
		for _, kind := range kindsFromMinusOneTo14() {
			for _, g := range gatesWithQubits(kind, []int{-1, 0, 1, 2, 3, 4}) {
				checkValidGate(t, g, n, slices.Contains(valid, g))
			}
		}
	}
}

// changedGates returns the gate with each of its qubits replaced by each integer that is no qubit of four.
func changedGates(g impl.Gate) []impl.Gate {
	var list []impl.Gate
	for _, q := range qubitsOfNoGate() {
		a, b, c := g, g, g
		a.A, b.B, c.C = q, q, q
		list = append(list, a, b, c)
	}
	return list
}

func TestGatesThatAreNotValid(t *testing.T) {
	for n := 1; n <= 4; n++ {
		for _, g := range validGates(n) {
			for _, changed := range changedGates(g) {
				checkValidGate(t, changed, n, false)
			}
			for _, kind := range kindsOfNoGate() {
				changed := g
				changed.Kind = kind
				checkValidGate(t, changed, n, false)
			}
			for _, size := range []int{0, -1, -n, -4, 5, 6, 16, 64, 65, 256 + n, 1<<32 + n, n - 1<<32, 1<<62 + n, math.MinInt, math.MinInt + n, math.MaxInt - 1, math.MaxInt} {
				checkValidGate(t, g, size, false)
			}
		}
	}
}

// TestUnusedQubits changes each unused qubit of each valid gate.
func TestUnusedQubits(t *testing.T) {
	for _, g := range validGates(4) {
		arity := expectedKind(g.Kind).arity
		for _, x := range []int{1, 2, 3, 4, -1, math.MinInt, math.MaxInt} {
			for k := arity; k < 3; k++ {
				qubits := changedInt([]int{g.A, g.B, g.C}, k, x)
				changed := gateOn(g.Kind, qubits...)
				checkValidGate(t, changed, 4, false)
				if got := impl.GateQubits(changed); !slices.Equal(got, expectedQubits(g)) {
					t.Errorf("GateQubits(%v) = %v", changed, got)
				}
				if got := impl.ActsOn(changed, x); got != slices.Contains(expectedQubits(g), x) {
					t.Errorf("ActsOn(%v, %d) = %v", changed, x, got)
				}
			}
		}
	}
}

func TestGateQubits(t *testing.T) {
	cases := []struct {
		g    impl.Gate
		want []int
	}{
		{impl.Gate{Kind: impl.GateH}, []int{0}},
		{impl.Gate{Kind: impl.GateT, A: 2}, []int{2}},
		{impl.Gate{Kind: impl.GateX, A: 2, B: 1, C: 3}, []int{2}},
		{impl.Gate{Kind: impl.GateCX, A: 3, B: 1}, []int{3, 1}},
		{impl.Gate{Kind: impl.GateCX, B: 2}, []int{0, 2}},
		{impl.Gate{Kind: impl.GateSwap, A: 1, B: 2, C: 3}, []int{1, 2}},
		{impl.Gate{Kind: impl.GateCCX, A: 2, B: 3, C: 1}, []int{2, 3, 1}},
		// The qubits may be any integers.
		{impl.Gate{Kind: impl.GateZ, A: -1}, []int{-1}},
		{impl.Gate{Kind: impl.GateCZ, A: 1, B: 1}, []int{1, 1}},
		{impl.Gate{Kind: impl.GateCCX, A: math.MaxInt, B: 1, C: math.MinInt}, []int{math.MaxInt, 1, math.MinInt}},
		// No kind, no qubits.
		{impl.Gate{}, nil},
		{impl.Gate{Kind: -1, A: 1, B: 2, C: 3}, nil},
		{impl.Gate{Kind: 13, A: 1, B: 2, C: 3}, nil},
	}
	for _, c := range cases {
		if got := impl.GateQubits(c.g); !slices.Equal(got, c.want) {
			t.Errorf("GateQubits(%v) = %v, want %v", c.g, got, c.want)
		}
	}
}

func TestActsOn(t *testing.T) {
	cases := []struct {
		g    impl.Gate
		q    int
		want bool
	}{
		{impl.Gate{Kind: impl.GateH, A: 2}, 2, true},
		// 0 is the value of the unused fields, but no qubit of the gate.
		{impl.Gate{Kind: impl.GateH, A: 2}, 0, false},
		{impl.Gate{Kind: impl.GateCX, A: 1, B: 3}, 0, false},
		{impl.Gate{Kind: impl.GateH}, 0, true},
		{impl.Gate{Kind: impl.GateCX, A: 1}, 0, true},
		{impl.Gate{Kind: impl.GateCX, A: 1, B: 3}, 1, true},
		{impl.Gate{Kind: impl.GateCX, A: 1, B: 3}, 3, true},
		{impl.Gate{Kind: impl.GateCX, A: 1, B: 3}, 2, false},
		{impl.Gate{Kind: impl.GateCX, A: 1, B: 3, C: 2}, 2, false},
		{impl.Gate{Kind: impl.GateCCX, A: 1, B: 3, C: 2}, 1, true},
		{impl.Gate{Kind: impl.GateCCX, A: 1, B: 3, C: 2}, 2, true},
		{impl.Gate{Kind: impl.GateCCX, A: 1, B: 3, C: 2}, 3, true},
		{impl.Gate{Kind: impl.GateCCX, A: 1, B: 3, C: 2}, 0, false},
		{impl.Gate{Kind: impl.GateCCX, A: 1, B: 3, C: 2}, -1, false},
		{impl.Gate{Kind: impl.GateCCX, A: 1, B: 3, C: 2}, math.MaxInt, false},
		{impl.Gate{}, 0, false},
		{impl.Gate{Kind: 13, A: 1}, 1, false},
	}
	for _, c := range cases {
		if got := impl.ActsOn(c.g, c.q); got != c.want {
			t.Errorf("ActsOn(%v, %d) = %v", c.g, c.q, got)
		}
	}
}

func TestQubitsOfAllGates(t *testing.T) {
	for _, kind := range slices.Concat(kindsFromMinusOneTo14(), []int{math.MinInt, math.MaxInt}) {
		for _, g := range gatesWithQubits(kind, []int{-1, 0, 1, 2, 3, math.MaxInt}) {
			checkGateQubits(t, g)
		}
	}
	for _, kind := range kindsOfNoGate() {
		checkGateQubits(t, gateOn(kind, 3, 1, 2))
	}
}

// TestInverseGate keeps the qubits, used or not, valid or not, and leaves a kind that is none as it is.
func TestInverseGate(t *testing.T) {
	for _, kind := range slices.Concat(kindsFromMinusOneTo14(), kindsOfNoGate()) {
		inverse := kind
		if kind >= 1 && kind <= 12 {
			inverse = expectedKind(kind).inverse
		}
		for _, qubits := range slicesOf(3, []int{-1, 0, 1, 2, 3, 4, math.MinInt, math.MaxInt}) {
			checkInverseGate(t, gateOn(kind, qubits...), gateOn(inverse, qubits...))
		}
	}
}

func TestInversesOfValidGates(t *testing.T) {
	for n := 1; n <= 4; n++ {
		for _, g := range validGates(n) {
			inverse := impl.InverseGate(g)
			checkValidGate(t, inverse, n, true)
			if impl.IsClifford(inverse) != impl.IsClifford(g) || impl.Arity(inverse.Kind) != impl.Arity(g.Kind) {
				t.Errorf("InverseGate(%v) = %v", g, inverse)
			}
		}
	}
	own := 0
	for kind := 1; kind <= 12; kind++ {
		if g := gateOn(kind, 0, 1, 2); impl.InverseGate(g) == g {
			own++
		}
	}
	if own != 8 {
		t.Errorf("%d kinds are their own inverse", own)
	}
}

func TestGateQubitsShareNoMemory(t *testing.T) {
	for _, g := range append(validGates(4), gateOn(13, 1, 2, 3), gateOn(impl.GateX, 1, 2, 3), gateOn(impl.GateCX, 1, 2, 3)) {
		checkFreshInts(t, "GateQubits", func() []int { return impl.GateQubits(g) })
	}
}

// TestGateQueriesInAnyOrder expects the same results of every call, whatever was asked in between.
func TestGateQueriesInAnyOrder(t *testing.T) {
	kinds := append(kindsFromMinusOneTo14(), kindsOfNoGate()...)
	for range 2 {
		for _, kind := range kinds {
			checkKind(t, kind)
			checkGateQubits(t, gateOn(kind, 2, 0, 1))
			checkGateQubits(t, gateOn(kind, 3, 2, 0))
		}
		slices.Reverse(kinds)
	}
}
