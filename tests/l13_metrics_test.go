package tests

import (
	"slices"
	"strings"
	"testing"

	"loop.example/g00506/impl"
)

// Promise 13: layers preserve the operation.
// Promise 47: every function is total, pure, and does not modify its arguments.

// gatesIn returns the gates of a text such as "h 0;cx 0 1".
func gatesIn(text string) []impl.Gate {
	var list []impl.Gate
	for _, s := range strings.FieldsFunc(text, func(r rune) bool { return r == ';' }) {
		g, ok := gatesByText()[s]
		if !ok {
			panic("this test has a text that is no gate: " + s)
		}
		list = append(list, g)
	}
	return list
}

// layersIn returns the layers of a text such as "h 0;h 1||cx 0 1", the second of which is empty; an empty text has no layer.
func layersIn(text string) [][]impl.Gate {
	var layers [][]impl.Gate
	if text == "" {
		return nil
	}
	for _, s := range strings.Split(text, "|") {
		layers = append(layers, gatesIn(s))
	}
	return layers
}

func haveSharedQubit(g, h impl.Gate) bool {
	return slices.ContainsFunc(expectedQubits(g), func(q int) bool { return slices.Contains(expectedQubits(h), q) })
}

// expectedLayers moves each gate down from above the last layer, until the layer below has a gate on one of its qubits.
func expectedLayers(c impl.Circuit) [][]impl.Gate {
	var layers [][]impl.Gate
	for _, g := range c.Gates {
		k := len(layers)
		for k > 0 && !slices.ContainsFunc(layers[k-1], func(h impl.Gate) bool { return haveSharedQubit(g, h) }) {
			k--
		}
		if k == len(layers) {
			layers = append(layers, nil)
		}
		layers[k] = append(layers[k], g)
	}
	return layers
}

// longestChain is the length of the longest sequence of gates of which each shares a qubit with the one before it.
func longestChain(list []impl.Gate) int {
	lengths, longest := make([]int, len(list)), 0
	for i, g := range list {
		for k, h := range list[:i] {
			if haveSharedQubit(g, h) {
				lengths[i] = max(lengths[i], lengths[k])
			}
		}
		lengths[i]++
		longest = max(longest, lengths[i])
	}
	return longest
}

// canBeLayer compares each gate with all that stand behind it.
func canBeLayer(list []impl.Gate) bool {
	for i, g := range list {
		if slices.ContainsFunc(list[i+1:], func(h impl.Gate) bool { return haveSharedQubit(g, h) }) {
			return false
		}
	}
	return true
}

// oneByOne has a layer for each gate.
func oneByOne(list []impl.Gate) [][]impl.Gate {
	var layers [][]impl.Gate
	for _, g := range list {
		layers = append(layers, []impl.Gate{g})
	}
	return layers
}

// layeredCircuits returns circuits on n qubits in some of which most gates act on one qubit, and so often fit into an earlier layer.
func layeredCircuits(n int) []impl.Circuit {
	list, valid := someCircuits(n), validGates(n)
	for k := range 30 {
		var gates []impl.Gate
		for i := range []int{3, 6, 10, 24, maxGates}[k%5] {
			x := (k*k*13 + i*i*7 + i*k*5 + i) % 97
			if i%5 == 4 {
				gates = append(gates, valid[x%len(valid)])
			} else {
				gates = append(gates, gateOn(impl.GateX+x%8, x/8%n))
			}
		}
		list = append(list, circuitOf(n, gates...))
	}
	return list
}

func checkCounts(t *testing.T, c impl.Circuit, kind, want int) {
	t.Helper()
	if got := impl.CountGates(c, kind); got != want {
		t.Fatalf("CountGates(%v, %d) = %d, want %d", c, kind, got, want)
	}
}

func checkTAndTwoQubitCount(t *testing.T, c impl.Circuit, ts, twos int) {
	t.Helper()
	if gotTs, gotTwos := impl.TCount(c), impl.TwoQubitCount(c); gotTs != ts || gotTwos != twos {
		t.Fatalf("TCount and TwoQubitCount of %v are %d and %d, want %d and %d", c, gotTs, gotTwos, ts, twos)
	}
}

func checkLayers(t *testing.T, c impl.Circuit, want [][]impl.Gate) {
	t.Helper()
	if got := impl.CircuitLayers(c); !sameRows(got, want) {
		t.Fatalf("CircuitLayers(%v) = %v, want %v", c, got, want)
	}
	if got := impl.CircuitDepth(c); got != len(want) {
		t.Fatalf("CircuitDepth(%v) = %d, want %d", c, got, len(want))
	}
}

// checkFromLayers expects the gates of the layers in order, or no circuit if it is not to be accepted.
func checkFromLayers(t *testing.T, n int, list [][]impl.Gate, accept bool) {
	t.Helper()
	got, ok := impl.CircuitFromLayers(n, list)
	checkCircuit(t, "CircuitFromLayers", []any{n, list}, got, ok, circuitOf(n, slices.Concat(list...)...), accept)
}

// checkAllCounts counts every kind, and some that are none, one gate after the other.
func checkAllCounts(t *testing.T, c impl.Circuit) {
	t.Helper()
	ts, twos, counts := 0, 0, map[int]int{}
	for _, g := range c.Gates {
		counts[g.Kind]++
		if g.Kind == impl.GateT || g.Kind == impl.GateTdg {
			ts++
		}
		if expectedKind(g.Kind).arity > 1 {
			twos++
		}
	}
	for _, kind := range append(kindsFromMinusOneTo14(), kindsOfNoGate()...) {
		checkCounts(t, c, kind, counts[kind])
	}
	checkTAndTwoQubitCount(t, c, ts, twos)
}

func TestCountsOfEachKind(t *testing.T) {
	// k gates of each kind k up to 10, two swaps and three CCX gates are as many as there may be.
	var list []impl.Gate
	for kind := impl.GateX; kind <= 10; kind++ {
		list = append(list, slices.Repeat([]impl.Gate{gateOn(kind, []int{2, 0, 1}[:expectedKind(kind).arity]...)}, kind)...)
	}
	list = append(list, gatesIn("swap 0 1;swap 1 3;ccx 0 1 2;ccx 3 2 0;ccx 1 3 0")...)
	c := circuitOf(4, list...)
	checkValidCircuit(t, c, len(list) == maxGates)
	for kind := impl.GateX; kind <= 10; kind++ {
		checkCounts(t, c, kind, kind)
	}
	checkCounts(t, c, impl.GateSwap, 2)
	checkCounts(t, c, impl.GateCCX, 3)
	checkTAndTwoQubitCount(t, c, 7+8, 9+10+2+3)
	for _, kind := range kindsOfNoGate() {
		checkCounts(t, c, kind, 0)
	}
	// The qubits and the order of the gates do not matter.
	slices.Reverse(list)
	checkAllCounts(t, circuitOf(4, list...))
}

func TestCountsOfShortCircuits(t *testing.T) {
	for n := 1; n <= 4; n++ {
		for _, c := range emptyCircuits(n) {
			for _, kind := range append(kindsFromMinusOneTo14(), kindsOfNoGate()...) {
				checkCounts(t, c, kind, 0)
			}
			checkTAndTwoQubitCount(t, c, 0, 0)
		}
		for _, g := range validGates(n) {
			for _, kind := range append(kindsFromMinusOneTo14(), kindsOfNoGate()...) {
				want := 0
				if kind == g.Kind {
					want = 1
				}
				checkCounts(t, circuitOf(n, g), kind, want)
				checkCounts(t, circuitOf(n, slices.Repeat([]impl.Gate{g}, maxGates)...), kind, maxGates*want)
			}
		}
	}
	checkTAndTwoQubitCount(t, circuitOf(1, gatesIn("t 0")...), 1, 0)
	checkTAndTwoQubitCount(t, circuitOf(1, gatesIn("td 0")...), 1, 0)
	checkTAndTwoQubitCount(t, circuitOf(1, gatesIn("s 0;sd 0;h 0")...), 0, 0)
	checkTAndTwoQubitCount(t, circuitOf(2, gatesIn("cx 0 1")...), 0, 1)
	checkTAndTwoQubitCount(t, circuitOf(2, gatesIn("cz 0 1")...), 0, 1)
	checkTAndTwoQubitCount(t, circuitOf(2, gatesIn("swap 0 1")...), 0, 1)
	checkTAndTwoQubitCount(t, circuitOf(3, gatesIn("ccx 0 1 2")...), 0, 1)
	checkTAndTwoQubitCount(t, circuitOf(3, gatesIn("t 0;ccx 0 1 2;td 2;cx 1 0;t 0;h 1")...), 3, 2)
}

func TestCountsOfManyCircuits(t *testing.T) {
	for n := 1; n <= 4; n++ {
		for _, c := range layeredCircuits(n) {
			checkAllCounts(t, c)
			total := 0
			for kind := impl.GateX; kind <= impl.GateCCX; kind++ {
				total += impl.CountGates(c, kind)
			}
			if total != len(c.Gates) {
				t.Fatalf("%v has %d gates of the twelve kinds", c, total)
			}
		}
	}
}

// TestCountsOfCircuitsThatAreNotValid: the chapter excludes none of them, so that their gates count as they stand, those of no kind too.
func TestCountsOfCircuitsThatAreNotValid(t *testing.T) {
	checkCounts(t, impl.Circuit{}, 0, 0)
	checkCounts(t, circuitOf(0, impl.Gate{}, gateOn(impl.GateH), impl.Gate{}), 0, 2)
	checkCounts(t, circuitOf(2, impl.Gate{Kind: 13}, gateOn(impl.GateH, 9)), 13, 1)
	checkCounts(t, circuitOf(2, impl.Gate{Kind: 13}, gateOn(impl.GateH, 9)), impl.GateH, 1)
	checkTAndTwoQubitCount(t, circuitOf(-1, gateOn(impl.GateT, -1), gateOn(impl.GateCX), gateOn(impl.GateCCX, 7, 7, 7), impl.Gate{Kind: 13, A: 0, B: 1, C: 2}), 1, 2)
	checkTAndTwoQubitCount(t, circuitOf(4, slices.Repeat(gatesIn("t 0;td 1;cz 2 3;ccx 0 1 2;swap 0 1"), 200)...), 400, 600)
	for _, c := range invalidCircuits() {
		checkAllCounts(t, c)
	}
}

// layerCases has circuits and their layers, written down.
func layerCases() []struct {
	n             int
	gates, layers string
} {
	return []struct {
		n             int
		gates, layers string
	}{
		{1, "", ""}, {2, "", ""}, {3, "", ""}, {4, "", ""},
		{1, "h 0", "h 0"},
		{1, "h 0;t 0;h 0", "h 0|t 0|h 0"},
		// Gates that share no qubit stay in their order.
		{2, "h 0;t 1", "h 0;t 1"},
		{2, "t 1;h 0", "t 1;h 0"},
		{3, "cx 1 2;h 0", "cx 1 2;h 0"},
		{3, "h 0;cx 2 1", "h 0;cx 2 1"},
		{4, "x 3;y 1;z 2;h 0", "x 3;y 1;z 2;h 0"},
		{4, "cx 3 1;swap 0 2", "cx 3 1;swap 0 2"},
		{4, "ccx 3 1 2;t 0", "ccx 3 1 2;t 0"},
		{4, "ccx 0 1 2;t 3", "ccx 0 1 2;t 3"},
		// Gates that share one qubit, as each of those on which they act.
		{2, "x 0;cx 0 1", "x 0|cx 0 1"},
		{2, "x 1;cx 0 1", "x 1|cx 0 1"},
		{2, "cz 0 1;h 1", "cz 0 1|h 1"},
		{3, "cx 0 1;cx 1 2", "cx 0 1|cx 1 2"},
		{3, "cx 0 1;cx 2 0", "cx 0 1|cx 2 0"},
		{3, "cx 0 1;cx 0 2", "cx 0 1|cx 0 2"},
		{3, "cx 1 0;cx 2 0", "cx 1 0|cx 2 0"},
		{3, "h 0;ccx 0 1 2", "h 0|ccx 0 1 2"},
		{3, "h 1;ccx 0 1 2", "h 1|ccx 0 1 2"},
		{3, "h 2;ccx 0 1 2", "h 2|ccx 0 1 2"},
		{3, "ccx 0 1 2;h 2", "ccx 0 1 2|h 2"},
		{4, "ccx 0 1 2;swap 3 2", "ccx 0 1 2|swap 3 2"},
		// Gates that share two or three qubits.
		{2, "cx 0 1;cx 0 1", "cx 0 1|cx 0 1"},
		{2, "cx 0 1;cx 1 0;swap 0 1", "cx 0 1|cx 1 0|swap 0 1"},
		{3, "cz 0 1;ccx 2 0 1", "cz 0 1|ccx 2 0 1"},
		{3, "ccx 0 1 2;ccx 2 1 0", "ccx 0 1 2|ccx 2 1 0"},
		{4, "ccx 0 1 2;ccx 1 2 3", "ccx 0 1 2|ccx 1 2 3"},
		// A gate fits into an earlier layer than the gate before it.
		{2, "h 0;t 0;x 1", "h 0;x 1|t 0"},
		{2, "h 0;t 0;s 0;x 1;y 1;z 1;h 1", "h 0;x 1|t 0;y 1|s 0;z 1|h 1"},
		{3, "cx 0 1;x 1;y 1;h 2;t 0", "cx 0 1;h 2|x 1;t 0|y 1"},
		{4, "x 0;y 0;z 0;cx 1 2;h 3;cx 2 3;t 1", "x 0;cx 1 2;h 3|y 0;cx 2 3;t 1|z 0"},
		// It follows the later one of its qubits, and no gap before that is used.
		{2, "h 0;t 0;x 1;cx 1 0;s 1", "h 0;x 1|t 0|cx 1 0|s 1"},
		{2, "h 0;t 0;cx 0 1;x 1", "h 0|t 0|cx 0 1|x 1"},
		{2, "h 1;t 1;cx 0 1;x 0", "h 1|t 1|cx 0 1|x 0"},
		{3, "h 0;cx 0 1;cx 1 2;h 0;h 2;h 1", "h 0|cx 0 1|cx 1 2;h 0|h 2;h 1"},
		{4, "cx 0 1;cx 2 3;cx 1 2;h 0;h 3;cx 0 3", "cx 0 1;cx 2 3|cx 1 2;h 0;h 3|cx 0 3"},
		// A CCX between gates on its qubits and on the other one.
		{4, "h 0;ccx 0 1 2;h 3;h 1;t 3;x 3", "h 0;h 3|ccx 0 1 2;t 3|h 1;x 3"},
		{4, "h 3;t 3;ccx 0 1 2;x 3;y 0", "h 3;ccx 0 1 2|t 3;y 0|x 3"},
		{4, "x 1;x 2;y 2;h 0;ccx 1 3 2;t 0;t 1;t 2;t 3", "x 1;x 2;h 0|y 2;t 0|ccx 1 3 2|t 1;t 2;t 3"},
		{4, "s 2;ccx 0 3 1;z 2;z 3;sd 1", "s 2;ccx 0 3 1|z 2;z 3;sd 1"},
	}
}

func TestCircuitLayers(t *testing.T) {
	for _, c := range layerCases() {
		checkLayers(t, circuitOf(c.n, gatesIn(c.gates)...), layersIn(c.layers))
		// More qubits do not change the layers.
		for n := c.n; n <= 4; n++ {
			checkLayers(t, circuitOf(n, gatesIn(c.gates)...), layersIn(c.layers))
			checkFromLayers(t, n, layersIn(c.layers), true)
		}
	}
}

func TestLayersOfManyCircuits(t *testing.T) {
	deep, early := 0, 0
	for n := 1; n <= 4; n++ {
		for _, c := range layeredCircuits(n) {
			layers := expectedLayers(c)
			checkLayers(t, c, layers)
			if len(layers) != longestChain(c.Gates) {
				t.Fatalf("this test expects %d layers of %v", len(layers), c)
			}
			if len(layers) >= 20 {
				deep++
			}
			if !slices.Equal(slices.Concat(layers...), c.Gates) {
				early++
			}
		}
		for _, c := range emptyCircuits(n) {
			checkLayers(t, c, nil)
		}
	}
	if deep < 8 || early < 80 {
		t.Errorf("%d circuits have many layers, and %d a gate that fits into an earlier one", deep, early)
	}
}

// TestLayersOfTwoGates: two gates need two layers exactly if they share a qubit.
func TestLayersOfTwoGates(t *testing.T) {
	shared, apart := 0, 0
	for n := 1; n <= 4; n++ {
		for _, g := range validGates(n) {
			for _, h := range validGates(n) {
				want := [][]impl.Gate{{g, h}}
				if haveSharedQubit(g, h) {
					want = [][]impl.Gate{{g}, {h}}
					shared++
				} else {
					apart++
				}
				checkLayers(t, circuitOf(n, g, h), want)
				checkFromLayers(t, n, want, true)
				checkFromLayers(t, n, [][]impl.Gate{{g, h}}, len(want) == 1)
			}
		}
	}
	if shared < 1000 || apart < 1000 {
		t.Errorf("%d pairs share a qubit, and %d do not", shared, apart)
	}
}

func TestLayersOfThreeGates(t *testing.T) {
	for n := 1; n <= 4; n++ {
		// Of the kinds on one qubit one is enough.
		var few []impl.Gate
		for _, g := range validGates(n) {
			if g.Kind == impl.GateT || expectedKind(g.Kind).arity > 1 && (n < 4 || g.Kind != impl.GateCZ) {
				few = append(few, g)
			}
		}
		for _, g := range few {
			for _, h := range few {
				for _, k := range few {
					c := circuitOf(n, g, h, k)
					checkLayers(t, c, expectedLayers(c))
				}
			}
		}
	}
}

func TestDepthOfFullCircuits(t *testing.T) {
	for n := 1; n <= 4; n++ {
		for q := range n {
			for kind := impl.GateX; kind <= impl.GateTdg; kind++ {
				list := slices.Repeat([]impl.Gate{gateOn(kind, q)}, maxGates)
				checkLayers(t, circuitOf(n, list...), oneByOne(list))
				checkFromLayers(t, n, oneByOne(list), true)
			}
		}
		// One gate on each qubit, again and again: n gates to a layer.
		var all []impl.Gate
		for q := range n {
			all = append(all, gateOn(impl.GateH, n-1-q))
		}
		list := slices.Repeat(all, maxGates/n)
		checkLayers(t, circuitOf(n, list...), slices.Repeat([][]impl.Gate{all}, maxGates/n))
		checkFromLayers(t, n, slices.Repeat([][]impl.Gate{all}, maxGates/n), true)
	}
	// All gates on one qubit, then all on the next one.
	slow := slices.Concat(slices.Repeat(gatesIn("h 0"), 15), slices.Repeat(gatesIn("t 1"), 15), slices.Repeat(gatesIn("x 2"), 15), slices.Repeat(gatesIn("s 3"), 15))
	checkLayers(t, circuitOf(4, slow...), slices.Repeat(layersIn("h 0;t 1;x 2;s 3"), 15))
}

// TestLayersPreserveTheOperation: the gates of the layers in order have the matrix of the circuit.
func TestLayersPreserveTheOperation(t *testing.T) {
	moved := 0
	for n := 1; n <= 4; n++ {
		for k, c := range layeredCircuits(n) {
			layers := impl.CircuitLayers(c)
			d, ok := impl.CircuitFromLayers(n, layers)
			checkCircuit(t, "CircuitFromLayers", []any{n, layers}, d, ok, circuitOf(n, slices.Concat(expectedLayers(c)...)...), true)
			if n == 4 && len(c.Gates) < 20 && k%3 != 0 {
				continue
			}
			checkCircuitMatrix(t, d, expectedCircuitMatrix(t, c), true)
			if !sameCircuit(c, d) {
				moved++
			}
			// The layers of this circuit are the same ones.
			checkLayers(t, d, layers)
		}
	}
	if moved < 50 {
		t.Errorf("%d circuits have gates in another order", moved)
	}
}

// TestGatesOfOneLayerCommute: the matrix stays if each layer is turned around, and if it is spread over many.
func TestGatesOfOneLayerCommute(t *testing.T) {
	for n := 2; n <= 4; n++ {
		for k, c := range layeredCircuits(n) {
			if k%7 != 0 {
				continue
			}
			backward := cloneRows(impl.CircuitLayers(c))
			for _, layer := range backward {
				slices.Reverse(layer)
			}
			checkFromLayers(t, n, backward, true)
			checkFromLayers(t, n, oneByOne(slices.Concat(backward...)), true)
			d, _ := impl.CircuitFromLayers(n, backward)
			checkCircuitMatrix(t, d, matrixOfCircuit(t, c), true)
		}
	}
}

// TestOrderOnEachQubit: the gates on a qubit keep their order, and each gate stands right above one with which it shares a qubit.
func TestOrderOnEachQubit(t *testing.T) {
	for n := 1; n <= 4; n++ {
		for _, c := range layeredCircuits(n) {
			layers := impl.CircuitLayers(c)
			for q := range n {
				isElsewhere := func(g impl.Gate) bool { return !slices.Contains(expectedQubits(g), q) }
				before, after := slices.DeleteFunc(slices.Clone(c.Gates), isElsewhere), slices.DeleteFunc(slices.Concat(layers...), isElsewhere)
				if !slices.Equal(before, after) {
					t.Fatalf("the layers of %v have other gates on qubit %d, or in another order: %v", c, q, layers)
				}
			}
			for k, layer := range layers {
				if len(layer) == 0 || !canBeLayer(layer) {
					t.Fatalf("CircuitLayers(%v) has no layer at %d: %v", c, k, layers)
				}
				for _, g := range layer {
					if k > 0 && !slices.ContainsFunc(layers[k-1], func(h impl.Gate) bool { return haveSharedQubit(g, h) }) {
						t.Fatalf("%v could be below layer %d of %v", g, k, layers)
					}
				}
			}
		}
	}
}

// TestDepthOfOtherCircuits: the inverse is as deep, and a relabelled circuit has relabelled layers.
func TestDepthOfOtherCircuits(t *testing.T) {
	for n := 1; n <= 4; n++ {
		for k, c := range layeredCircuits(n) {
			layers := expectedLayers(c)
			if got := impl.CircuitDepth(impl.InverseCircuit(c)); got != len(layers) {
				t.Fatalf("the inverse of %v is %d layers deep, not %d", c, got, len(layers))
			}
			p := permutationsOf(n)[k%len(permutationsOf(n))]
			want := cloneRows(layers)
			for i, layer := range want {
				want[i] = expectedRelabelled(circuitOf(n, layer...), p).Gates
			}
			checkLayers(t, expectedRelabelled(c, p), want)
		}
	}
}

func TestCircuitFromLayers(t *testing.T) {
	cases := []struct {
		n      int
		layers string
		accept bool
	}{
		// Layers that are not scheduled as soon as possible.
		{2, "h 0|h 1", true},
		{2, "h 1|h 0", true},
		{4, "h 3|h 2|h 1|h 0", true},
		{3, "t 0|cx 1 2;h 0", true},
		{4, "h 0;h 1|cx 0 1|cx 2 3", true},
		// Empty layers.
		{1, "|", true},
		{4, "||||", true},
		{2, "h 0||h 1", true},
		{2, "|h 0", true},
		{2, "h 0|", true},
		{2, "|||h 0;x 1|||cx 0 1||", true},
		// The qubits that a gate does not use are not shared.
		{4, "x 1;y 2;z 3", true},
		{4, "h 0;h 3;h 1;h 2|h 2;h 1;h 3;h 0", true},
		{3, "cx 1 2;h 0", true},
		{3, "h 0;cx 2 1", true},
		{4, "swap 3 1;cz 2 0|cx 0 3;cx 1 2", true},
		{4, "ccx 1 2 3;t 0|t 2;ccx 0 1 3", true},
		// Two gates on the same qubit.
		{1, "h 0;h 0", false},
		{1, "h 0;t 0", false},
		{2, "h 1;x 0;t 1", false},
		{2, "cx 0 1;h 0", false},
		{2, "cx 0 1;h 1", false},
		{2, "h 1;cx 0 1", false},
		{2, "cx 0 1;cx 1 0", false},
		{3, "cx 0 1;cx 2 1", false},
		{3, "cx 0 1;cx 1 2", false},
		{3, "h 0;ccx 1 2 0", false},
		{3, "ccx 1 2 0;h 2", false},
		{4, "ccx 1 2 3;cx 0 2", false},
		{4, "x 0;y 1;z 2;h 3;t 0", false},
		// In the first, a middle or the last layer.
		{2, "h 0;x 0|h 1|cx 0 1", false},
		{2, "h 1|h 0;x 0|cx 0 1", false},
		{2, "h 1|cx 0 1|h 0;x 0", false},
		{2, "h 1||cx 0 1;x 0||", false},
		// A gate that needs more qubits.
		{1, "h 1", false},
		{1, "cx 0 1", false},
		{1, "h 0|h 0|x 1", false},
		{2, "h 0;h 2", false},
		{2, "h 2|h 0|h 1", false},
		{3, "h 0|ccx 0 1 3|h 1", false},
		{3, "h 0;h 3|h 1", false},
	}
	for _, c := range cases {
		checkFromLayers(t, c.n, layersIn(c.layers), c.accept)
	}
}

// TestLayersThatAreNotScheduled cuts lists of gates into layers in all ways.
func TestLayersThatAreNotScheduled(t *testing.T) {
	accepted, refused := 0, 0
	for n := 1; n <= 4; n++ {
		for _, list := range variedGates(n, 4) {
			for _, cut := range slicesOf(3, []int{0, 1, 2, 3, 4}) {
				if !slices.IsSorted(cut) {
					continue
				}
				layers := [][]impl.Gate{list[:cut[0]], list[cut[0]:cut[1]], list[cut[1]:cut[2]], list[cut[2]:]}
				accept := !slices.ContainsFunc(layers, func(layer []impl.Gate) bool { return !canBeLayer(layer) })
				checkFromLayers(t, n, layers, accept)
				if accept {
					accepted++
				} else {
					refused++
				}
			}
		}
	}
	if accepted < 500 || refused < 500 {
		t.Errorf("%d lists of layers are accepted and %d are not", accepted, refused)
	}
}

func TestCircuitsFromOtherLayers(t *testing.T) {
	for n := 1; n <= 4; n++ {
		for _, c := range layeredCircuits(n) {
			alone := oneByOne(c.Gates)
			checkFromLayers(t, n, alone, true)
			layers := expectedLayers(c)
			checkFromLayers(t, n, layers, true)
			for k := range len(layers) + 1 {
				checkFromLayers(t, n, slices.Insert(slices.Clone(layers), k, nil, []impl.Gate{}), true)
			}
			if len(c.Gates) > 0 {
				// All gates in one layer.
				checkFromLayers(t, n, [][]impl.Gate{c.Gates}, canBeLayer(c.Gates))
			}
		}
	}
}

func TestCircuitsFromNoLayer(t *testing.T) {
	for n := -6; n <= 10; n++ {
		for _, list := range [][][]impl.Gate{nil, {}, {nil}, {{}}, {nil, {}}, {{}, nil, nil}, make([][]impl.Gate, maxGates), make([][]impl.Gate, maxGates+1), make([][]impl.Gate, 100000), layersIn("h 0|h 1")[:0]} {
			checkFromLayers(t, n, list, n >= 1 && n <= 4)
		}
	}
	for _, n := range sizesOfNoState() {
		checkFromLayers(t, n, nil, false)
		checkFromLayers(t, n, [][]impl.Gate{{}}, false)
	}
}

// TestGatesOfAllLayersTogether: they are counted in all layers, and empty layers do not count.
func TestGatesOfAllLayersTogether(t *testing.T) {
	for n := 1; n <= 4; n++ {
		for length := range maxGates + 5 {
			alone := oneByOne(manyGates(n, length))
			checkFromLayers(t, n, alone, length <= maxGates)
			spread := slices.Concat(make([][]impl.Gate, 100), alone, make([][]impl.Gate, 100))
			checkFromLayers(t, n, spread, length <= maxGates)
		}
		var wide []impl.Gate
		for q := range n {
			wide = append(wide, gateOn(impl.GateT, q))
		}
		full := slices.Repeat([][]impl.Gate{wide}, maxGates/n)
		checkFromLayers(t, n, full, true)
		for k := range len(full) + 1 {
			checkFromLayers(t, n, slices.Insert(slices.Clone(full), k, gatesIn("h 0")), false)
			checkFromLayers(t, n, slices.Insert(slices.Clone(full), k, wide), false)
		}
		checkFromLayers(t, n, append(slices.Clone(full), nil), true)
	}
	checkFromLayers(t, 4, append(slices.Repeat(layersIn("h 0;h 1;h 2;h 3"), 14), gatesIn("h 0;h 1;h 2")), true)
	checkFromLayers(t, 4, append(slices.Repeat(layersIn("h 0;h 1;h 2;h 3"), 14), gatesIn("h 0;h 1;h 2"), gatesIn("cx 0 1"), gatesIn("h 3")), false)
	for _, length := range []int{maxGates + 1, 256 + maxGates, 1000} {
		checkFromLayers(t, 1, slices.Repeat(layersIn("h 0"), length), false)
		checkFromLayers(t, 1, [][]impl.Gate{slices.Repeat(gatesIn("h 0"), length)}, false)
	}
}

// TestManyLongLayers: together the layers have more gates than there is memory for.
func TestManyLongLayers(t *testing.T) {
	for _, gates := range [][]impl.Gate{gatesIn("h 0"), {{}}} {
		long := slices.Repeat(gates, 100000)
		list := slices.Repeat([][]impl.Gate{long}, 1000000)
		for _, n := range []int{1, 4, 0, 5} {
			got, ok := impl.CircuitFromLayers(n, list)
			checkCircuit(t, "CircuitFromLayers of long layers", []any{n}, got, ok, impl.Circuit{}, false)
			got, ok = impl.CircuitFromLayers(n, slices.Repeat([][]impl.Gate{gates}, 1000000))
			checkCircuit(t, "CircuitFromLayers of many layers", []any{n}, got, ok, impl.Circuit{}, false)
		}
		checkLayers(t, circuitOf(1, long...), nil)
	}
}

func TestLayersOfCircuitsThatAreNotValid(t *testing.T) {
	for _, c := range invalidCircuits() {
		checkLayers(t, c, nil)
		checkFromLayers(t, c.N, oneByOne(c.Gates), false)
		checkFromLayers(t, c.N, append([][]impl.Gate{nil}, oneByOne(c.Gates)...), false)
		checkFromLayers(t, c.N, [][]impl.Gate{c.Gates}, false)
	}
	for _, g := range gatesOfNoState(4) {
		checkLayers(t, circuitOf(4, g), nil)
		checkLayers(t, circuitOf(4, gateOn(impl.GateH), g, gateOn(impl.GateH)), nil)
		checkFromLayers(t, 4, [][]impl.Gate{{g}}, false)
		checkFromLayers(t, 4, [][]impl.Gate{gatesIn("h 0"), {g}, gatesIn("h 0")}, false)
	}
}

// TestQubitsOfLayers: a gate may stand in the layers of exactly those circuits that have its qubits.
func TestQubitsOfLayers(t *testing.T) {
	for _, g := range validGates(4) {
		for _, n := range append(sizesOfNoState(), 1, 2, 3, 4) {
			accept := n >= 1 && n <= 4 && slices.Contains(validGates(n), g)
			checkFromLayers(t, n, [][]impl.Gate{{g}}, accept)
			checkFromLayers(t, n, [][]impl.Gate{gatesIn("x 0"), {g}, gatesIn("x 0")}, accept)
			var want [][]impl.Gate
			if accept {
				want = [][]impl.Gate{{g}}
			}
			checkLayers(t, circuitOf(n, g), want)
		}
	}
}

// TestFaultsInOneLayer puts a gate that is not valid at each place of each layer.
func TestFaultsInOneLayer(t *testing.T) {
	for n := 1; n <= 4; n++ {
		layers := expectedLayers(circuitOf(n, manyGates(n, 20)...))
		for _, g := range append(fewGatesOfNoState(), gatesOfMoreQubits(n)...) {
			for i, layer := range layers {
				for k := range len(layer) + 1 {
					changed := slices.Clone(layers)
					changed[i] = slices.Insert(slices.Clone(layer), k, g)
					checkFromLayers(t, n, changed, false)
				}
			}
		}
		// A gate twice in its layer.
		for i, layer := range layers {
			for k, g := range layer {
				for at := range len(layer) + 1 {
					changed := slices.Clone(layers)
					changed[i] = slices.Insert(slices.Clone(layer), at, g)
					checkFromLayers(t, n, changed, false)
				}
				changed := slices.Clone(layers)
				changed[i] = slices.Delete(slices.Clone(layer), k, k+1)
				checkFromLayers(t, n, changed, true)
			}
		}
	}
}

func checkFreshLayers(t *testing.T, what string, call func() [][]impl.Gate) {
	t.Helper()
	checkFreshRows(t, what, impl.Gate{Kind: 99, A: 98, B: 97, C: 96}, call)
}

func roomyLayers(list [][]impl.Gate) [][]impl.Gate { return withMarkedRows(list, unusedGate) }

// memoryLayers returns layers of circuits on n qubits, some of which are not valid.
func memoryLayers(n int) [][][]impl.Gate {
	list := [][][]impl.Gate{nil, {}, {nil}, {{}, gatesIn("h 0"), nil}, layersIn("h 0;h 0"), {{{}}, gatesIn("h 0")}, layersIn("ccx 0 1 2|x 3"), oneByOne(manyGates(n, maxGates+1)), {manyGates(n, 1000)}}
	for _, c := range memoryCircuits(n) {
		list = append(list, expectedLayers(c), oneByOne(c.Gates), [][]impl.Gate{c.Gates})
	}
	return list
}

// TestLayersAreKept overwrites each result: neither an argument nor another result, nor another layer, may change with it.
func TestLayersAreKept(t *testing.T) {
	for n := 1; n <= 4; n++ {
		for _, before := range append(memoryCircuits(n), layeredCircuits(n)...) {
			c := roomyCircuit(before)
			checkFreshLayers(t, "CircuitLayers", func() [][]impl.Gate { return impl.CircuitLayers(c) })
			checkAllCounts(t, c)
			impl.CircuitDepth(c)
			checkMarks(t, "a function of circuits", c.Gates, before.Gates, unusedGate)
		}
		for _, before := range memoryLayers(n) {
			list := roomyLayers(before)
			checkFreshGates(t, "CircuitFromLayers", func() []impl.Gate { return firstGates(impl.CircuitFromLayers(n, list)) })
			checkMarkedRows(t, "CircuitFromLayers", list, before, unusedGate)
		}
	}
}

// TestLayerResultsKeepTheirValues: also when an argument is overwritten afterwards.
func TestLayerResultsKeepTheirValues(t *testing.T) {
	for n := 1; n <= 4; n++ {
		for _, before := range layeredCircuits(n) {
			c := roomyCircuit(before)
			layers, want := impl.CircuitLayers(c), expectedLayers(before)
			fillWith(c.Gates, unusedGate)
			if !sameRows(layers, want) {
				t.Fatalf("the layers of %v become %v", before, layers)
			}
			list := roomyLayers(want)
			d, _ := impl.CircuitFromLayers(n, list)
			fillRows(list, unusedGate)
			if !sameCircuit(d, circuitOf(n, slices.Concat(want...)...)) {
				t.Fatalf("the circuit of the layers %v becomes %v", want, d)
			}
		}
	}
}

// TestLayersGrowApart: what is appended to one layer is not seen in another, nor in the circuit of the layers.
func TestLayersGrowApart(t *testing.T) {
	for n := 1; n <= 4; n++ {
		for _, c := range layeredCircuits(n) {
			want := expectedLayers(c)
			layers, other := impl.CircuitLayers(c), impl.CircuitLayers(c)
			d, _ := impl.CircuitFromLayers(n, layers)
			for k, layer := range layers {
				layers[k] = append(layer, unusedGate)
			}
			for k, layer := range layers {
				if !slices.Equal(layer, append(slices.Clone(want[k]), unusedGate)) {
					t.Fatalf("two layers of %v share their memory: %v", c, layers)
				}
			}
			d.Gates = append(d.Gates, gateOn(impl.GateX))
			if !sameRows(other, want) || !sameCircuit(d, circuitOf(n, append(slices.Concat(want...), gateOn(impl.GateX))...)) {
				t.Fatalf("results of %v share their memory: %v and %v", c, other, d)
			}
		}
	}
}

// TestLayersInOneArray: the layers may lie next to each other, or be the same slice.
func TestLayersInOneArray(t *testing.T) {
	for n := 1; n <= 4; n++ {
		var all []impl.Gate
		for q := range n {
			all = append(all, gateOn(impl.GateS, q))
		}
		array := withMarks(slices.Repeat(all, 3), unusedGate)
		before := slices.Clone(array)
		for _, list := range [][][]impl.Gate{{array[:n], array[n : 2*n], array[2*n:]}, {array[2*n:], array[n : 2*n], array[:n]}, {array[:n], array[:n], array[:n]}, {array[:1], array[:n], array[1:n]}} {
			checkFromLayers(t, n, list, true)
			checkMarks(t, "a function of parts of one array", array, before, unusedGate)
		}
	}
}

// TestMetricsInAnyOrder expects the same results of every call, whatever was asked in between.
func TestMetricsInAnyOrder(t *testing.T) {
	c, d := circuitOf(3, gatesIn("h 0;t 2;cx 0 1;td 2;x 1;z 0")...), circuitOf(2, gatesIn("cx 1 0;t 0;t 0")...)
	for range 3 {
		checkLayers(t, c, layersIn("h 0;t 2|cx 0 1;td 2|x 1;z 0"))
		checkLayers(t, circuitOf(2, gatesIn("h 2")...), nil)
		checkFromLayers(t, 3, layersIn("h 0;h 0"), false)
		checkLayers(t, d, layersIn("cx 1 0|t 0|t 0"))
		checkFromLayers(t, 3, layersIn("h 0|h 0"), true)
		checkTAndTwoQubitCount(t, c, 2, 1)
		checkTAndTwoQubitCount(t, d, 2, 1)
		checkCounts(t, c, impl.GateH, 1)
		checkCounts(t, d, impl.GateH, 0)
		checkLayers(t, circuitOf(3), nil)
	}
}
