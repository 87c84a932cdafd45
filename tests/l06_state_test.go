package tests

import (
	"math"
	"math/cmplx"
	"slices"
	"testing"

	"loop.example/g00506/impl"
)

// Promise 6: addition of states is commutative.
// Promise 47: every function is total, pure, and does not modify its arguments.

// sameAmplitudes returns a slice of this length with the amplitude everywhere.
func sameAmplitudes(length int, x impl.DOmega) []impl.DOmega {
	return slices.Repeat([]impl.DOmega{x}, length)
}

// replacedAt returns a copy of v with x at index k.
func replacedAt(v []impl.DOmega, k int, x impl.DOmega) []impl.DOmega {
	list := slices.Clone(v)
	list[k] = x
	return list
}

// realIntegers returns the amplitudes of these integers.
func realIntegers(values ...int) []impl.DOmega {
	var list []impl.DOmega
	for _, a := range values {
		list = append(list, domega(a, 0, 0, 0, 0))
	}
	return list
}

// smallAmplitudes returns amplitudes with which a few sums and products stay within the limits.
func smallAmplitudes() []impl.DOmega {
	var list []impl.DOmega
	for i, n := range elementsOf([]int{-2, 0, 1, 3}) {
		if x := (impl.DOmega{N: n, Exp: i % 8}); reducedFraction(x) {
			list = append(list, x)
		}
	}
	return append(list, eightPhases()...)
}

// statesFrom cuts valid states of n qubits out of the amplitudes.
func statesFrom(amplitudes []impl.DOmega, n int) [][]impl.DOmega {
	var list [][]impl.DOmega
	for chunk := range slices.Chunk(amplitudes, 1<<n) {
		if len(chunk) == 1<<n {
			list = append(list, slices.Clone(chunk))
		}
	}
	return list
}

// someStates returns states of n qubits: the basis, sparse and full ones, with small amplitudes and with some next to the limits.
func someStates(n int) [][]impl.DOmega {
	size := 1 << n
	list := [][]impl.DOmega{
		sameAmplitudes(size, impl.DOmega{}), sameAmplitudes(size, domega(0, 0, 1, 0, n)), sameAmplitudes(size, domega(1, -2, 3, 5, 7)),
		sameAmplitudes(size, domega(maxC, 0, 0, -maxC, 0)), sameAmplitudes(size, domega(0, 0, 0, -1, 60)),
	}
	for k := range size {
		list = append(list, replacedAt(sameAmplitudes(size, impl.DOmega{}), k, domega(1, 0, 0, 0, 0)))
	}
	for k := range size {
		list = append(list, replacedAt(sameAmplitudes(size, domega(1, 0, 0, 0, 1)), k, domega(0, 1, 1, 0, 3)))
	}
	small := statesFrom(smallAmplitudes(), n)
	list = append(list, small[:min(12, len(small))]...)
	large := statesFrom(pairFractions(), n)
	return append(list, large[:min(8, len(large))]...)
}

// invalidStates returns slices of other lengths, and of valid lengths with one amplitude that is not valid.
func invalidStates() [][]impl.DOmega {
	list := [][]impl.DOmega{nil, {}}
	for length := range 34 {
		if !slices.Contains([]int{2, 4, 8, 16}, length) {
			list = append(list, sameAmplitudes(length, domega(1, 0, 0, 0, 1)), sameAmplitudes(length, impl.DOmega{}))
		}
	}
	list = append(list, sameAmplitudes(64, impl.DOmega{}), sameAmplitudes(256, impl.DOmega{}), sameAmplitudes(65536, impl.DOmega{}))
	for n := 1; n <= 4; n++ {
		for k := range 1 << n {
			for _, x := range amplitudesOfNoState() {
				list = append(list, replacedAt(sameAmplitudes(1<<n, domega(1, 0, 0, 0, 1)), k, x), replacedAt(sameAmplitudes(1<<n, impl.DOmega{}), k, x))
			}
		}
	}
	return list
}

// amplitudesOfNoState returns amplitudes that are not valid, each for another reason.
func amplitudesOfNoState() []impl.DOmega {
	return []impl.DOmega{
		domega(2, 0, 0, 0, 1), domega(0, 0, 0, 0, 1), domega(0, 1, 0, -1, 60), domega(1, 0, 0, 0, -1), domega(1, 0, 0, 0, 61),
		domega(maxC+1, 0, 0, 0, 0), domega(0, -maxC-1, 0, 0, 0), domega(0, 0, math.MinInt, 0, 0), domega(0, 0, 0, math.MaxInt, 3), domega(0, 0, 0, 0, math.MinInt),
	}
}

// expectedCombination computes the elements one by one, and fails where one of them does.
func expectedCombination(u, v []impl.DOmega, operation func(x, y impl.DOmega) (impl.DOmega, bool)) ([]impl.DOmega, bool) {
	var list []impl.DOmega
	for k := range u {
		x, ok := operation(u[k], v[k])
		if !ok {
			return nil, false
		}
		list = append(list, x)
	}
	return list, true
}

// expectedInner adds the products in ascending order.
func expectedInner(u, v []impl.DOmega) (impl.DOmega, bool) {
	var sum impl.DOmega
	for k, x := range u {
		conj := impl.DOmega{N: zomega(x.N.A, -x.N.D, -x.N.C, -x.N.B), Exp: x.Exp}
		product, ok := expectedFractionProduct(conj, v[k])
		if !ok {
			return impl.DOmega{}, false
		}
		sum, ok = expectedSum(sum, product)
		if !ok {
			return impl.DOmega{}, false
		}
	}
	return sum, true
}

// checkState expects the state and true, or no state and false if it is not to be accepted.
func checkState(t *testing.T, what string, operands []any, got []impl.DOmega, ok bool, want []impl.DOmega, accept bool) {
	t.Helper()
	if !accept {
		want = nil
	}
	if !slices.Equal(got, want) || ok != accept {
		t.Fatalf("%s of %v = %v, %v, want %v, %v", what, operands, got, ok, want, accept)
	}
}

func checkScaled(t *testing.T, v []impl.DOmega, x impl.DOmega, want []impl.DOmega, accept bool) {
	t.Helper()
	got, ok := impl.ScaleState(v, x)
	checkState(t, "ScaleState", []any{v, x}, got, ok, want, accept)
}

// checkStateSum expects the same sum for both orders of the states.
func checkStateSum(t *testing.T, u, v, want []impl.DOmega, accept bool) {
	t.Helper()
	got, ok := impl.AddStates(u, v)
	checkState(t, "AddStates", []any{u, v}, got, ok, want, accept)
	got, ok = impl.AddStates(v, u)
	checkState(t, "AddStates", []any{v, u}, got, ok, want, accept)
}

func checkInner(t *testing.T, u, v []impl.DOmega, want impl.DOmega, accept bool) {
	t.Helper()
	got, ok := impl.InnerProduct(u, v)
	checkFraction(t, "InnerProduct", []any{u, v}, got, ok, want, accept)
}

// checkEqualState expects the same answer for both orders of the states.
func checkEqualState(t *testing.T, u, v []impl.DOmega, want bool) {
	t.Helper()
	if impl.EqualState(u, v) != want || impl.EqualState(v, u) != want {
		t.Errorf("EqualState of %v and %v is not %v in both orders", u, v, want)
	}
}

func TestMaxQubits(t *testing.T) {
	if impl.MaxQubits != 4 {
		t.Errorf("MaxQubits = %d", impl.MaxQubits)
	}
}

// TestLengthsOfStates also looks at slices with room for more elements than they have.
func TestLengthsOfStates(t *testing.T) {
	counts := map[int]int{2: 1, 4: 2, 8: 3, 16: 4}
	for length := range 34 {
		roomy := make([]impl.DOmega, length, 40)
		for _, v := range [][]impl.DOmega{sameAmplitudes(length, domega(1, 0, 0, 0, 2)), roomy, roomy[:length:length]} {
			if got := impl.QubitCount(v); got != counts[length] {
				t.Errorf("QubitCount of %d elements = %d", length, got)
			}
			if got := impl.IsValidState(v); got != (counts[length] != 0) {
				t.Errorf("IsValidState of %d valid amplitudes = %v", length, got)
			}
		}
		// The count asks for the length alone.
		if got := impl.QubitCount(sameAmplitudes(length, domega(2, 0, 0, 0, 1))); got != counts[length] {
			t.Errorf("QubitCount of %d amplitudes that are not valid = %d", length, got)
		}
	}
	for _, v := range [][]impl.DOmega{nil, {}, make([]impl.DOmega, 0, 16), make([]impl.DOmega, 64), make([]impl.DOmega, 65536)} {
		if impl.QubitCount(v) != 0 || impl.IsValidState(v) {
			t.Errorf("%d elements are taken as a state", len(v))
		}
	}
}

func TestIsValidState(t *testing.T) {
	for n := 1; n <= 4; n++ {
		for _, v := range someStates(n) {
			if !impl.IsValidState(v) || impl.QubitCount(v) != n {
				t.Errorf("IsValidState(%v) = false, or the count %d is wrong", v, impl.QubitCount(v))
			}
		}
	}
	for _, v := range invalidStates() {
		if impl.IsValidState(v) {
			t.Errorf("IsValidState(%v) = true", v)
		}
	}
}

func TestStatesWithOneInvalidAmplitude(t *testing.T) {
	for _, x := range invalidFractions() {
		for n := 1; n <= 4; n++ {
			for k := range 1 << n {
				if impl.IsValidState(replacedAt(sameAmplitudes(1<<n, domega(0, 1, 0, 0, n)), k, x)) {
					t.Errorf("a state of %d qubits with %v at index %d is taken as valid", n, x, k)
				}
			}
		}
	}
}

func TestBasisState(t *testing.T) {
	for n := -1; n <= 6; n++ {
		for i := -1; i <= 1<<max(n, 0); i++ {
			got := impl.BasisState(n, i)
			if n < 1 || n > 4 || i < 0 || i >= 1<<n {
				if got != nil {
					t.Errorf("BasisState(%d, %d) = %v", n, i, got)
				}
				continue
			}
			if len(got) != 1<<n {
				t.Fatalf("BasisState(%d, %d) has %d elements", n, i, len(got))
			}
			for k, x := range got {
				if k == i && x != domega(1, 0, 0, 0, 0) || k != i && x != domega(0, 0, 0, 0, 0) {
					t.Errorf("BasisState(%d, %d) has %v at index %d", n, i, x, k)
				}
			}
		}
	}
}

func TestBasisStateOfIntegersOfAllSizes(t *testing.T) {
	extremes := []int{
		math.MinInt, math.MinInt + 1, math.MinInt + 4, -1 << 32, -64, -4, -2, -1,
		5, 31, 32, 62, 63, 64, 65, 1 << 32, 1<<32 + 1, 1<<62 + 2, math.MaxInt - 1, math.MaxInt,
	}
	for _, n := range extremes {
		for _, i := range append(extremes, 0, 1, 2, 3) {
			if got := impl.BasisState(n, i); got != nil {
				t.Errorf("BasisState(%d, %d) = %v", n, i, got)
			}
		}
	}
	for n := 1; n <= 4; n++ {
		for _, i := range []int{math.MinInt, math.MinInt + 1, math.MinInt + 2, -1 << 32, -16, -1, 1 << n, 1<<n + 1, 16, 1 << 32, 1<<32 + 1, 1 << 62, math.MaxInt - 1, math.MaxInt} {
			if got := impl.BasisState(n, i); got != nil {
				t.Errorf("BasisState(%d, %d) = %v", n, i, got)
			}
		}
	}
}

func TestScaleState(t *testing.T) {
	v := []impl.DOmega{domega(1, 0, 0, 0, 1), domega(0, 1, 0, 0, 0), domega(0, 0, 0, 0, 0), domega(3, 0, -2, 0, 4)}
	cases := []struct {
		x    impl.DOmega
		want []impl.DOmega
	}{
		{impl.DOmega{}, make([]impl.DOmega, 4)},
		{domega(1, 0, 0, 0, 0), v},
		{domega(-1, 0, 0, 0, 0), []impl.DOmega{domega(-1, 0, 0, 0, 1), domega(0, -1, 0, 0, 0), {}, domega(-3, 0, 2, 0, 4)}},
		{domega(0, 0, 1, 0, 0), []impl.DOmega{domega(0, 0, 1, 0, 1), domega(0, 0, 0, 1, 0), {}, domega(2, 0, 3, 0, 4)}},
		{domega(0, 0, 0, 1, 0), []impl.DOmega{domega(0, 0, 0, 1, 1), domega(-1, 0, 0, 0, 0), {}, domega(0, 2, 0, 3, 4)}},
		{domega(1, 0, 0, 0, 1), []impl.DOmega{domega(1, 0, 0, 0, 2), domega(0, 1, 0, 0, 1), {}, domega(3, 0, -2, 0, 5)}},
		{domega(2, 0, 0, 0, 0), []impl.DOmega{domega(0, 1, 0, -1, 0), domega(0, 2, 0, 0, 0), {}, domega(3, 0, -2, 0, 2)}},
		{domega(1, 0, 0, 0, 56), []impl.DOmega{domega(1, 0, 0, 0, 57), domega(0, 1, 0, 0, 56), {}, domega(3, 0, -2, 0, 60)}},
	}
	for _, c := range cases {
		checkScaled(t, v, c.x, c.want, true)
	}
	checkScaled(t, v, domega(1, 0, 0, 0, 57), nil, false)
}

func TestScalingBasisStates(t *testing.T) {
	factors := append(eightPhases(), impl.DOmega{}, domega(1, 0, 0, 0, 1), domega(1, 0, 0, 0, 60), domega(1, -2, 3, 5, 7), domega(maxC, -maxC, maxC, maxC, 0))
	for n := 1; n <= 4; n++ {
		for i := range 1 << n {
			for _, x := range factors {
				checkScaled(t, impl.BasisState(n, i), x, replacedAt(make([]impl.DOmega, 1<<n), i, x), true)
			}
		}
	}
}

// TestScalingThatFailsAtOneIndex: at the first, each middle and only the last amplitude.
func TestScalingThatFailsAtOneIndex(t *testing.T) {
	cases := []struct{ fits, fails, x impl.DOmega }{
		{domega(maxC/2, 0, 0, 0, 0), domega(maxC/2+1, 0, 0, 0, 0), domega(2, 0, 0, 0, 0)},
		{domega(0, 0, 0, 0, 0), domega(0, 0, -maxC, 0, 0), domega(0, 0, 0, 2, 0)},
		{domega(1, 0, 0, 0, 59), domega(1, 0, 0, 0, 60), domega(1, 0, 0, 0, 1)},
		{domega(1, 0, 0, 0, 0), domega(1, 1, 0, 0, 1), domega(1, 0, 0, 0, 60)},
		{domega(0, maxC, 0, 0, 0), domega(1, maxC, 0, 0, 0), domega(1, 1, 0, 0, 0)},
	}
	for _, c := range cases {
		for n := 1; n <= 4; n++ {
			v := sameAmplitudes(1<<n, c.fits)
			want, accept := expectedCombination(v, sameAmplitudes(1<<n, c.x), expectedFractionProduct)
			if !accept {
				t.Fatalf("%v times %v does not fit", c.fits, c.x)
			}
			checkScaled(t, v, c.x, want, true)
			for k := range v {
				checkScaled(t, replacedAt(v, k, c.fails), c.x, nil, false)
			}
			checkScaled(t, sameAmplitudes(1<<n, c.fails), c.x, nil, false)
		}
	}
}

func TestScalingManyStates(t *testing.T) {
	factors := append(smallAmplitudes(), pairFractions()[:40]...)
	scaled, failed := 0, 0
	for n := 1; n <= 4; n++ {
		for _, v := range someStates(n) {
			for _, x := range factors {
				want, accept := expectedCombination(v, sameAmplitudes(1<<n, x), expectedFractionProduct)
				checkScaled(t, v, x, want, accept)
				if accept {
					scaled++
				} else {
					failed++
				}
			}
		}
	}
	if scaled < 1000 || failed < 1000 {
		t.Errorf("%d states are scaled, and %d fail", scaled, failed)
	}
}

func TestScalingByInvalidAmplitudes(t *testing.T) {
	for n := 1; n <= 4; n++ {
		for _, x := range append(amplitudesOfNoState(), invalidFractions()...) {
			checkScaled(t, make([]impl.DOmega, 1<<n), x, nil, false)
			checkScaled(t, impl.BasisState(n, n%2), x, nil, false)
			checkScaled(t, sameAmplitudes(1<<n, domega(1, 2, 3, 4, 0)), x, nil, false)
		}
	}
}

func TestScalingInvalidStates(t *testing.T) {
	for _, v := range invalidStates() {
		for _, x := range []impl.DOmega{{}, domega(1, 0, 0, 0, 0), domega(0, -1, 0, 0, 0), domega(1, 0, 0, 0, 1), domega(2, 0, 0, 0, 1)} {
			checkScaled(t, v, x, nil, false)
		}
	}
}

func TestAddStates(t *testing.T) {
	cases := []struct{ u, v, want []impl.DOmega }{
		{realIntegers(0, 0), realIntegers(0, 0), realIntegers(0, 0)},
		{realIntegers(1, 0), realIntegers(0, 1), realIntegers(1, 1)},
		{realIntegers(1, 2, 3, 4), realIntegers(10, 20, 30, 40), realIntegers(11, 22, 33, 44)},
		{realIntegers(1, -2, 3, -4), realIntegers(-1, 2, -3, 4), realIntegers(0, 0, 0, 0)},
		{realIntegers(maxC, -maxC), realIntegers(-1, 1), realIntegers(maxC-1, 1-maxC)},
		{realIntegers(maxC-1, 1-maxC), realIntegers(1, -1), realIntegers(maxC, -maxC)},
		{
			[]impl.DOmega{domega(1, 0, 0, 0, 1), domega(1, 0, 0, 0, 2), domega(1, 0, 0, 0, 1), domega(0, 1, 0, 0, 60)},
			[]impl.DOmega{domega(1, 0, 0, 0, 1), domega(1, 0, 0, 0, 2), domega(0, 0, 1, 0, 1), domega(0, -1, 0, 0, 60)},
			[]impl.DOmega{domega(0, 1, 0, -1, 0), domega(1, 0, 0, 0, 0), domega(0, 1, 0, 0, 0), domega(0, 0, 0, 0, 0)},
		},
	}
	for _, c := range cases {
		checkStateSum(t, c.u, c.v, c.want, true)
	}
}

func TestAddingBasisStates(t *testing.T) {
	for n := 1; n <= 4; n++ {
		for i := range 1 << n {
			for j := range 1 << n {
				want := make([]impl.DOmega, 1<<n)
				want[i].N.A++
				want[j].N.A++
				checkStateSum(t, impl.BasisState(n, i), impl.BasisState(n, j), want, true)
			}
		}
	}
}

func TestAddingTheNegative(t *testing.T) {
	for n := 1; n <= 4; n++ {
		zero := make([]impl.DOmega, 1<<n)
		for _, v := range someStates(n) {
			negative, ok := impl.ScaleState(v, impl.PhaseFactor(4))
			if !ok {
				t.Fatalf("%v has no negative", v)
			}
			checkStateSum(t, v, negative, zero, true)
			checkStateSum(t, v, zero, v, true)
		}
	}
}

// TestSumsThatFailAtOneIndex: at the first, each middle and only the last amplitude.
func TestSumsThatFailAtOneIndex(t *testing.T) {
	cases := []struct{ x, y impl.DOmega }{
		{domega(maxC, 0, 0, 0, 0), domega(1, 0, 0, 0, 0)},
		{domega(0, 0, 0, -maxC, 0), domega(0, 0, 0, -maxC, 0)},
		{domega(maxC, 1, 0, 0, 60), domega(maxC, 1, 0, 0, 60)},
		// The first numerator passes the limit when it is brought to the other exponent.
		{domega(maxC, 0, 0, 0, 0), domega(1, 0, 0, 0, 2)},
		{domega(0, 2, 0, 0, 0), domega(1, 0, 0, 0, 60)},
	}
	for _, c := range cases {
		for n := 1; n <= 4; n++ {
			u, v := sameAmplitudes(1<<n, domega(1, 2, 3, 4, 0)), sameAmplitudes(1<<n, domega(0, 0, 1, 0, 3))
			want, accept := expectedCombination(u, v, expectedSum)
			checkStateSum(t, u, v, want, accept)
			if !accept {
				t.Errorf("the sum of %v and %v fails", u, v)
			}
			for k := range u {
				checkStateSum(t, replacedAt(u, k, c.x), replacedAt(v, k, c.y), nil, false)
			}
		}
	}
}

// TestAdditionOfStatesIsCommutative also compares the sums with exact ones.
func TestAdditionOfStatesIsCommutative(t *testing.T) {
	added, failed := 0, 0
	for n := 1; n <= 4; n++ {
		list := someStates(n)
		for _, u := range list {
			for _, v := range list {
				want, accept := expectedCombination(u, v, expectedSum)
				checkStateSum(t, u, v, want, accept)
				if accept {
					added++
				} else {
					failed++
				}
			}
		}
	}
	if added < 1000 || failed < 500 {
		t.Errorf("%d sums are valid, and %d fail", added, failed)
	}
}

func TestAdditionOfStatesIsLinear(t *testing.T) {
	for n := 1; n <= 4; n++ {
		list := statesFrom(smallAmplitudes(), n)
		for i, u := range list {
			v := list[(i+1)%len(list)]
			sum, _ := impl.AddStates(u, v)
			for _, x := range append(eightPhases(), domega(1, 0, 0, 0, 1), domega(1, -2, 0, 3, 4)) {
				scaledSum, ok := impl.ScaleState(sum, x)
				scaledU, okU := impl.ScaleState(u, x)
				scaledV, okV := impl.ScaleState(v, x)
				if !ok || !okU || !okV {
					t.Fatalf("%v, %v or their sum times %v fails", u, v, x)
				}
				checkStateSum(t, scaledU, scaledV, scaledSum, true)
			}
		}
	}
}

func TestInnerProduct(t *testing.T) {
	half, root := domega(1, 0, 0, 0, 2), domega(1, 0, 0, 0, 1)
	i, omega := domega(0, 0, 1, 0, 0), domega(0, 1, 0, 0, 0)
	cases := []struct {
		u, v []impl.DOmega
		want impl.DOmega
	}{
		{realIntegers(0, 0), realIntegers(5, 7), impl.DOmega{}},
		{realIntegers(1, 2), realIntegers(3, 5), domega(13, 0, 0, 0, 0)},
		{realIntegers(1, 2, 3, 4), realIntegers(10, 100, 1000, 10000), domega(43210, 0, 0, 0, 0)},
		{[]impl.DOmega{root, root}, []impl.DOmega{root, root}, domega(1, 0, 0, 0, 0)},
		{[]impl.DOmega{half, half, half, half}, []impl.DOmega{half, half, half, half}, domega(1, 0, 0, 0, 0)},
		{[]impl.DOmega{root, root}, []impl.DOmega{root, domega(-1, 0, 0, 0, 1)}, impl.DOmega{}},
		// Only the first state is conjugated.
		{[]impl.DOmega{i, {}}, realIntegers(1, 0), domega(0, 0, -1, 0, 0)},
		{realIntegers(1, 0), []impl.DOmega{i, {}}, domega(0, 0, 1, 0, 0)},
		{[]impl.DOmega{{}, omega}, realIntegers(0, 1), domega(0, 0, 0, -1, 0)},
		{realIntegers(0, 1), []impl.DOmega{{}, omega}, domega(0, 1, 0, 0, 0)},
		{[]impl.DOmega{i, omega}, []impl.DOmega{i, omega}, domega(2, 0, 0, 0, 0)},
		{[]impl.DOmega{root, domega(0, 0, 1, 0, 1)}, []impl.DOmega{root, domega(0, 0, -1, 0, 1)}, impl.DOmega{}},
		// Here (1, -4, -2, -2) is multiplied by (5, 6, 7, 9).
		{[]impl.DOmega{domega(1, 2, 2, 4, 0), domega(0, 1, 0, 0, 3)}, []impl.DOmega{domega(5, 6, 7, 9, 1), {}}, domega(67, 18, -9, -41, 1)},
	}
	for _, c := range cases {
		checkInner(t, c.u, c.v, c.want, true)
	}
}

func TestInnerProductsOfBasisStates(t *testing.T) {
	for n := 1; n <= 4; n++ {
		for i := range 1 << n {
			for j := range 1 << n {
				want := impl.DOmega{}
				if i == j {
					want = domega(1, 0, 0, 0, 0)
				}
				checkInner(t, impl.BasisState(n, i), impl.BasisState(n, j), want, true)
			}
		}
		for _, v := range someStates(n) {
			for k, x := range v {
				// All other products are 0, whose sum with any amplitude is that amplitude.
				checkInner(t, impl.BasisState(n, k), v, x, true)
			}
		}
	}
}

// TestProductsThatFail: at each index alone, whatever the sum of the others.
func TestProductsThatFail(t *testing.T) {
	cases := []struct{ x, y impl.DOmega }{
		{domega(maxC, 0, 0, 0, 0), domega(2, 0, 0, 0, 0)},
		{domega(0, 32769, 0, 0, 0), domega(0, 0, 32768, 0, 0)},
		{domega(1, 0, 0, 0, 31), domega(1, 0, 0, 0, 30)},
		{domega(1, 0, 0, 0, 60), domega(1, 0, 0, 0, 1)},
		{domega(maxC, 1, 0, 0, 0), domega(1, 1, 0, 0, 0)},
	}
	for _, c := range cases {
		for n := 1; n <= 4; n++ {
			for k := range 1 << n {
				u, v := sameAmplitudes(1<<n, domega(0, 1, 0, 0, 1)), make([]impl.DOmega, 1<<n)
				checkInner(t, replacedAt(u, k, c.x), v, impl.DOmega{}, true)
				checkInner(t, replacedAt(u, k, c.x), replacedAt(v, k, c.y), impl.DOmega{}, false)
				checkInner(t, replacedAt(v, k, c.y), replacedAt(u, k, c.x), impl.DOmega{}, false)
			}
		}
	}
}

// TestPartialSums: the products are added in ascending order; some sums fail although another order would keep within the limits.
func TestPartialSums(t *testing.T) {
	cases := []struct {
		products []int
		want     int
		accept   bool
	}{
		{[]int{maxC, 1}, 0, false},
		{[]int{-maxC, -1}, 0, false},
		{[]int{maxC, 0}, maxC, true},
		{[]int{maxC, -maxC}, 0, true},
		{[]int{maxC, 1, -1, 0}, 0, false},
		{[]int{maxC, -1, 1, 0}, maxC, true},
		{[]int{-1, maxC, 1, 0}, maxC, true},
		{[]int{0, 1, maxC, -1}, 0, false},
		{[]int{-1, -1, maxC, 1}, maxC - 1, true},
		{[]int{maxC, 0, 1, -1}, 0, false},
		{[]int{1, 0, 0, maxC}, 0, false},
		{[]int{-maxC, maxC, -maxC, maxC}, 0, true},
		{[]int{0, 0, 0, maxC, 0, 0, 1, -1}, 0, false},
		{[]int{0, 0, 0, maxC, 0, 0, -1, 1}, maxC, true},
		{[]int{maxC, 0, 0, 0, 0, 0, 0, 0, 0, 0, 0, 0, 0, 0, 0, 1}, 0, false},
		{[]int{maxC, 0, 0, 0, 0, 0, 0, 0, 0, 0, 0, 0, 0, 0, -1, 1}, maxC, true},
	}
	for _, c := range cases {
		ones, want := sameAmplitudes(len(c.products), domega(1, 0, 0, 0, 0)), domega(c.want, 0, 0, 0, 0)
		checkInner(t, ones, realIntegers(c.products...), want, c.accept)
		checkInner(t, realIntegers(c.products...), ones, want, c.accept)
	}
}

// TestPartialSumsOfDifferentExponents: the larger exponent of a later product takes a partial sum past the limit, even if the whole sum would be small.
func TestPartialSumsOfDifferentExponents(t *testing.T) {
	half, quarter := domega(1, 0, 0, 0, 2), domega(1, 0, 0, 0, 4)
	large, negative := domega(maxC-1, 0, 0, 0, 0), domega(1-maxC, 0, 0, 0, 0)
	ones := sameAmplitudes(4, domega(1, 0, 0, 0, 0))
	checkInner(t, ones, []impl.DOmega{large, half, negative, half}, impl.DOmega{}, false)
	checkInner(t, ones, []impl.DOmega{large, negative, half, half}, domega(1, 0, 0, 0, 0), true)
	checkInner(t, ones, []impl.DOmega{half, half, large, negative}, domega(1, 0, 0, 0, 0), true)
	checkInner(t, ones, []impl.DOmega{half, large, half, negative}, impl.DOmega{}, false)
	checkInner(t, ones, []impl.DOmega{quarter, quarter, domega(maxC/2, 0, 0, 0, 0), half}, impl.DOmega{}, false)
	checkInner(t, ones, []impl.DOmega{quarter, quarter, domega(maxC/2-1, 0, 0, 0, 0), half}, domega(maxC/2, 0, 0, 0, 0), true)
	checkInner(t, ones, []impl.DOmega{domega(1, 0, 0, 0, 60), domega(1, 0, 0, 0, 0), {}, {}}, impl.DOmega{}, false)
	checkInner(t, ones, []impl.DOmega{domega(1, 0, 0, 0, 60), {}, {}, domega(-1, 0, 0, 0, 60)}, impl.DOmega{}, true)
}

func TestInnerProductsOfManyStates(t *testing.T) {
	computed, failed := 0, 0
	for n := 1; n <= 4; n++ {
		list := someStates(n)
		for _, u := range list {
			for _, v := range list {
				want, accept := expectedInner(u, v)
				checkInner(t, u, v, want, accept)
				// The other order gives the conjugate, whose coefficients are as large.
				checkInner(t, v, u, impl.ConjDOmega(want), accept)
				if accept {
					computed++
				} else {
					failed++
				}
			}
		}
	}
	if computed < 1000 || failed < 500 {
		t.Errorf("%d inner products are valid, and %d fail", computed, failed)
	}
}

func TestInnerProductsAsComplexNumbers(t *testing.T) {
	for n := 1; n <= 4; n++ {
		list := statesFrom(smallAmplitudes(), n)
		for i, u := range list {
			v := list[(i*3+1)%len(list)]
			var want complex128
			for k := range u {
				want += cmplx.Conj(fractionValue(u[k])) * fractionValue(v[k])
			}
			got, ok := impl.InnerProduct(u, v)
			if !ok || cmplx.Abs(fractionValue(got)-want) > 1e-6 {
				t.Errorf("InnerProduct(%v, %v) = %v, %v, want %v", u, v, got, ok, want)
			}
			norm, ok := impl.InnerProduct(u, u)
			if !ok || !impl.IsReal(norm) || impl.RealSign(norm) < 0 {
				t.Errorf("the inner product of %v with itself is %v, %v", u, norm, ok)
			}
		}
	}
}

// TestInnerProductsOfScaledStates: the factor of the first state is conjugated.
func TestInnerProductsOfScaledStates(t *testing.T) {
	for n := 1; n <= 4; n++ {
		list := statesFrom(smallAmplitudes(), n)
		for i, u := range list {
			v := list[(i+2)%len(list)]
			inner, _ := impl.InnerProduct(u, v)
			for j := range 8 {
				scaledU, _ := impl.ScaleState(u, impl.PhaseFactor(j))
				scaledV, _ := impl.ScaleState(v, impl.PhaseFactor(j))
				forward, ok := impl.MulDOmega(inner, impl.PhaseFactor(j))
				backward, ok2 := impl.MulDOmega(inner, impl.PhaseFactor(-j))
				if !ok || !ok2 {
					t.Fatalf("%v has no product with a phase", inner)
				}
				checkInner(t, u, scaledV, forward, true)
				checkInner(t, scaledU, v, backward, true)
				checkInner(t, scaledU, scaledV, inner, true)
			}
		}
	}
}

// TestInvalidStatesAsOperands pairs each slice with itself, with valid states of its length and with a state of another one.
func TestInvalidStatesAsOperands(t *testing.T) {
	for _, v := range invalidStates() {
		valid := [][]impl.DOmega{make([]impl.DOmega, len(v)), sameAmplitudes(len(v), domega(1, 0, 0, 0, 0)), impl.BasisState(1, 1), impl.BasisState(4, 15)}
		for _, u := range append(valid, v, nil) {
			checkStateSum(t, u, v, nil, false)
			checkInner(t, u, v, impl.DOmega{}, false)
			checkInner(t, v, u, impl.DOmega{}, false)
		}
	}
}

// TestInvalidAmplitudesThatCancel: their fractions, once reduced, would have a sum.
func TestInvalidAmplitudesThatCancel(t *testing.T) {
	for n := 1; n <= 4; n++ {
		for _, x := range invalidFractions() {
			y := impl.DOmega{N: zomega(-x.N.A, -x.N.B, -x.N.C, -x.N.D), Exp: x.Exp}
			for _, k := range []int{0, 1, 1<<n - 1} {
				u, v := replacedAt(make([]impl.DOmega, 1<<n), k, x), replacedAt(make([]impl.DOmega, 1<<n), k, y)
				checkStateSum(t, u, v, nil, false)
				checkInner(t, u, v, impl.DOmega{}, false)
			}
		}
	}
}

func TestStatesOfDifferentLengths(t *testing.T) {
	for n := 1; n <= 4; n++ {
		for m := 1; m <= 4; m++ {
			if m == n {
				continue
			}
			for _, u := range someStates(n)[:6] {
				for _, v := range someStates(m)[:6] {
					checkStateSum(t, u, v, nil, false)
					checkInner(t, u, v, impl.DOmega{}, false)
					checkEqualState(t, u, v, false)
				}
			}
		}
	}
}

func TestEqualState(t *testing.T) {
	checkEqualState(t, nil, nil, true)
	checkEqualState(t, nil, []impl.DOmega{}, true)
	checkEqualState(t, []impl.DOmega{}, make([]impl.DOmega, 0, 4), true)
	for length := range 34 {
		v := sameAmplitudes(length, domega(1, -2, 3, -4, 0))
		checkEqualState(t, v, slices.Clone(v), true)
		checkEqualState(t, v, v, true)
		checkEqualState(t, v, append(make([]impl.DOmega, 0, 40), v...), true)
		for other := range 34 {
			checkEqualState(t, v, sameAmplitudes(other, domega(1, -2, 3, -4, 0)), other == length)
		}
		for k := range length {
			checkEqualState(t, v, replacedAt(v, k, domega(4, 3, 2, 1, 0)), false)
			checkEqualState(t, v, slices.Delete(slices.Clone(v), k, k+1), false)
		}
	}
	for _, v := range invalidStates() {
		checkEqualState(t, v, slices.Clone(v), true)
	}
}

// TestStatesThatDifferInOneField also compares slices that are no valid states.
func TestStatesThatDifferInOneField(t *testing.T) {
	for _, length := range []int{1, 2, 3, 4, 8, 16, 17, 32} {
		for _, x := range []impl.DOmega{{}, domega(1, 0, 0, 0, 1), domega(1, 2, 3, 4, 0), domega(2, 2, 2, 2, 2), domega(math.MinInt, 0, math.MaxInt, 0, -1)} {
			v := sameAmplitudes(length, x)
			for k := range length {
				for _, by := range []int{1, -1, 1 << 32, math.MinInt} {
					checkEqualState(t, v, replacedAt(v, k, domega(x.N.A+by, x.N.B, x.N.C, x.N.D, x.Exp)), false)
					checkEqualState(t, v, replacedAt(v, k, domega(x.N.A, x.N.B+by, x.N.C, x.N.D, x.Exp)), false)
					checkEqualState(t, v, replacedAt(v, k, domega(x.N.A, x.N.B, x.N.C+by, x.N.D, x.Exp)), false)
					checkEqualState(t, v, replacedAt(v, k, domega(x.N.A, x.N.B, x.N.C, x.N.D+by, x.Exp)), false)
					checkEqualState(t, v, replacedAt(v, k, domega(x.N.A, x.N.B, x.N.C, x.N.D, x.Exp+by)), false)
				}
			}
		}
	}
}

func TestDifferentStatesAreNotEqual(t *testing.T) {
	for n := 1; n <= 4; n++ {
		for i := range 1 << n {
			for j := range 1 << n {
				checkEqualState(t, impl.BasisState(n, i), impl.BasisState(n, j), i == j)
			}
		}
	}
	// The order counts, and so does the representation.
	checkEqualState(t, realIntegers(1, 2, 3, 4), realIntegers(2, 1, 3, 4), false)
	checkEqualState(t, realIntegers(1, 0), []impl.DOmega{domega(2, 0, 0, 0, 2), {}}, false)
	checkEqualState(t, realIntegers(0, 0), []impl.DOmega{{}, domega(0, 0, 0, 0, 1)}, false)
}

// unusedMark stands in the capacity that a slice does not use.
var unusedMark = domega(-7, 7, -7, 7, -7)

func withUnusedCapacity(v []impl.DOmega) []impl.DOmega { return withMarks(v, unusedMark) }

func checkUntouched(t *testing.T, what string, v, before []impl.DOmega) {
	t.Helper()
	checkMarks(t, what, v, before, unusedMark)
}

func overwrite(v []impl.DOmega) { fillWith(v, domega(99, 98, 97, 96, 95)) }

// TestStatesAreKept overwrites each result: neither an argument nor another result may change with it.
func TestStatesAreKept(t *testing.T) {
	pairs := [][2][]impl.DOmega{{nil, nil}, {realIntegers(1, 2), realIntegers(1, 2, 3, 4)}, {realIntegers(maxC, 0), realIntegers(1, 0)}, {realIntegers(0, maxC), realIntegers(0, 1)}}
	for n := 1; n <= 4; n++ {
		list := someStates(n)
		for i, u := range list {
			pairs = append(pairs, [2][]impl.DOmega{u, list[(i+1)%len(list)]}, [2][]impl.DOmega{u, make([]impl.DOmega, 1<<n)})
		}
	}
	for _, v := range invalidStates()[:200] {
		pairs = append(pairs, [2][]impl.DOmega{v, sameAmplitudes(len(v), domega(1, 0, 0, 0, 0))})
	}
	for _, pair := range pairs {
		u, v := withUnusedCapacity(pair[0]), withUnusedCapacity(pair[1])
		for _, x := range []impl.DOmega{{}, domega(1, 0, 0, 0, 0), domega(1, 0, 0, 0, 1), domega(2, 0, 0, 0, 0), domega(2, 0, 0, 0, 2)} {
			checkFreshResults(t, "ScaleState", func() []impl.DOmega { return firstOf(impl.ScaleState(u, x)) })
			checkUntouched(t, "ScaleState", u, pair[0])
		}
		checkFreshResults(t, "AddStates", func() []impl.DOmega { return firstOf(impl.AddStates(u, v)) })
		checkFreshResults(t, "AddStates", func() []impl.DOmega { return firstOf(impl.AddStates(u, u)) })
		impl.InnerProduct(u, v)
		impl.EqualState(u, v)
		impl.QubitCount(u)
		impl.IsValidState(u)
		checkUntouched(t, "a function of two states", u, pair[0])
		checkUntouched(t, "a function of two states", v, pair[1])
	}
}

func firstOf(v []impl.DOmega, _ bool) []impl.DOmega { return v }

func checkFreshResults(t *testing.T, what string, call func() []impl.DOmega) {
	t.Helper()
	checkFresh(t, what, domega(99, 98, 97, 96, 95), call)
}

// TestResultsKeepTheirValues: also when an argument is overwritten afterwards.
func TestResultsKeepTheirValues(t *testing.T) {
	u, v := withUnusedCapacity(realIntegers(1, 2, 3, 4)), withUnusedCapacity(realIntegers(0, 0, 0, 0))
	scaled, _ := impl.ScaleState(u, domega(1, 0, 0, 0, 0))
	sum, _ := impl.AddStates(u, v)
	other, _ := impl.AddStates(v, u)
	overwrite(u)
	overwrite(v)
	for _, result := range [][]impl.DOmega{scaled, sum, other} {
		if !slices.Equal(result, realIntegers(1, 2, 3, 4)) {
			t.Errorf("a result becomes %v", result)
		}
	}
	for n := 1; n <= 4; n++ {
		for i := range 1 << n {
			checkFreshResults(t, "BasisState", func() []impl.DOmega { return impl.BasisState(n, i) })
		}
	}
}
