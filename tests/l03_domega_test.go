package tests

import (
	"math"
	"math/big"
	"math/cmplx"
	"testing"

	"loop.example/g00506/impl"
)

// Promise 3: equal amplitudes have equal representations.
// Promise 47: every function is total, pure, and does not modify its arguments.

const maxE = impl.MaxExponent

func domega(a, b, c, d, exp int) impl.DOmega {
	return impl.DOmega{N: zomega(a, b, c, d), Exp: exp}
}

// hasRoot reports whether the square root of 2 divides the element.
func hasRoot(n impl.ZOmega) bool { return (n.A-n.C)%2 == 0 && (n.B-n.D)%2 == 0 }

// timesRoot multiplies by the square root of 2, without a limit.
func timesRoot(n impl.ZOmega) impl.ZOmega {
	return zomega(n.B-n.D, n.A+n.C, n.B+n.D, n.C-n.A)
}

// rootFactors returns how often the square root of 2 divides an element that is not 0.
// It occurs twice in every factor 2, and at most once more.
func rootFactors(n impl.ZOmega) int {
	all := n.A | n.B | n.C | n.D
	twos := 0
	for all>>twos&1 == 0 {
		twos++
	}
	if hasRoot(zomega(n.A>>twos, n.B>>twos, n.C>>twos, n.D>>twos)) {
		return 2*twos + 1
	}
	return 2 * twos
}

// expectedFraction cancels all factors at once, which the program does one by one.
func expectedFraction(n impl.ZOmega, k int) (impl.DOmega, bool) {
	if !withinMaxC(n) || k < 0 || k > 120 {
		return impl.DOmega{}, false
	}
	if n == (impl.ZOmega{}) {
		return impl.DOmega{}, true
	}
	cancelled := min(k, rootFactors(n))
	if k-cancelled > 60 {
		return impl.DOmega{}, false
	}
	if cancelled%2 == 1 {
		n = timesRoot(n)
	}
	by := 1 << ((cancelled + 1) / 2)
	return domega(n.A/by, n.B/by, n.C/by, n.D/by, k-cancelled), true
}

func reducedFraction(x impl.DOmega) bool {
	return withinMaxC(x.N) && x.Exp >= 0 && x.Exp <= 60 && (x.Exp == 0 || !hasRoot(x.N))
}

func expectedSum(x, y impl.DOmega) (impl.DOmega, bool) {
	if !reducedFraction(x) || !reducedFraction(y) {
		return impl.DOmega{}, false
	}
	if x.Exp > y.Exp {
		x, y = y, x
	}
	for ; x.Exp < y.Exp; x.Exp++ {
		x.N = timesRoot(x.N)
		if !withinMaxC(x.N) {
			return impl.DOmega{}, false
		}
	}
	sum, ok := exactSum(x.N, y.N)
	if !ok {
		return impl.DOmega{}, false
	}
	return expectedFraction(sum, y.Exp)
}

func expectedFractionProduct(x, y impl.DOmega) (impl.DOmega, bool) {
	if !reducedFraction(x) || !reducedFraction(y) {
		return impl.DOmega{}, false
	}
	product, ok := exactProduct(x.N, y.N)
	if !ok {
		return impl.DOmega{}, false
	}
	return expectedFraction(product, x.Exp+y.Exp)
}

// liftedNumerator returns the numerator that the amplitude would have with exponent 60.
func liftedNumerator(x impl.DOmega) [4]string {
	n := integersOf(x.N)
	for range maxE - x.Exp {
		sum, difference := new(big.Int).Add(n[0], n[2]), new(big.Int).Sub(n[2], n[0])
		n = [4]*big.Int{new(big.Int).Sub(n[1], n[3]), sum, new(big.Int).Add(n[1], n[3]), difference}
	}
	return [4]string{n[0].String(), n[1].String(), n[2].String(), n[3].String()}
}

// reducedFractions returns valid amplitudes of all sizes.
func reducedFractions() []impl.DOmega {
	elements := append(smallElements(), variedElements()...)
	elements = append(elements, elementsOf([]int{-maxC, 0, maxC - 1})...)
	var list []impl.DOmega
	for i, n := range elements {
		for _, exp := range []int{0, i%7 + 1, 53 + i%8, i * 13 % 61} {
			if x := (impl.DOmega{N: n, Exp: exp}); reducedFraction(x) {
				list = append(list, x)
			}
		}
	}
	return list
}

// pairFractions returns fewer of them, to be paired with each other.
func pairFractions() []impl.DOmega {
	list := []impl.DOmega{
		domega(1, 0, 0, 0, 60), domega(-1, 0, 0, 0, 60), domega(1, 0, 0, 0, 59), domega(1, 0, 0, 0, 0),
		domega(1, 0, 0, 0, 1), domega(0, -1, 0, 0, 1), domega(2, 0, 0, 0, 0), domega(0, 1, 0, -1, 0),
		domega(maxC, 0, 0, 0, 0), domega(-maxC, -maxC, maxC, maxC, 0), domega(maxC, maxC-1, 0, 0, 60), {},
	}
	for i, x := range reducedFractions() {
		if i%6 == 0 {
			list = append(list, x)
		}
	}
	return list
}

// invalidFractions returns amplitudes that are not valid, each for one reason or for several.
func invalidFractions() []impl.DOmega {
	var list []impl.DOmega
	for _, n := range invalidElements() {
		for _, exp := range []int{0, 1, 2, 60, 61, -1} {
			list = append(list, impl.DOmega{N: n, Exp: exp})
		}
	}
	for _, exp := range []int{-1, -2, -60, -61, 61, 62, 119, 120, 121, 1 << 32, -1 << 32, 1 << 62, math.MaxInt, math.MaxInt - 1, math.MinInt, math.MinInt + 1, math.MinInt + 60} {
		for _, n := range []impl.ZOmega{{}, zomega(1, 0, 0, 0), zomega(0, 1, 0, -1), zomega(2, 0, 0, 0), zomega(maxC, 0, 0, 0), zomega(1, 2, 4, 5)} {
			list = append(list, impl.DOmega{N: n, Exp: exp})
		}
	}
	for exp := 1; exp <= 60; exp++ {
		list = append(list, domega(0, 0, 0, 0, exp), domega(2, 0, 0, 0, exp), domega(0, -1, 0, 1, exp), domega(1, 0, 1, 0, exp))
		list = append(list, domega(3, 5, -1, 1, exp), domega(maxC, maxC, maxC, maxC, exp), domega(0, 0, 0, -maxC, exp))
	}
	return list
}

// checkFraction expects the amplitude and true, or the zero value and false if it is not to be accepted.
func checkFraction(t *testing.T, what string, operands []any, got impl.DOmega, ok bool, want impl.DOmega, accept bool) {
	t.Helper()
	if !accept {
		want = impl.DOmega{}
	}
	if got != want || ok != accept {
		t.Fatalf("%s of %v = %v, %v, want %v, %v", what, operands, got, ok, want, accept)
	}
}

func checkNew(t *testing.T, n impl.ZOmega, k int, want impl.DOmega, accept bool) {
	t.Helper()
	got, ok := impl.NewDOmega(n, k)
	checkFraction(t, "NewDOmega", []any{n, k}, got, ok, want, accept)
}

// checkFractionSum expects the same sum for both orders of the operands.
func checkFractionSum(t *testing.T, x, y, want impl.DOmega, accept bool) {
	t.Helper()
	got, ok := impl.AddDOmega(x, y)
	checkFraction(t, "AddDOmega", []any{x, y}, got, ok, want, accept)
	got, ok = impl.AddDOmega(y, x)
	checkFraction(t, "AddDOmega", []any{y, x}, got, ok, want, accept)
}

// checkFractionProduct expects the same product for both orders of the factors.
func checkFractionProduct(t *testing.T, x, y, want impl.DOmega, accept bool) {
	t.Helper()
	got, ok := impl.MulDOmega(x, y)
	checkFraction(t, "MulDOmega", []any{x, y}, got, ok, want, accept)
	got, ok = impl.MulDOmega(y, x)
	checkFraction(t, "MulDOmega", []any{y, x}, got, ok, want, accept)
}

func TestMaxExponent(t *testing.T) {
	if impl.MaxExponent != 60 {
		t.Errorf("MaxExponent = %d", impl.MaxExponent)
	}
}

func TestIsValidDOmega(t *testing.T) {
	for _, x := range []impl.DOmega{
		{}, domega(1, 0, 0, 0, 0), domega(1, 0, 0, 0, 1), domega(1, 0, 0, 0, 60), domega(0, 0, 0, -1, 60),
		domega(2, 0, 0, 0, 0), domega(0, 1, 0, -1, 0), domega(maxC, maxC, maxC, maxC, 0), domega(-maxC, -maxC, -maxC, -maxC, 0),
		domega(1, 1, 0, 0, 1), domega(1, 2, 4, 6, 7), domega(maxC, maxC-1, maxC, -maxC, 60), domega(-maxC, 0, 1-maxC, 0, 60),
	} {
		if !impl.IsValidDOmega(x) {
			t.Errorf("IsValidDOmega(%v) = false", x)
		}
	}
	for _, x := range invalidFractions() {
		if impl.IsValidDOmega(x) {
			t.Errorf("IsValidDOmega(%v) = true", x)
		}
	}
	for _, n := range append(smallElements(), pairElements()...) {
		for exp := -2; exp <= 122; exp++ {
			x := impl.DOmega{N: n, Exp: exp}
			if got := impl.IsValidDOmega(x); got != reducedFraction(x) {
				t.Fatalf("IsValidDOmega(%v) = %v", x, got)
			}
		}
	}
}

func TestNewDOmega(t *testing.T) {
	one, root := zomega(1, 0, 0, 0), zomega(0, 1, 0, -1)
	cases := []struct {
		n    impl.ZOmega
		k    int
		want impl.DOmega
	}{
		{one, 0, domega(1, 0, 0, 0, 0)},
		{one, 1, domega(1, 0, 0, 0, 1)},
		{root, 0, domega(0, 1, 0, -1, 0)},
		{root, 1, domega(1, 0, 0, 0, 0)},
		{root, 2, domega(1, 0, 0, 0, 1)},
		{zomega(2, 0, 0, 0), 0, domega(2, 0, 0, 0, 0)},
		{zomega(2, 0, 0, 0), 1, domega(0, 1, 0, -1, 0)},
		{zomega(2, 0, 0, 0), 2, domega(1, 0, 0, 0, 0)},
		{zomega(2, 0, 0, 0), 3, domega(1, 0, 0, 0, 1)},
		{zomega(-8, 0, 0, 0), 3, domega(0, -2, 0, 2, 0)},
		{zomega(-8, 0, 0, 0), 5, domega(0, -1, 0, 1, 0)},
		{zomega(-8, 0, 0, 0), 9, domega(-1, 0, 0, 0, 3)},
		{zomega(1, 0, 1, 0), 1, domega(0, 1, 0, 0, 0)},
		{zomega(0, 1, 0, 1), 4, domega(0, 0, 1, 0, 3)},
		{zomega(1, 2, 3, 4), 0, domega(1, 2, 3, 4, 0)},
		{zomega(1, 2, 3, 4), 1, domega(-1, 2, 3, 1, 0)},
		{zomega(1, 2, 3, 4), 2, domega(-1, 2, 3, 1, 1)},
		{zomega(1, 2, 4, 6), 5, domega(1, 2, 4, 6, 5)},
		{zomega(maxC, maxC, maxC, maxC), 0, domega(maxC, maxC, maxC, maxC, 0)},
		{zomega(maxC, maxC, maxC, maxC), 1, domega(0, maxC, maxC, 0, 0)},
		{zomega(maxC, maxC, maxC, maxC), 120, domega(0, 1, 1, 0, 59)},
	}
	for _, c := range cases {
		checkNew(t, c.n, c.k, c.want, true)
	}
}

func TestExponentsAtTheLimits(t *testing.T) {
	one, root, two := zomega(1, 0, 0, 0), zomega(0, 1, 0, -1), zomega(2, 0, 0, 0)
	limit := domega(1, 0, 0, 0, 60)
	checkNew(t, one, 59, domega(1, 0, 0, 0, 59), true)
	checkNew(t, one, 60, limit, true)
	checkNew(t, root, 61, limit, true)
	checkNew(t, two, 62, limit, true)
	checkNew(t, zomega(0, 2, 0, -2), 63, limit, true)
	checkNew(t, zomega(maxC, 0, 0, 0), 120, limit, true)
	checkNew(t, zomega(0, 0, -maxC, 0), 120, domega(0, 0, -1, 0, 60), true)
	checkNew(t, zomega(0, maxC/2, 0, -maxC/2), 119, limit, true)
	checkNew(t, zomega(0, maxC, 0, -maxC), 120, domega(1, 0, 0, 0, 59), true)
	for _, n := range []impl.ZOmega{one, zomega(1, 1, 0, 0), zomega(maxC, maxC-1, 0, 0), zomega(0, 0, 0, -1)} {
		for _, k := range []int{61, 62, 119, 120} {
			checkNew(t, n, k, impl.DOmega{}, false)
		}
	}
	checkNew(t, root, 62, impl.DOmega{}, false)
	checkNew(t, two, 63, impl.DOmega{}, false)
	checkNew(t, zomega(maxC/2, 0, 0, 0), 120, impl.DOmega{}, false)
	checkNew(t, zomega(0, maxC/2, 0, -maxC/2), 120, impl.DOmega{}, false)
	checkNew(t, zomega(maxC, 0, 0, 0), 121, impl.DOmega{}, false)
	checkNew(t, zomega(maxC, maxC, maxC, maxC), 121, impl.DOmega{}, false)
}

func TestZeroWithEveryExponent(t *testing.T) {
	for k := -200; k <= 200; k++ {
		checkNew(t, impl.ZOmega{}, k, impl.DOmega{}, k >= 0 && k <= 120)
		if impl.IsValidDOmega(impl.DOmega{Exp: k}) != (k == 0) {
			t.Errorf("IsValidDOmega of 0 with exponent %d is wrong", k)
		}
	}
	for _, x := range reducedFractions() {
		checkFractionSum(t, x, impl.DOmega{}, x, true)
		checkFractionSum(t, x, impl.NegDOmega(x), impl.DOmega{}, true)
		checkFractionProduct(t, x, impl.DOmega{}, impl.DOmega{}, true)
	}
}

func TestNewDOmegaOfInvalidArguments(t *testing.T) {
	for _, n := range invalidElements() {
		for _, k := range []int{0, 1, 2, 60, 61, 120, 121, -1, math.MaxInt, math.MinInt} {
			checkNew(t, n, k, impl.DOmega{}, false)
		}
	}
	for _, k := range []int{-1, -2, -60, -120, 121, 122, 1000, 1 << 32, 1<<32 + 1, -1 << 32, math.MaxInt, math.MaxInt - 1, math.MinInt, math.MinInt + 1} {
		for _, n := range append(smallElements(), zomega(maxC, maxC, maxC, maxC), zomega(maxC, 0, 0, 0)) {
			checkNew(t, n, k, impl.DOmega{}, false)
		}
	}
}

func TestNewDOmegaOfManyFractions(t *testing.T) {
	valid := 0
	for _, n := range append(smallElements(), pairElements()...) {
		for k := -2; k <= 122; k++ {
			want, accept := expectedFraction(n, k)
			checkNew(t, n, k, want, accept)
			if accept {
				valid++
			}
		}
	}
	if valid < 10000 {
		t.Errorf("only %d fractions are valid", valid)
	}
}

// TestEqualFractionsHaveEqualRepresentations multiplies numerator and denominator by the square root of 2.
func TestEqualFractionsHaveEqualRepresentations(t *testing.T) {
	expanded := 0
	for _, x := range reducedFractions() {
		checkNew(t, x.N, x.Exp, x, true)
		n := timesRoot(x.N)
		for k := x.Exp + 1; k <= 120 && withinMaxC(n); k++ {
			checkNew(t, n, k, x, true)
			n = timesRoot(n)
			expanded++
		}
	}
	if expanded < 10000 {
		t.Errorf("only %d fractions were expanded", expanded)
	}
}

// TestRepresentationsAreUnique computes many amplitudes and holds the number that each denotes against its representation.
func TestRepresentationsAreUnique(t *testing.T) {
	representation := map[[4]string]impl.DOmega{}
	number := map[impl.DOmega][4]string{}
	note := func(x impl.DOmega, ok bool) {
		if !ok {
			return
		}
		if !impl.IsValidDOmega(x) || !reducedFraction(x) {
			t.Fatalf("the result %v is not valid", x)
		}
		n := liftedNumerator(x)
		if other, seen := representation[n]; seen && other != x {
			t.Fatalf("%v and %v denote the same number", other, x)
		}
		if other, seen := number[x]; seen && other != n {
			t.Fatalf("%v denotes %v and %v", x, other, n)
		}
		representation[n], number[x] = x, n
	}
	var list []impl.DOmega
	for _, n := range elementsOf([]int{-1, 0, 2}) {
		for k := range 4 {
			x, ok := impl.NewDOmega(n, k)
			note(x, ok)
			if k < 2 && ok {
				list = append(list, x)
			}
		}
	}
	for _, x := range list {
		for _, y := range list {
			note(impl.AddDOmega(x, y))
			note(impl.MulDOmega(x, y))
		}
	}
	if len(representation) < 1000 {
		t.Errorf("only %d amplitudes were computed", len(representation))
	}
}

func TestOneDOmega(t *testing.T) {
	if impl.OneDOmega() != domega(1, 0, 0, 0, 0) {
		t.Errorf("OneDOmega() = %v", impl.OneDOmega())
	}
	for _, x := range reducedFractions() {
		checkFractionProduct(t, x, impl.OneDOmega(), x, true)
		checkFractionProduct(t, x, impl.NegDOmega(impl.OneDOmega()), impl.NegDOmega(x), true)
	}
}

func TestAddDOmega(t *testing.T) {
	cases := []struct{ x, y, want impl.DOmega }{
		{impl.DOmega{}, impl.DOmega{}, impl.DOmega{}},
		{domega(1, 2, 3, 4, 0), domega(10, 20, 30, 40, 0), domega(11, 22, 33, 44, 0)},
		{domega(1, 0, 0, 0, 1), domega(1, 0, 0, 0, 1), domega(0, 1, 0, -1, 0)},
		{domega(1, 0, 0, 0, 2), domega(1, 0, 0, 0, 2), domega(1, 0, 0, 0, 0)},
		{domega(1, 0, 0, 0, 5), domega(1, 0, 0, 0, 5), domega(1, 0, 0, 0, 3)},
		{domega(1, 0, 0, 0, 2), domega(-1, 0, 0, 0, 2), impl.DOmega{}},
		{domega(1, 0, 0, 0, 4), domega(0, 0, 1, 0, 4), domega(0, 1, 0, 0, 3)},
		{domega(3, 0, 0, 0, 4), domega(1, 0, 0, 0, 4), domega(1, 0, 0, 0, 0)},
		{domega(1, 0, 0, 0, 0), domega(1, 0, 0, 0, 1), domega(1, 1, 0, -1, 1)},
		{domega(0, 0, 0, 1, 0), domega(1, 0, 0, 0, 1), domega(0, 0, 1, 0, 1)},
		{domega(1, 0, 0, 0, 0), domega(1, 0, 0, 0, 2), domega(3, 0, 0, 0, 2)},
		{domega(1, 0, 0, 0, 1), domega(1, 0, 0, 0, 4), domega(1, 2, 0, -2, 4)},
		{domega(1, 2, 3, 4, 0), domega(0, 0, 0, 1, 1), domega(-2, 4, 6, 3, 1)},
		{domega(maxC/2, 0, 0, 0, 0), domega(maxC/2, 0, 0, 0, 0), domega(maxC, 0, 0, 0, 0)},
		{domega(maxC-1, 0, 0, 0, 60), domega(1, 0, 0, 0, 60), domega(1, 0, 0, 0, 0)},
		{domega(1, 0, 0, 0, 60), domega(1, 0, 0, 0, 60), domega(1, 0, 0, 0, 58)},
		{domega(1, 0, 0, 0, 60), domega(0, 0, 1, 0, 60), domega(0, 1, 0, 0, 59)},
		{domega(1, 0, 0, 0, 60), domega(0, 1, 0, 0, 60), domega(1, 1, 0, 0, 60)},
	}
	for _, c := range cases {
		checkFractionSum(t, c.x, c.y, c.want, true)
	}
}

// TestSumsOfDifferentExponentsAtTheLimit: the numerator leaves the limit on the way, at the end, in the sum, or not.
func TestSumsOfDifferentExponentsAtTheLimit(t *testing.T) {
	one, last := domega(1, 0, 0, 0, 0), domega(1, 0, 0, 0, 60)
	root, large := domega(0, 1, 0, -1, 0), domega(maxC, 0, 0, 0, 0)
	cases := []struct {
		x, y, want impl.DOmega
		accept     bool
	}{
		{one, domega(-1, 0, 0, 0, 60), domega(maxC-1, 0, 0, 0, 60), true},
		{domega(-1, 0, 0, 0, 0), last, domega(1-maxC, 0, 0, 0, 60), true},
		{one, domega(0, -1, 0, 0, 60), domega(maxC, -1, 0, 0, 60), true},
		{domega(1, 1, 0, 1, 1), last, domega(1, maxC/2, maxC, -maxC/2, 60), true},
		{root, last, domega(1, maxC, 0, -maxC, 60), true},
		{root, domega(-1, 0, 0, 0, 59), domega(maxC-1, 0, 0, 0, 59), true},
		{domega(2, 0, 0, 0, 0), domega(1, 0, 0, 0, 59), domega(1, maxC, 0, -maxC, 59), true},
		{large, domega(1, 0, 0, 0, 1), domega(1, maxC, 0, -maxC, 1), true},
		{large, domega(0, -1, 0, 0, 1), domega(0, maxC-1, 0, -maxC, 1), true},
		// The sum of the numerators is too large.
		{one, last, impl.DOmega{}, false},
		{domega(-1, 0, 0, 0, 0), domega(-1, 0, 0, 0, 60), impl.DOmega{}, false},
		{one, domega(maxC-1, 0, 0, 0, 60), impl.DOmega{}, false},
		{root, domega(0, 1, 0, 0, 60), impl.DOmega{}, false},
		{root, domega(1, 0, 0, 0, 59), impl.DOmega{}, false},
		{large, domega(0, 1, 0, 0, 1), impl.DOmega{}, false},
		// The last multiplication leaves the limit, even if the other operand is negative.
		{domega(2, 0, 0, 0, 0), last, impl.DOmega{}, false},
		{domega(2, 0, 0, 0, 0), domega(1-maxC, 0, 0, 0, 60), impl.DOmega{}, false},
		{domega(maxC, 0, 1, 0, 0), domega(1, 0, 0, 0, 1), impl.DOmega{}, false},
		{domega(maxC, 0, 1, 0, 0), domega(0, -1, 0, 0, 1), impl.DOmega{}, false},
		{large, domega(1, 0, 0, 0, 2), impl.DOmega{}, false},
		// A multiplication before the last one does.
		{domega(3, 0, 0, 0, 0), last, impl.DOmega{}, false},
		{domega(maxC, maxC, maxC, maxC, 0), last, impl.DOmega{}, false},
		{domega(maxC, maxC, maxC, maxC, 0), domega(-1, 0, 0, 0, 59), impl.DOmega{}, false},
		{domega(0, 0, 0, -maxC, 0), domega(1, 0, 0, 0, 3), impl.DOmega{}, false},
	}
	for _, c := range cases {
		checkFractionSum(t, c.x, c.y, c.want, c.accept)
	}
}

// TestSumsPastTheLimitThatWouldReduce adds numerators whose sum is too large, though the fraction could be reduced.
func TestSumsPastTheLimitThatWouldReduce(t *testing.T) {
	checkFractionSum(t, domega(maxC-1, 0, 0, 0, 2), domega(maxC-1, 0, 0, 0, 2), impl.DOmega{}, false)
	checkFractionSum(t, domega(maxC/2+1, 0, 0, 0, 2), domega(maxC/2+1, 0, 0, 0, 2), impl.DOmega{}, false)
	checkFractionSum(t, domega(maxC/2-1, 0, 0, 0, 2), domega(maxC/2+1, 0, 0, 0, 2), domega(maxC/2, 0, 0, 0, 0), true)
	checkFractionSum(t, domega(0, 0, 1-maxC, 0, 60), domega(0, 0, 1-maxC, 0, 60), impl.DOmega{}, false)
	checkFractionSum(t, domega(maxC, 0, 0, 0, 0), domega(1, 0, 0, 0, 0), impl.DOmega{}, false)
	checkFractionSum(t, domega(-maxC, 0, 0, 0, 0), domega(-maxC, 0, 0, 0, 0), impl.DOmega{}, false)
	checkFractionSum(t, domega(maxC/2-1, 0, 0, 1, 2), domega(maxC/2+1, 0, 0, 1, 2), domega(maxC/2, 0, 0, 1, 0), true)
}

func TestMulDOmega(t *testing.T) {
	half := domega(1, 0, 0, 0, 1)
	cases := []struct{ x, y, want impl.DOmega }{
		{impl.DOmega{}, impl.DOmega{}, impl.DOmega{}},
		{half, half, domega(1, 0, 0, 0, 2)},
		{half, domega(0, 1, 0, -1, 0), domega(1, 0, 0, 0, 0)},
		{domega(1, 0, 0, 0, 2), domega(2, 0, 0, 0, 0), domega(1, 0, 0, 0, 0)},
		{domega(1, 0, 0, 0, 3), domega(4, 0, 0, 0, 0), domega(0, 1, 0, -1, 0)},
		{domega(1, 0, 0, 0, 9), domega(0, 8, 0, 0, 0), domega(0, 1, 0, 0, 3)},
		{domega(0, 1, 0, 0, 0), domega(0, 0, 0, 1, 0), domega(-1, 0, 0, 0, 0)},
		{domega(1, 2, 4, 6, 2), domega(0, 1, 0, 0, 3), domega(-6, 1, 2, 4, 5)},
		{domega(1, 0, 0, 0, 30), domega(1, 0, 0, 0, 30), domega(1, 0, 0, 0, 60)},
		{domega(1, 0, 0, 0, 60), domega(maxC, 0, 0, 0, 0), domega(1, 0, 0, 0, 0)},
		{domega(1, 0, 0, 0, 60), domega(0, maxC, 0, -maxC, 0), domega(0, 1, 0, -1, 0)},
		{domega(32768, 0, 0, 0, 0), domega(32768, 0, 0, 0, 0), domega(maxC, 0, 0, 0, 0)},
		{domega(32769, 0, 0, 0, 3), domega(32767, 0, 0, 0, 4), domega(maxC-1, 0, 0, 0, 7)},
	}
	for _, c := range cases {
		checkFractionProduct(t, c.x, c.y, c.want, true)
	}
}

func TestProductsPastTheLimits(t *testing.T) {
	last := domega(1, 0, 0, 0, 60)
	checkFractionProduct(t, last, last, impl.DOmega{}, false)
	checkFractionProduct(t, last, domega(1, 0, 0, 0, 1), impl.DOmega{}, false)
	checkFractionProduct(t, domega(1, 0, 0, 0, 30), domega(1, 0, 0, 0, 31), impl.DOmega{}, false)
	checkFractionProduct(t, last, domega(1, 0, 0, 0, 0), last, true)
	// A numerator out of the limits fails although the factors would cancel.
	checkFractionProduct(t, domega(3, 0, 0, 0, 60), domega(maxC, 0, 0, 0, 0), impl.DOmega{}, false)
	checkFractionProduct(t, domega(maxC, 0, 0, 0, 0), domega(2, 0, 0, 0, 0), impl.DOmega{}, false)
	checkFractionProduct(t, domega(32769, 0, 0, 0, 1), domega(32769, 0, 0, 0, 1), impl.DOmega{}, false)
	checkFractionProduct(t, domega(maxC, maxC-1, 0, 0, 1), domega(maxC, maxC-1, 0, 0, 1), impl.DOmega{}, false)
}

// TestProductsThatBecomeReducible multiplies reduced numerators: (1 + omega)(1 - omega) is a multiple of the square root of 2.
func TestProductsThatBecomeReducible(t *testing.T) {
	cases := []struct{ x, y, want impl.DOmega }{
		{domega(1, 1, 0, 0, 1), domega(1, -1, 0, 0, 1), domega(0, 0, 0, -1, 1)},
		{domega(1, 1, 0, 0, 3), domega(1, 1, 0, 0, 3), domega(1, 1, 1, 0, 5)},
		{domega(1, 1, 0, 0, 3), domega(1, 0, 0, 1, 4), domega(0, 0, 1, 0, 6)},
		{domega(1, 1, 0, 0, 1), domega(2, -2, 0, 0, 0), domega(0, 0, 0, -2, 0)},
		{domega(1, 1, 0, 0, 5), domega(2, -2, 0, 0, 0), domega(0, 0, 0, -1, 2)},
		{domega(1, 1, 0, 0, 30), domega(1, -1, 0, 0, 31), domega(0, 0, 0, -1, 60)},
		{domega(1, 1, 0, 0, 60), domega(1, -1, 0, 0, 1), domega(0, 0, 0, -1, 60)},
	}
	for _, c := range cases {
		checkFractionProduct(t, c.x, c.y, c.want, true)
	}
	checkFractionProduct(t, domega(1, 1, 0, 0, 31), domega(1, -1, 0, 0, 31), impl.DOmega{}, false)
	checkFractionProduct(t, domega(1, 1, 0, 0, 60), domega(1, -1, 0, 0, 60), impl.DOmega{}, false)
}

func TestSumsAndProductsOfManyFractions(t *testing.T) {
	list := pairFractions()
	sums, products := 0, 0
	for _, x := range list {
		for _, y := range list {
			want, accept := expectedSum(x, y)
			got, ok := impl.AddDOmega(x, y)
			checkFraction(t, "AddDOmega", []any{x, y}, got, ok, want, accept)
			if ok {
				sums++
			}
			want, accept = expectedFractionProduct(x, y)
			got, ok = impl.MulDOmega(x, y)
			checkFraction(t, "MulDOmega", []any{x, y}, got, ok, want, accept)
			if ok {
				products++
			}
		}
	}
	if sums < 10000 || products < 10000 {
		t.Errorf("%d sums and %d products are valid", sums, products)
	}
}

func TestInvalidFractionsAsOperands(t *testing.T) {
	partners := []impl.DOmega{{}, domega(1, 0, 0, 0, 0), domega(-1, 0, 0, 0, 1), domega(1, 0, 0, 0, 60), domega(0, 1, 0, -1, 0), domega(maxC, -maxC, maxC, -maxC, 0)}
	for i, x := range invalidFractions() {
		if i%16 == 0 {
			partners = append(partners, x)
		}
	}
	for _, x := range invalidFractions() {
		checkFractionSum(t, x, x, impl.DOmega{}, false)
		checkFractionProduct(t, x, x, impl.DOmega{}, false)
		for _, y := range partners {
			checkFractionSum(t, x, y, impl.DOmega{}, false)
			checkFractionProduct(t, x, y, impl.DOmega{}, false)
		}
		if got := impl.NegDOmega(x); got != (impl.DOmega{}) {
			t.Errorf("NegDOmega(%v) = %v", x, got)
		}
		if got := impl.ConjDOmega(x); got != (impl.DOmega{}) {
			t.Errorf("ConjDOmega(%v) = %v", x, got)
		}
	}
}

func TestNegDOmegaAndConjDOmega(t *testing.T) {
	cases := []struct{ x, neg, conj impl.DOmega }{
		{impl.DOmega{}, impl.DOmega{}, impl.DOmega{}},
		{domega(1, 2, 3, 4, 0), domega(-1, -2, -3, -4, 0), domega(1, -4, -3, -2, 0)},
		{domega(1, 2, 4, 6, 5), domega(-1, -2, -4, -6, 5), domega(1, -6, -4, -2, 5)},
		{domega(0, 1, 0, 0, 60), domega(0, -1, 0, 0, 60), domega(0, 0, 0, -1, 60)},
		{domega(0, 1, 0, -1, 0), domega(0, -1, 0, 1, 0), domega(0, 1, 0, -1, 0)},
		{domega(maxC, maxC, maxC, maxC, 0), domega(-maxC, -maxC, -maxC, -maxC, 0), domega(maxC, -maxC, -maxC, -maxC, 0)},
		{domega(-maxC, 1-maxC, maxC, 0, 60), domega(maxC, maxC-1, -maxC, 0, 60), domega(-maxC, 0, -maxC, maxC-1, 60)},
	}
	for _, c := range cases {
		if got := impl.NegDOmega(c.x); got != c.neg {
			t.Errorf("NegDOmega(%v) = %v, want %v", c.x, got, c.neg)
		}
		if got := impl.ConjDOmega(c.x); got != c.conj {
			t.Errorf("ConjDOmega(%v) = %v, want %v", c.x, got, c.conj)
		}
	}
	for _, x := range reducedFractions() {
		neg, conj := impl.NegDOmega(x), impl.ConjDOmega(x)
		if !impl.IsValidDOmega(neg) || !impl.IsValidDOmega(conj) {
			t.Fatalf("of %v the negative %v or the conjugate %v is not valid", x, neg, conj)
		}
		if impl.NegDOmega(neg) != x || impl.ConjDOmega(conj) != x {
			t.Fatalf("negated or conjugated twice, %v is not itself", x)
		}
	}
}

// fractionValue returns the complex number that x denotes.
func fractionValue(x impl.DOmega) complex128 {
	omega := complex(math.Sqrt2/2, math.Sqrt2/2)
	return complexValue(x.N, omega) / complex(math.Pow(math.Sqrt2, float64(x.Exp)), 0)
}

func TestAmplitudesAsComplexNumbers(t *testing.T) {
	var list []impl.DOmega
	for i, n := range smallElements() {
		x, ok := impl.NewDOmega(n, i%5)
		value := complexValue(n, complex(math.Sqrt2/2, math.Sqrt2/2)) / complex(math.Pow(math.Sqrt2, float64(i%5)), 0)
		if !ok || cmplx.Abs(fractionValue(x)-value) > 1e-9 {
			t.Errorf("NewDOmega(%v, %d) = %v, %v", n, i%5, x, ok)
		}
		if cmplx.Abs(fractionValue(impl.NegDOmega(x))+value) > 1e-9 || cmplx.Abs(fractionValue(impl.ConjDOmega(x))-cmplx.Conj(value)) > 1e-9 {
			t.Errorf("of %v the negative is %v and the conjugate %v", x, impl.NegDOmega(x), impl.ConjDOmega(x))
		}
		if i%4 == 0 {
			list = append(list, x)
		}
	}
	for _, x := range list {
		for _, y := range list {
			sum, ok := impl.AddDOmega(x, y)
			if !ok || cmplx.Abs(fractionValue(sum)-fractionValue(x)-fractionValue(y)) > 1e-9 {
				t.Fatalf("AddDOmega(%v, %v) = %v, %v", x, y, sum, ok)
			}
			product, ok := impl.MulDOmega(x, y)
			if !ok || cmplx.Abs(fractionValue(product)-fractionValue(x)*fractionValue(y)) > 1e-9 {
				t.Fatalf("MulDOmega(%v, %v) = %v, %v", x, y, product, ok)
			}
		}
	}
}

// TestAmplitudesComputedInTwoWays: equal amplitudes are equal structs, whichever way they were computed.
func TestAmplitudesComputedInTwoWays(t *testing.T) {
	var list []impl.DOmega
	for i, n := range elementsOf([]int{-1, 0, 2}) {
		x, ok := impl.NewDOmega(n, i%9)
		if ok {
			list = append(list, x)
		}
	}
	sumOf := func(x, y impl.DOmega) impl.DOmega {
		sum, ok := impl.AddDOmega(x, y)
		if !ok {
			t.Fatalf("AddDOmega(%v, %v) fails", x, y)
		}
		return sum
	}
	productOf := func(x, y impl.DOmega) impl.DOmega {
		product, ok := impl.MulDOmega(x, y)
		if !ok {
			t.Fatalf("MulDOmega(%v, %v) fails", x, y)
		}
		return product
	}
	for _, x := range list {
		for _, y := range list {
			if sumOf(sumOf(x, y), impl.NegDOmega(y)) != x {
				t.Fatalf("%v plus and minus %v is not itself", x, y)
			}
			if impl.ConjDOmega(sumOf(x, y)) != sumOf(impl.ConjDOmega(x), impl.ConjDOmega(y)) || impl.ConjDOmega(productOf(x, y)) != productOf(impl.ConjDOmega(x), impl.ConjDOmega(y)) {
				t.Fatalf("the conjugate of the sum or the product of %v and %v differs from that of the conjugates", x, y)
			}
			for _, v := range list[:20] {
				if sumOf(sumOf(x, y), v) != sumOf(x, sumOf(y, v)) || productOf(productOf(x, y), v) != productOf(x, productOf(y, v)) {
					t.Fatalf("the sum or the product of %v, %v and %v depends on the order", x, y, v)
				}
				if productOf(x, sumOf(y, v)) != sumOf(productOf(x, y), productOf(x, v)) {
					t.Fatalf("%v times the sum of %v and %v is not the sum of the products", x, y, v)
				}
			}
		}
	}
}

func TestDOmegaKeepsNoState(t *testing.T) {
	x, y := domega(1, 0, 0, 0, 1), domega(1, 1, 0, 0, 3)
	for range 3 {
		sum, ok := impl.AddDOmega(x, y)
		checkFraction(t, "AddDOmega", []any{x, y}, sum, ok, domega(3, 1, 0, 0, 3), true)
		product, ok := impl.MulDOmega(x, y)
		checkFraction(t, "MulDOmega", []any{x, y}, product, ok, domega(1, 1, 0, 0, 4), true)
		checkNew(t, zomega(4, 0, 0, 0), 3, domega(0, 1, 0, -1, 0), true)
		impl.AddDOmega(domega(1, 0, 0, 0, 0), domega(1, 0, 0, 0, 60))
		impl.MulDOmega(domega(1, 0, 0, 0, 60), domega(1, 0, 0, 0, 60))
		impl.NewDOmega(zomega(math.MinInt, 0, 0, 0), math.MaxInt)
		impl.NegDOmega(domega(2, 0, 0, 0, math.MinInt))
		impl.ConjDOmega(domega(2, 0, 0, 0, 5))
	}
}
