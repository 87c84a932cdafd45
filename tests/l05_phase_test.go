package tests

import (
	"math"
	"math/big"
	"math/cmplx"
	"testing"

	"loop.example/g00506/impl"
)

// Promise 5: phases add modulo 8; squared norms are non-negative.
// Promise 47: every function is total, pure, and does not modify its arguments.

// eightPhases returns the powers of omega with the exponents from 0 to 7.
func eightPhases() []impl.DOmega {
	return []impl.DOmega{
		domega(1, 0, 0, 0, 0), domega(0, 1, 0, 0, 0), domega(0, 0, 1, 0, 0), domega(0, 0, 0, 1, 0),
		domega(-1, 0, 0, 0, 0), domega(0, -1, 0, 0, 0), domega(0, 0, -1, 0, 0), domega(0, 0, 0, -1, 0),
	}
}

// turnOf returns the remainder from 0 to 7, for negative integers too.
func turnOf(i int) int { return (i%8 + 8) % 8 }

// phaseExponents returns the integers from -16 to 16 and those next to the smallest, the largest and some powers of 2.
func phaseExponents() []int {
	var list []int
	for i := -16; i <= 16; i++ {
		list = append(list, i)
	}
	for i := range 17 {
		list = append(list, math.MinInt+i, math.MaxInt-i)
		for _, power := range []int{1 << 8, 1 << 31, 1 << 32, 1 << 62} {
			list = append(list, power-8+i, -power-8+i)
		}
	}
	return list
}

// realAmplitude denotes a + b sqrt(2), divided by sqrt(2) to the power exp.
func realAmplitude(a, b, exp int) impl.DOmega { return domega(a, b, 0, -b, exp) }

// notReal returns valid amplitudes that are not real.
func notReal() []impl.DOmega {
	return []impl.DOmega{
		domega(0, 1, 0, 0, 0), domega(0, 0, 1, 0, 0), domega(0, 0, 0, 1, 0), domega(0, -1, 0, 0, 0), domega(0, 0, -1, 0, 0), domega(0, 0, 0, -1, 0),
		domega(0, 1, 0, 1, 0), domega(0, -1, 0, -1, 0), domega(1, 0, 1, 0, 0), domega(1, 0, -1, 0, 0), domega(5, 1, 1, -1, 0), domega(5, 1, -1, -1, 0),
		domega(5, 1, 0, 0, 0), domega(5, 0, 0, 1, 0), domega(5, 2, 0, -1, 0), domega(5, 1, 0, -2, 0), domega(5, -2, 0, 1, 0), domega(5, 1, 0, 1, 0),
		domega(1, 1, 0, 0, 1), domega(1, 0, 0, 1, 3), domega(1, 0, 2, 0, 60), domega(-3, 4, 2, -4, 2), domega(-3, 4, 0, 4, 2), domega(-3, 3, 0, -4, 60),
		domega(maxC, maxC, 0, maxC, 0), domega(maxC, maxC, maxC, -maxC, 0), domega(maxC, maxC, 0, 1-maxC, 0), domega(-maxC, -maxC, 0, maxC-1, 0),
		domega(maxC, 0, -maxC, 0, 0), domega(1-maxC, maxC, 0, maxC, 60), domega(maxC-1, 0, 2, 0, 60),
	}
}

// invalidReals returns amplitudes that are real by their coefficients, but not valid.
func invalidReals() []impl.DOmega {
	var list []impl.DOmega
	for _, v := range []int{maxC + 1, -maxC - 1, 1 << 31, -1 << 31, 1 << 32, 1 << 62, -1 << 62, math.MaxInt, math.MinInt, math.MinInt + 1} {
		for _, exp := range []int{0, 1, 60} {
			list = append(list, realAmplitude(v, 0, exp), realAmplitude(v, 1, exp), realAmplitude(v, -1, exp), realAmplitude(v, v, exp))
			list = append(list, realAmplitude(0, v, exp), realAmplitude(1, v, exp), realAmplitude(-1, v, exp), realAmplitude(v, -v, exp))
		}
	}
	for _, exp := range []int{-1, -2, -60, math.MinInt, 61, 62, 120, 121, math.MaxInt} {
		list = append(list, realAmplitude(1, 0, exp), realAmplitude(-1, 0, exp), realAmplitude(3, -2, exp), realAmplitude(0, 0, exp), realAmplitude(1, maxC, exp))
	}
	for exp := 1; exp <= 60; exp++ {
		list = append(list, realAmplitude(0, 0, exp), realAmplitude(2, 0, exp), realAmplitude(-2, 0, exp), realAmplitude(0, 1, exp), realAmplitude(0, -1, exp))
		list = append(list, realAmplitude(2, 1, exp), realAmplitude(-2, 1, exp), realAmplitude(2, -1, exp), realAmplitude(maxC, -maxC, exp))
	}
	return list
}

// expectedSign computes with so many binary digits that no difference is lost.
func expectedSign(x impl.DOmega) int {
	if !reducedFraction(x) || x.N.C != 0 || x.N.B+x.N.D != 0 {
		return 0
	}
	root := new(big.Float).SetPrec(300).SetInt64(2)
	root.Sqrt(root)
	term := new(big.Float).SetPrec(300).SetInt64(int64(x.N.B))
	sum := new(big.Float).SetPrec(300).SetInt64(int64(x.N.A))
	return sum.Add(sum, term.Mul(term, root)).Sign()
}

// checkSign also expects the opposite sign of the negative amplitude.
func checkSign(t *testing.T, x impl.DOmega, want int) {
	t.Helper()
	if got := impl.RealSign(x); got != want {
		t.Errorf("RealSign(%v) = %d, want %d", x, got, want)
	}
	if got := impl.RealSign(impl.NegDOmega(x)); got != -want {
		t.Errorf("RealSign of the negative of %v = %d, want %d", x, got, -want)
	}
}

func checkNorm(t *testing.T, x, want impl.DOmega, accept bool) {
	t.Helper()
	got, ok := impl.NormSquared(x)
	checkFraction(t, "NormSquared", []any{x}, got, ok, want, accept)
}

func checkExponent(t *testing.T, x impl.DOmega, want int, accept bool) {
	t.Helper()
	if got, ok := impl.PhaseExponent(x); got != want || ok != accept {
		t.Errorf("PhaseExponent(%v) = %d, %v, want %d, %v", x, got, ok, want, accept)
	}
}

func TestPhaseFactor(t *testing.T) {
	phases := eightPhases()
	for _, i := range phaseExponents() {
		if got := impl.PhaseFactor(i); got != phases[turnOf(i)] {
			t.Errorf("PhaseFactor(%d) = %v, want %v", i, got, phases[turnOf(i)])
		}
	}
	if got := impl.PhaseFactor(math.MinInt); got != domega(1, 0, 0, 0, 0) {
		t.Errorf("PhaseFactor of the smallest integer = %v", got)
	}
	if got := impl.PhaseFactor(math.MaxInt); got != domega(0, 0, 0, -1, 0) {
		t.Errorf("PhaseFactor of the largest integer = %v", got)
	}
}

func TestPhasesAsComplexNumbers(t *testing.T) {
	for i := -16; i <= 16; i++ {
		want := cmplx.Exp(complex(0, float64(i)*math.Pi/4))
		if x := impl.PhaseFactor(i); cmplx.Abs(fractionValue(x)-want) > 1e-9 {
			t.Errorf("PhaseFactor(%d) = %v is not omega to that power", i, x)
		}
	}
}

// TestPhasesAddModulo8 multiplies phases; the sum of two large exponents wraps round, which is a multiple of 8.
func TestPhasesAddModulo8(t *testing.T) {
	list := phaseExponents()
	for _, i := range list {
		for _, j := range list {
			product, ok := impl.MulDOmega(impl.PhaseFactor(i), impl.PhaseFactor(j))
			checkFraction(t, "the product of the phases", []any{i, j}, product, ok, impl.PhaseFactor(i+j), true)
			checkExponent(t, product, (turnOf(i)+turnOf(j))%8, true)
		}
		if impl.PhaseFactor(i) != impl.PhaseFactor(i+8) || impl.PhaseFactor(i) != impl.NegDOmega(impl.PhaseFactor(i+4)) {
			t.Errorf("PhaseFactor(%d) is not that of 8 more, or not the negative of that of 4 more", i)
		}
		if impl.PhaseFactor(-i) != impl.ConjDOmega(impl.PhaseFactor(i)) {
			t.Errorf("PhaseFactor(%d) is not the conjugate of that of %d", -i, i)
		}
	}
}

func TestPhaseExponent(t *testing.T) {
	for i, x := range eightPhases() {
		checkExponent(t, x, i, true)
	}
	for _, i := range phaseExponents() {
		checkExponent(t, impl.PhaseFactor(i), turnOf(i), true)
	}
}

// TestAmplitudesThatAreNoPhase: zero, each phase times another number, and amplitudes whose coefficients are those of several phases.
func TestAmplitudesThatAreNoPhase(t *testing.T) {
	checkExponent(t, impl.DOmega{}, 0, false)
	checkExponent(t, domega(1, 0, 0, 0, 1), 0, false)
	factors := []impl.DOmega{
		domega(1, 0, 0, 0, 1), domega(1, 0, 0, 0, 2), domega(1, 0, 0, 0, 60), domega(2, 0, 0, 0, 0), domega(3, 0, 0, 0, 0), domega(maxC, 0, 0, 0, 0),
		domega(0, 1, 0, -1, 0), domega(1, 1, 0, -1, 0), domega(-1, 1, 0, -1, 0), domega(3, 2, 0, -2, 0), domega(1, 1, 0, 0, 0), domega(1, 1, 0, 0, 1), domega(1, 1, 1, 1, 0),
	}
	for i := range 8 {
		for _, factor := range factors {
			x, ok := impl.MulDOmega(impl.PhaseFactor(i), factor)
			if !ok {
				t.Fatalf("%v has no product with a phase", factor)
			}
			checkExponent(t, x, 0, false)
		}
	}
}

// TestPhasesAreTheAmplitudesOfNorm1: in this ring no other amplitude has norm 1.
func TestPhasesAreTheAmplitudesOfNorm1(t *testing.T) {
	list := append(reducedFractions(), eightPhases()...)
	phases := 0
	for _, x := range list {
		norm, ok := impl.NormSquared(x)
		_, isPhase := impl.PhaseExponent(x)
		if isPhase != (ok && norm == impl.OneDOmega()) {
			t.Errorf("PhaseExponent(%v) is %v, but the norm is %v", x, isPhase, norm)
		}
		if isPhase {
			phases++
		}
	}
	if phases < 16 {
		t.Errorf("there are only %d phases among the amplitudes", phases)
	}
}

func TestNormSquared(t *testing.T) {
	cases := []struct{ x, want impl.DOmega }{
		{impl.DOmega{}, impl.DOmega{}},
		{domega(1, 0, 0, 0, 0), domega(1, 0, 0, 0, 0)},
		{domega(-3, 0, 0, 0, 0), domega(9, 0, 0, 0, 0)},
		{domega(0, 0, 0, -2, 0), domega(4, 0, 0, 0, 0)},
		{domega(1, 0, 0, 0, 1), domega(1, 0, 0, 0, 2)},
		{domega(0, 0, 3, 0, 2), domega(9, 0, 0, 0, 4)},
		{domega(0, 1, 0, -1, 0), domega(2, 0, 0, 0, 0)},
		{domega(1, 1, 0, 0, 0), domega(2, 1, 0, -1, 0)},
		{domega(1, -1, 0, 0, 0), domega(2, -1, 0, 1, 0)},
		{domega(1, 0, 0, 1, 0), domega(2, -1, 0, 1, 0)},
		{domega(1, 1, 0, 0, 1), domega(1, 1, 0, -1, 1)},
		{domega(1, 1, 0, 0, 30), domega(1, 1, 0, -1, 59)},
		{domega(1, 1, 0, -1, 0), domega(3, 2, 0, -2, 0)},
		{domega(-1, 1, 0, -1, 0), domega(3, -2, 0, 2, 0)},
		{domega(1, 2, 3, 4, 0), domega(30, 16, 0, -16, 0)},
		{domega(1, 2, 4, 6, 5), domega(57, 28, 0, -28, 10)},
	}
	for _, c := range cases {
		checkNorm(t, c.x, c.want, true)
	}
}

// TestNormsPastTheLimits: a step fails also where the fraction, once reduced, would be within the limits.
func TestNormsPastTheLimits(t *testing.T) {
	checkNorm(t, domega(32768, 0, 0, 0, 0), domega(maxC, 0, 0, 0, 0), true)
	checkNorm(t, domega(0, 0, -32768, 0, 0), domega(maxC, 0, 0, 0, 0), true)
	checkNorm(t, domega(32767, 0, 0, 0, 30), domega(32767*32767, 0, 0, 0, 60), true)
	checkNorm(t, domega(1, 0, 0, 0, 30), domega(1, 0, 0, 0, 60), true)
	checkNorm(t, domega(23169, 23169, 0, 0, 1), domega(23169*23169, 23169*23169, 0, -23169*23169, 1), true)
	for _, x := range []impl.DOmega{
		domega(32769, 0, 0, 0, 0), domega(0, 0, 0, -32769, 0), domega(32768, 1, 0, 0, 0), domega(0, -32768, 1, 0, 0),
		domega(maxC, 0, 0, 0, 0), domega(-maxC, -maxC, -maxC, -maxC, 0), domega(maxC, maxC, maxC, -maxC, 0), domega(maxC, 0, 1-maxC, 0, 60),
		domega(23170, 23171, 0, 0, 0), domega(32767, 32767, 0, 0, 1), domega(32769, 32769, 0, 0, 3), domega(23171, 23171, 0, 0, 30),
		domega(1, 0, 0, 0, 31), domega(1, 1, 0, 0, 31), domega(0, 0, -1, 0, 60), domega(1, 1, 0, 0, 60), domega(3, 1, 2, 0, 45),
	} {
		checkNorm(t, x, impl.DOmega{}, false)
	}
}

func TestNormsOfManyAmplitudes(t *testing.T) {
	computed := 0
	for _, x := range append(reducedFractions(), invalidFractions()...) {
		conj := impl.DOmega{N: zomega(x.N.A, -x.N.D, -x.N.C, -x.N.B), Exp: x.Exp}
		want, accept := expectedFractionProduct(x, conj)
		checkNorm(t, x, want, accept)
		if accept {
			computed++
		}
	}
	if computed < 1000 {
		t.Errorf("only %d norms are valid", computed)
	}
}

// TestNormsAreNonNegative: and only zero has norm 0.
func TestNormsAreNonNegative(t *testing.T) {
	for _, x := range reducedFractions() {
		norm, ok := impl.NormSquared(x)
		if !ok {
			continue
		}
		want := 1
		if x == (impl.DOmega{}) {
			want = 0
		}
		if !impl.IsReal(norm) || impl.RealSign(norm) != want {
			t.Errorf("the norm %v of %v has sign %d", norm, x, impl.RealSign(norm))
		}
		size := cmplx.Abs(fractionValue(x))
		if got := fractionValue(norm); cmplx.Abs(got-complex(size*size, 0)) > 1e-6*(1+size*size) {
			t.Errorf("the norm of %v is %v, whose value is %v", x, norm, got)
		}
	}
}

func TestNormsOfProducts(t *testing.T) {
	var list []impl.DOmega
	for i, n := range elementsOf([]int{-1, 0, 2}) {
		if x, ok := impl.NewDOmega(n, i%9); ok {
			list = append(list, x)
		}
	}
	list = append(list, eightPhases()...)
	for _, x := range list {
		normX, _ := impl.NormSquared(x)
		checkNorm(t, impl.ConjDOmega(x), normX, true)
		checkNorm(t, impl.NegDOmega(x), normX, true)
		for _, y := range list {
			normY, _ := impl.NormSquared(y)
			product, _ := impl.MulDOmega(x, y)
			want, accept := impl.MulDOmega(normX, normY)
			checkNorm(t, product, want, accept)
		}
	}
}

func TestIsReal(t *testing.T) {
	for _, x := range []impl.DOmega{
		{}, domega(1, 0, 0, 0, 0), domega(-1, 0, 0, 0, 0), domega(0, 1, 0, -1, 0), domega(0, -1, 0, 1, 0), domega(2, 3, 0, -3, 0),
		domega(1, 0, 0, 0, 1), domega(-1, 0, 0, 0, 60), domega(1, 1, 0, -1, 1), domega(3, -2, 0, 2, 7), domega(-5, maxC, 0, -maxC, 60),
		domega(maxC, maxC, 0, -maxC, 0), domega(-maxC, -maxC, 0, maxC, 0), domega(maxC-1, -maxC, 0, maxC, 60),
	} {
		if !impl.IsReal(x) {
			t.Errorf("IsReal(%v) = false", x)
		}
	}
	for _, x := range append(notReal(), invalidReals()...) {
		if impl.IsReal(x) {
			t.Errorf("IsReal(%v) = true", x)
		}
	}
}

func TestRealAmplitudesAreTheirConjugates(t *testing.T) {
	found := 0
	for _, x := range append(reducedFractions(), invalidFractions()...) {
		want := reducedFraction(x) && x == impl.ConjDOmega(x)
		if got := impl.IsReal(x); got != want {
			t.Errorf("IsReal(%v) = %v", x, got)
		}
		if want {
			found++
		}
	}
	if found < 30 {
		t.Errorf("only %d amplitudes are real", found)
	}
}

func TestRealSign(t *testing.T) {
	cases := []struct{ a, b, want int }{
		{0, 0, 0}, {1, 0, 1}, {7, 0, 1}, {0, 1, 1}, {0, 9, 1}, {1, 1, 1}, {1, 5, 1}, {5, 1, 1},
		// Of different signs: A^2 is above 2B^2, then below.
		{3, -2, 1}, {2, -1, 1}, {17, -12, 1}, {10, -7, 1}, {15, -10, 1}, {9, -1, 1},
		{1, -1, -1}, {7, -5, -1}, {41, -29, -1}, {7, -6, -1}, {14, -10, -1}, {1, -9, -1},
		{-3, 2, -1}, {-2, 1, -1}, {-17, 12, -1}, {-1, 1, 1}, {-7, 5, 1}, {-41, 29, 1},
		// With coefficients equal to the limit.
		{maxC, 0, 1}, {0, maxC, 1}, {maxC, maxC, 1}, {maxC, 1, 1}, {1, maxC, 1},
		{maxC, -maxC, -1}, {maxC, -1, 1}, {1, -maxC, -1}, {maxC - 1, -maxC, -1},
		{maxC, -759250124, 1}, {maxC, -759250125, -1}, {maxC, -maxC / 2, 1},
	}
	for _, c := range cases {
		checkSign(t, realAmplitude(c.a, c.b, 0), c.want)
	}
}

// TestSignsWithAnExponent: only an odd A leaves the fraction reduced.
func TestSignsWithAnExponent(t *testing.T) {
	cases := []struct{ a, b, want int }{
		{1, 0, 1}, {1, 1, 1}, {1, 4, 1}, {3, -2, 1}, {17, -12, 1}, {1, -1, -1}, {7, -5, -1}, {5, -4, -1},
		{maxC - 1, 0, 1}, {maxC - 1, maxC, 1}, {maxC - 1, -maxC, -1}, {1, -maxC, -1}, {maxC - 1, -759250125, -1}, {maxC - 1, -759250124, 1},
	}
	for _, c := range cases {
		for _, exp := range []int{0, 1, 2, 3, 30, 31, 59, 60} {
			checkSign(t, realAmplitude(c.a, c.b, exp), c.want)
		}
	}
}

// TestSignsNextToTheSquareRootOf2 takes the fractions A / B that come closest to it, up to the limit, and those beside them.
func TestSignsNextToTheSquareRootOf2(t *testing.T) {
	count := 0
	for a, b := 1, 1; a <= maxC; a, b = a+2*b, a+b {
		want := 1
		if count%2 == 0 {
			want = -1
		}
		checkSign(t, realAmplitude(a, -b, 0), want)
		checkSign(t, realAmplitude(a, -b, 60), want)
		checkSign(t, realAmplitude(a, b, 0), 1)
		checkSign(t, realAmplitude(a, -b-1, 0), -1)
		checkSign(t, realAmplitude(a, 1-b, 0), 1)
		count++
	}
	if count != 24 {
		t.Errorf("there are %d such fractions", count)
	}
}

func TestSignsOfManyAmplitudes(t *testing.T) {
	for a := -60; a <= 60; a++ {
		for b := -60; b <= 60; b++ {
			exp := 0
			if a%2 != 0 {
				exp = (a*a + b*b) % 61
			}
			x := realAmplitude(a, b, exp)
			checkSign(t, x, expectedSign(x))
		}
	}
	for _, x := range append(reducedFractions(), invalidFractions()...) {
		if got := impl.RealSign(x); got != expectedSign(x) {
			t.Errorf("RealSign(%v) = %d", x, got)
		}
		n := zomega(x.N.A, x.N.B, 0, -x.N.B)
		y := impl.DOmega{N: n, Exp: x.Exp}
		if got := impl.RealSign(y); got != expectedSign(y) {
			t.Errorf("RealSign(%v) = %d", y, got)
		}
	}
}

func TestSignsOfProductsAndSums(t *testing.T) {
	var list []impl.DOmega
	for a := -5; a <= 5; a++ {
		for b := -4; b <= 4; b++ {
			list = append(list, realAmplitude(a, b, (a&1)*(b+4)))
		}
	}
	for _, x := range list {
		for _, y := range list {
			product, ok := impl.MulDOmega(x, y)
			if !ok || impl.RealSign(product) != impl.RealSign(x)*impl.RealSign(y) {
				t.Errorf("the product %v of %v and %v has sign %d", product, x, y, impl.RealSign(product))
			}
			sum, ok := impl.AddDOmega(x, y)
			if !ok || impl.RealSign(x) == impl.RealSign(y) && impl.RealSign(sum) != impl.RealSign(x) {
				t.Errorf("the sum %v of %v and %v has sign %d", sum, x, y, impl.RealSign(sum))
			}
		}
	}
}

func TestSignOfAmplitudesThatAreNotReal(t *testing.T) {
	for _, x := range notReal() {
		checkSign(t, x, 0)
	}
	for i := range 8 {
		want := 0
		if i%4 == 0 {
			want = 1 - i/2
		}
		checkSign(t, impl.PhaseFactor(i), want)
	}
}

func TestPhasesAndNormsOfInvalidAmplitudes(t *testing.T) {
	list := append(invalidFractions(), invalidReals()...)
	for i, x := range eightPhases() {
		// Neither of these is reduced, though both denote a phase.
		list = append(list, impl.DOmega{N: zomega(2*x.N.A, 2*x.N.B, 2*x.N.C, 2*x.N.D), Exp: 2}, impl.DOmega{N: timesRoot(x.N), Exp: 1})
		list = append(list, impl.DOmega{N: x.N, Exp: -1 - i}, impl.DOmega{N: x.N, Exp: 61 + i})
	}
	for _, x := range list {
		checkExponent(t, x, 0, false)
		checkNorm(t, x, impl.DOmega{}, false)
		if impl.IsReal(x) || impl.RealSign(x) != 0 {
			t.Errorf("%v is taken as real, with sign %d", x, impl.RealSign(x))
		}
	}
}

func TestPhasesAndNormsKeepNoState(t *testing.T) {
	for range 3 {
		checkExponent(t, impl.PhaseFactor(-3), 5, true)
		checkNorm(t, domega(1, 1, 0, 0, 1), domega(1, 1, 0, -1, 1), true)
		checkSign(t, realAmplitude(-3, 2, 1), -1)
		impl.PhaseFactor(math.MinInt)
		impl.PhaseExponent(domega(2, 0, 0, 0, 5))
		impl.NormSquared(domega(maxC, 0, 0, 0, 0))
		impl.RealSign(domega(0, math.MinInt, 0, math.MinInt, 0))
	}
}
