package tests

import (
	"math"
	"math/big"
	"math/cmplx"
	"testing"

	"loop.example/g00506/impl"
)

// Promise 2: multiplication in Z[omega] is commutative and distributive.
// Promise 47: every function is total, pure, and does not modify its arguments.

const maxC = impl.MaxCoefficient

func zomega(a, b, c, d int) impl.ZOmega { return impl.ZOmega{A: a, B: b, C: c, D: d} }

// smallElements returns the elements with coefficients from -2 to 2.
func smallElements() []impl.ZOmega {
	var list []impl.ZOmega
	for i := range 5 * 5 * 5 * 5 {
		list = append(list, zomega(i%5-2, i/5%5-2, i/25%5-2, i/125-2))
	}
	return list
}

// elementsOf returns the elements of which every coefficient is one of the values.
func elementsOf(values []int) []impl.ZOmega {
	var list []impl.ZOmega
	for _, a := range values {
		for _, b := range values {
			for _, c := range values {
				for _, d := range values {
					list = append(list, zomega(a, b, c, d))
				}
			}
		}
	}
	return list
}

// variedElements returns elements of all sizes up to and somewhat past the limit.
func variedElements() []impl.ZOmega {
	var list []impl.ZOmega
	seed := uint64(2)
	next := func(bits uint64) int {
		seed = seed*6364136223846793005 + 1442695040888963407
		return int(int64(seed) >> (64 - bits))
	}
	for i := range uint64(200) {
		bits := 2 + i%31
		list = append(list, zomega(next(bits), next(bits), next(bits), next(bits)))
	}
	return list
}

// invalidElements returns elements with each coefficient in turn out of the limits.
// The sums, differences and products of some of the values wrap round to valid ones.
func invalidElements() []impl.ZOmega {
	values := []int{
		maxC + 1, -maxC - 1, 2 * maxC, -2 * maxC, 4 * maxC, -4 * maxC,
		1 << 32, -1 << 32, 1<<32 + 1, 1 << 33, 1 << 62, -1 << 62, 1 << 63 / 3,
		math.MaxInt, math.MaxInt - 1, math.MaxInt - maxC, -math.MaxInt, math.MinInt, math.MinInt + 1, math.MinInt + maxC,
	}
	var list []impl.ZOmega
	for _, v := range values {
		list = append(list, zomega(v, 0, 0, 0), zomega(0, v, 0, 0), zomega(0, 0, v, 0), zomega(0, 0, 0, v))
		list = append(list, zomega(v, 1, -2, 3), zomega(maxC, v, 1, 1), zomega(1, -maxC, v, 1), zomega(-1, 1, maxC, v))
		list = append(list, zomega(v, v, v, v), zomega(v, -v, v, -v))
	}
	return list
}

// manyElements returns valid and invalid elements.
func manyElements() []impl.ZOmega {
	list := elementsOf([]int{-maxC - 1, -maxC, -1, 0, 1, maxC, maxC + 1, math.MinInt, math.MaxInt})
	list = append(list, smallElements()...)
	list = append(list, variedElements()...)
	return append(list, invalidElements()...)
}

// pairElements returns fewer of them, to be paired with each other.
func pairElements() []impl.ZOmega {
	list := elementsOf([]int{-maxC, 1, maxC})
	list = append(list, elementsOf([]int{-1, 0, 2})...)
	list = append(list, variedElements()...)
	return append(list, invalidElements()...)
}

func withinMaxC(x impl.ZOmega) bool {
	for _, c := range []int{x.A, x.B, x.C, x.D} {
		if c < -1073741824 || c > 1073741824 {
			return false
		}
	}
	return true
}

// exactElement returns the element of the integers, and false if an operand or the result is not valid.
func exactElement(c [4]*big.Int, operands ...impl.ZOmega) (impl.ZOmega, bool) {
	for _, x := range operands {
		if !withinMaxC(x) {
			return impl.ZOmega{}, false
		}
	}
	for _, n := range c {
		if !n.IsInt64() {
			return impl.ZOmega{}, false
		}
	}
	x := zomega(int(c[0].Int64()), int(c[1].Int64()), int(c[2].Int64()), int(c[3].Int64()))
	if !withinMaxC(x) {
		return impl.ZOmega{}, false
	}
	return x, true
}

func integersOf(x impl.ZOmega) [4]*big.Int {
	return [4]*big.Int{big.NewInt(int64(x.A)), big.NewInt(int64(x.B)), big.NewInt(int64(x.C)), big.NewInt(int64(x.D))}
}

func exactSum(x, y impl.ZOmega) (impl.ZOmega, bool) {
	sum, other := integersOf(x), integersOf(y)
	for i, n := range other {
		sum[i].Add(sum[i], n)
	}
	return exactElement(sum, x, y)
}

func exactProduct(x, y impl.ZOmega) (impl.ZOmega, bool) {
	product := integersOf(impl.ZOmega{})
	for i, m := range integersOf(x) {
		for j, n := range integersOf(y) {
			term := new(big.Int).Mul(m, n)
			if i+j > 3 {
				term.Neg(term)
			}
			product[(i+j)%4].Add(product[(i+j)%4], term)
		}
	}
	return exactElement(product, x, y)
}

// checkElement expects the element and true, or the zero value and false if it is not to be accepted.
func checkElement(t *testing.T, what string, operands []impl.ZOmega, got impl.ZOmega, ok bool, want impl.ZOmega, accept bool) {
	t.Helper()
	if !accept {
		want = impl.ZOmega{}
	}
	if got != want || ok != accept {
		t.Fatalf("%s of %v = %v, %v, want %v, %v", what, operands, got, ok, want, accept)
	}
}

// checkProduct expects the same product for both orders of the factors.
func checkProduct(t *testing.T, x, y, want impl.ZOmega, accept bool) {
	t.Helper()
	got, ok := impl.MulZOmega(x, y)
	checkElement(t, "MulZOmega", []impl.ZOmega{x, y}, got, ok, want, accept)
	got, ok = impl.MulZOmega(y, x)
	checkElement(t, "MulZOmega", []impl.ZOmega{y, x}, got, ok, want, accept)
}

func TestMaxCoefficient(t *testing.T) {
	if impl.MaxCoefficient != 1073741824 {
		t.Errorf("MaxCoefficient = %d", impl.MaxCoefficient)
	}
}

func TestIsValidZOmega(t *testing.T) {
	for _, x := range []impl.ZOmega{
		{}, zomega(1, 2, 3, 4), zomega(maxC, maxC, maxC, maxC), zomega(-maxC, -maxC, -maxC, -maxC),
		zomega(maxC, 0, 0, 0), zomega(0, maxC, 0, 0), zomega(0, 0, maxC, 0), zomega(0, 0, 0, maxC),
		zomega(-maxC, 0, 0, 0), zomega(0, -maxC, 0, 0), zomega(0, 0, -maxC, 0), zomega(0, 0, 0, -maxC),
	} {
		if !impl.IsValidZOmega(x) {
			t.Errorf("IsValidZOmega(%v) = false", x)
		}
	}
	for _, x := range invalidElements() {
		if impl.IsValidZOmega(x) {
			t.Errorf("IsValidZOmega(%v) = true", x)
		}
	}
	for _, x := range manyElements() {
		if got := impl.IsValidZOmega(x); got != withinMaxC(x) {
			t.Errorf("IsValidZOmega(%v) = %v", x, got)
		}
	}
}

func TestAddZOmega(t *testing.T) {
	cases := []struct{ x, y, want impl.ZOmega }{
		{impl.ZOmega{}, impl.ZOmega{}, impl.ZOmega{}},
		{zomega(1, 2, 3, 4), impl.ZOmega{}, zomega(1, 2, 3, 4)},
		{zomega(1, 2, 3, 4), zomega(10, 20, 30, 40), zomega(11, 22, 33, 44)},
		{zomega(1, -2, 3, -4), zomega(-1, 2, -3, 4), impl.ZOmega{}},
		{zomega(maxC, maxC, maxC, maxC), zomega(-maxC, -maxC, -maxC, -maxC), impl.ZOmega{}},
		{zomega(maxC-1, 1-maxC, maxC-1, 1-maxC), zomega(1, -1, 1, -1), zomega(maxC, -maxC, maxC, -maxC)},
		{zomega(maxC/2, maxC/2, -maxC/2, -maxC/2), zomega(maxC/2, maxC/2, -maxC/2, -maxC/2), zomega(maxC, maxC, -maxC, -maxC)},
	}
	for _, c := range cases {
		got, ok := impl.AddZOmega(c.x, c.y)
		checkElement(t, "AddZOmega", []impl.ZOmega{c.x, c.y}, got, ok, c.want, true)
	}
}

// TestSumsPastTheLimit adds valid elements: each coefficient in turn is one past the limit, in both directions.
func TestSumsPastTheLimit(t *testing.T) {
	edge, one := zomega(maxC, maxC, maxC, maxC), []impl.ZOmega{zomega(1, 0, 0, 0), zomega(0, 1, 0, 0), zomega(0, 0, 1, 0), zomega(0, 0, 0, 1)}
	for _, x := range one {
		minus := zomega(-x.A, -x.B, -x.C, -x.D)
		for _, pair := range [][2]impl.ZOmega{{edge, x}, {x, edge}, {zomega(-maxC, -maxC, -maxC, -maxC), minus}, {edge, edge}} {
			got, ok := impl.AddZOmega(pair[0], pair[1])
			checkElement(t, "AddZOmega", pair[:], got, ok, impl.ZOmega{}, false)
		}
	}
}

func TestMulZOmega(t *testing.T) {
	w := zomega(0, 1, 0, 0)
	cases := []struct{ x, y, want impl.ZOmega }{
		{impl.ZOmega{}, zomega(1, 2, 3, 4), impl.ZOmega{}},
		{zomega(1, 0, 0, 0), zomega(1, 2, 3, 4), zomega(1, 2, 3, 4)},
		{zomega(-1, 0, 0, 0), zomega(1, 2, 3, 4), zomega(-1, -2, -3, -4)},
		{w, zomega(1, 2, 3, 4), zomega(-4, 1, 2, 3)},
		{zomega(0, 0, 1, 0), zomega(1, 2, 3, 4), zomega(-3, -4, 1, 2)},
		{zomega(0, 0, 0, 1), zomega(1, 2, 3, 4), zomega(-2, -3, -4, 1)},
		{w, w, zomega(0, 0, 1, 0)},
		{w, zomega(0, 0, 0, 1), zomega(-1, 0, 0, 0)},
		{zomega(0, 0, 1, 0), zomega(0, 0, 1, 0), zomega(-1, 0, 0, 0)},
		{zomega(0, 1, 0, -1), zomega(0, 1, 0, -1), zomega(2, 0, 0, 0)},
		{zomega(1, 1, 0, -1), zomega(-1, 1, 0, -1), zomega(1, 0, 0, 0)},
		{zomega(1, 2, 3, 4), zomega(5, 6, 7, 8), zomega(5-16-21-24, 6+10-24-28, 7+12+15-32, 8+14+18+20)},
		{zomega(1, 2, 3, 4), zomega(1, -4, -3, -2), zomega(30, 16, 0, -16)},
		{zomega(32768, 0, 0, 0), zomega(32768, 0, 0, 0), zomega(maxC, 0, 0, 0)},
		{zomega(-32768, 0, 0, 0), zomega(0, 32768, 0, 0), zomega(0, -maxC, 0, 0)},
		{zomega(maxC, -maxC, maxC, -maxC), zomega(0, 0, 0, 1), zomega(maxC, -maxC, maxC, maxC)},
		{zomega(maxC, maxC, maxC, maxC), w, zomega(-maxC, maxC, maxC, maxC)},
	}
	for _, c := range cases {
		checkProduct(t, c.x, c.y, c.want, true)
	}
}

// TestProductsPastTheLimit multiplies valid elements with each coefficient of the product in turn out of the limits.
func TestProductsPastTheLimit(t *testing.T) {
	factors := [][2]int{{2, maxC/2 + 1}, {-2, maxC/2 + 1}, {3, 357913942}, {32769, 32768}, {maxC, 2}, {maxC, -maxC}, {maxC, maxC}}
	for _, p := range []impl.ZOmega{zomega(1, 0, 0, 0), zomega(0, 1, 0, 0), zomega(0, 0, 1, 0), zomega(0, 0, 0, 1)} {
		scaled := func(n int) impl.ZOmega { return zomega(n*p.A, n*p.B, n*p.C, n*p.D) }
		for _, f := range factors {
			checkProduct(t, scaled(f[0]), zomega(f[1], 0, 0, 0), impl.ZOmega{}, false)
		}
		checkProduct(t, scaled(2), zomega(maxC/2, 0, 0, 0), scaled(maxC), true)
		checkProduct(t, scaled(-2), zomega(maxC/2, 0, 0, 0), scaled(-maxC), true)
	}
	edge := zomega(maxC, maxC, maxC, maxC)
	checkProduct(t, edge, edge, impl.ZOmega{}, false)
	checkProduct(t, edge, zomega(maxC, -maxC, -maxC, -maxC), impl.ZOmega{}, false)
	checkProduct(t, edge, zomega(1, -1, 0, 0), impl.ZOmega{}, false)
	checkProduct(t, zomega(maxC, maxC, maxC, 0), zomega(1, -1, 0, 0), zomega(maxC, 0, 0, -maxC), true)
}

func TestSumsAndProductsOfManyPairs(t *testing.T) {
	list := pairElements()
	sums, products := 0, 0
	for _, x := range list {
		for _, y := range list {
			want, accept := exactSum(x, y)
			got, ok := impl.AddZOmega(x, y)
			checkElement(t, "AddZOmega", []impl.ZOmega{x, y}, got, ok, want, accept)
			if ok {
				sums++
			}
			want, accept = exactProduct(x, y)
			got, ok = impl.MulZOmega(x, y)
			checkElement(t, "MulZOmega", []impl.ZOmega{x, y}, got, ok, want, accept)
			if ok {
				products++
			}
		}
	}
	if sums < 1000 || products < 1000 {
		t.Errorf("%d sums and %d products are valid", sums, products)
	}
}

func TestMultiplicationIsCommutative(t *testing.T) {
	list := append(smallElements(), pairElements()...)
	for i, x := range list {
		for _, y := range list[:i] {
			xy, ok := impl.MulZOmega(x, y)
			yx, accept := impl.MulZOmega(y, x)
			checkElement(t, "MulZOmega", []impl.ZOmega{x, y}, xy, ok, yx, accept)
		}
	}
}

func TestMultiplicationIsDistributive(t *testing.T) {
	list := append(elementsOf([]int{-1, 0, 2}), variedElements()[:90]...)
	computed := 0
	for _, x := range list {
		for _, y := range list {
			xy, ok1 := impl.MulZOmega(x, y)
			for _, v := range list {
				xv, ok2 := impl.MulZOmega(x, v)
				right, ok3 := impl.AddZOmega(xy, xv)
				sum, ok4 := impl.AddZOmega(y, v)
				left, ok5 := impl.MulZOmega(x, sum)
				if !ok1 || !ok2 || !ok4 {
					continue // a step in between has no valid result
				}
				checkElement(t, "the distributive law", []impl.ZOmega{x, y, v}, left, ok5, right, ok3)
				computed++
			}
		}
	}
	if computed < 1000000 {
		t.Errorf("the law was computed only %d times", computed)
	}
}

func TestOperandsOutOfTheLimits(t *testing.T) {
	partners := []impl.ZOmega{{}, zomega(1, 0, 0, 0), zomega(-1, 0, 0, 0), zomega(0, 1, 0, -1), zomega(maxC, -maxC, maxC, -maxC)}
	partners = append(partners, invalidElements()...)
	for _, x := range invalidElements() {
		for _, y := range partners {
			for _, pair := range [][2]impl.ZOmega{{x, y}, {y, x}} {
				got, ok := impl.AddZOmega(pair[0], pair[1])
				checkElement(t, "AddZOmega", pair[:], got, ok, impl.ZOmega{}, false)
				got, ok = impl.MulZOmega(pair[0], pair[1])
				checkElement(t, "MulZOmega", pair[:], got, ok, impl.ZOmega{}, false)
			}
		}
		for _, got := range []impl.ZOmega{impl.NegZOmega(x), impl.ConjZOmega(x), impl.Sqrt2ConjZOmega(x)} {
			if got != (impl.ZOmega{}) {
				t.Errorf("the negative or a conjugate of %v = %v", x, got)
			}
		}
		got, ok := impl.DivSqrt2(x)
		checkElement(t, "DivSqrt2", []impl.ZOmega{x}, got, ok, impl.ZOmega{}, false)
	}
}

func TestNegativeAndConjugates(t *testing.T) {
	cases := []struct{ x, neg, conj, sqrt2Conj impl.ZOmega }{
		{impl.ZOmega{}, impl.ZOmega{}, impl.ZOmega{}, impl.ZOmega{}},
		{zomega(1, 2, 3, 4), zomega(-1, -2, -3, -4), zomega(1, -4, -3, -2), zomega(1, -2, 3, -4)},
		{zomega(-1, 2, -3, 4), zomega(1, -2, 3, -4), zomega(-1, -4, 3, -2), zomega(-1, -2, -3, -4)},
		{zomega(0, 1, 0, 0), zomega(0, -1, 0, 0), zomega(0, 0, 0, -1), zomega(0, -1, 0, 0)},
		{zomega(0, 0, 1, 0), zomega(0, 0, -1, 0), zomega(0, 0, -1, 0), zomega(0, 0, 1, 0)},
		{zomega(0, 1, 0, -1), zomega(0, -1, 0, 1), zomega(0, 1, 0, -1), zomega(0, -1, 0, 1)},
		{zomega(maxC, maxC, maxC, maxC), zomega(-maxC, -maxC, -maxC, -maxC), zomega(maxC, -maxC, -maxC, -maxC), zomega(maxC, -maxC, maxC, -maxC)},
		{zomega(-maxC, -maxC, -maxC, -maxC), zomega(maxC, maxC, maxC, maxC), zomega(-maxC, maxC, maxC, maxC), zomega(-maxC, maxC, -maxC, maxC)},
	}
	for _, c := range cases {
		if got := impl.NegZOmega(c.x); got != c.neg {
			t.Errorf("NegZOmega(%v) = %v, want %v", c.x, got, c.neg)
		}
		if got := impl.ConjZOmega(c.x); got != c.conj {
			t.Errorf("ConjZOmega(%v) = %v, want %v", c.x, got, c.conj)
		}
		if got := impl.Sqrt2ConjZOmega(c.x); got != c.sqrt2Conj {
			t.Errorf("Sqrt2ConjZOmega(%v) = %v, want %v", c.x, got, c.sqrt2Conj)
		}
	}
}

// complexValue returns the complex number that x denotes if omega is the given number.
func complexValue(x impl.ZOmega, omega complex128) complex128 {
	sum := complex(float64(x.A), 0) + complex(float64(x.B), 0)*omega
	return sum + complex(float64(x.C), 0)*omega*omega + complex(float64(x.D), 0)*omega*omega*omega
}

func TestConjugatesAsComplexNumbers(t *testing.T) {
	omega := complex(math.Sqrt2/2, math.Sqrt2/2)
	for _, x := range smallElements() {
		if cmplx.Abs(complexValue(impl.ConjZOmega(x), omega)-cmplx.Conj(complexValue(x, omega))) > 1e-9 {
			t.Errorf("ConjZOmega(%v) = %v is not the complex conjugate", x, impl.ConjZOmega(x))
		}
		if cmplx.Abs(complexValue(impl.Sqrt2ConjZOmega(x), omega)-complexValue(x, -omega)) > 1e-9 {
			t.Errorf("Sqrt2ConjZOmega(%v) = %v does not replace omega by -omega", x, impl.Sqrt2ConjZOmega(x))
		}
	}
}

// TestConjugatesPreserveSumsAndProducts also checks that each conjugation, and the negative, undoes itself.
func TestConjugatesPreserveSumsAndProducts(t *testing.T) {
	list := elementsOf([]int{-1, 0, 2})
	for _, conjugate := range []func(impl.ZOmega) impl.ZOmega{impl.ConjZOmega, impl.Sqrt2ConjZOmega} {
		for _, x := range list {
			for _, y := range list {
				sum, _ := impl.AddZOmega(x, y)
				product, _ := impl.MulZOmega(x, y)
				got, ok := impl.AddZOmega(conjugate(x), conjugate(y))
				checkElement(t, "the sum of the conjugates", []impl.ZOmega{x, y}, got, ok, conjugate(sum), true)
				got, ok = impl.MulZOmega(conjugate(x), conjugate(y))
				checkElement(t, "the product of the conjugates", []impl.ZOmega{x, y}, got, ok, conjugate(product), true)
			}
		}
	}
	for _, x := range manyElements() {
		want := x
		if !withinMaxC(x) {
			want = impl.ZOmega{}
		}
		for _, twice := range []impl.ZOmega{
			impl.NegZOmega(impl.NegZOmega(x)), impl.ConjZOmega(impl.ConjZOmega(x)), impl.Sqrt2ConjZOmega(impl.Sqrt2ConjZOmega(x)),
		} {
			if twice != want {
				t.Fatalf("negated or conjugated twice, %v = %v", x, twice)
			}
		}
		sum, ok := impl.AddZOmega(want, impl.NegZOmega(x))
		checkElement(t, "the sum with the negative", []impl.ZOmega{x}, sum, ok, impl.ZOmega{}, true)
	}
}

func TestDivSqrt2(t *testing.T) {
	cases := []struct{ x, want impl.ZOmega }{
		{impl.ZOmega{}, impl.ZOmega{}},
		{zomega(0, 1, 0, -1), zomega(1, 0, 0, 0)},
		{zomega(0, -1, 0, 1), zomega(-1, 0, 0, 0)},
		{zomega(2, 0, 0, 0), zomega(0, 1, 0, -1)},
		{zomega(1, 0, 1, 0), zomega(0, 1, 0, 0)},
		{zomega(0, 1, 0, 1), zomega(0, 0, 1, 0)},
		{zomega(-1, 0, 1, 0), zomega(0, 0, 0, 1)},
		{zomega(1, 2, 3, 4), zomega(-1, 2, 3, 1)},
		{zomega(-3, -5, 1, 1), zomega(-3, -1, -2, 2)},
		{zomega(maxC, maxC, maxC, maxC), zomega(0, maxC, maxC, 0)},
		{zomega(-maxC, -maxC, maxC, maxC), zomega(-maxC, 0, 0, maxC)},
		{zomega(maxC, maxC, -maxC, -maxC), zomega(maxC, 0, 0, -maxC)},
		{zomega(maxC-1, maxC, 1-maxC, -maxC), zomega(maxC, 0, 0, 1-maxC)},
	}
	for _, c := range cases {
		got, ok := impl.DivSqrt2(c.x)
		checkElement(t, "DivSqrt2", []impl.ZOmega{c.x}, got, ok, c.want, true)
	}
	for _, x := range []impl.ZOmega{
		zomega(1, 0, 0, 0), zomega(0, 1, 0, 0), zomega(0, 0, 1, 0), zomega(0, 0, 0, 1), zomega(-1, 0, 0, 0), zomega(0, -1, 0, 0), zomega(0, 0, -1, 0), zomega(0, 0, 0, -1),
		zomega(1, 1, 0, 0), zomega(0, 1, 1, 0), zomega(0, 0, 1, 1), zomega(1, 0, 0, 1), zomega(1, 1, 1, 0), zomega(1, 1, 0, 1), zomega(1, 0, 1, 1), zomega(0, 1, 1, 1),
		zomega(3, 2, 2, 2), zomega(2, 3, 2, 2), zomega(-2, 2, -3, 2), zomega(2, -2, 2, -3),
		zomega(maxC, maxC, maxC, maxC-1), zomega(-maxC, -maxC, 1-maxC, -maxC), zomega(maxC-1, 0, maxC, 0), zomega(0, 1-maxC, 0, -maxC),
	} {
		got, ok := impl.DivSqrt2(x)
		checkElement(t, "DivSqrt2", []impl.ZOmega{x}, got, ok, impl.ZOmega{}, false)
	}
}

func TestDivSqrt2InvertsTheMultiplication(t *testing.T) {
	root := zomega(0, 1, 0, -1)
	divided := map[impl.ZOmega]impl.ZOmega{}
	for _, y := range append(manyElements(), elementsOf([]int{-5, -4, -3, 0, 3, 4, 5})...) {
		x, ok := impl.MulZOmega(y, root)
		if !ok {
			continue
		}
		got, ok := impl.DivSqrt2(x)
		checkElement(t, "DivSqrt2", []impl.ZOmega{x}, got, ok, y, true)
		divided[x] = y
	}
	if len(divided) < 3000 {
		t.Errorf("only %d products were divided", len(divided))
	}
	for _, x := range manyElements() {
		y, ok := impl.DivSqrt2(x)
		// A quotient within the limits exists exactly if A and C, and B and D, differ by even numbers.
		checkElement(t, "DivSqrt2", []impl.ZOmega{x}, y, ok, y, withinMaxC(x) && (x.A-x.C)%2 == 0 && (x.B-x.D)%2 == 0)
		if !ok {
			continue
		}
		product, ok := impl.MulZOmega(y, root)
		checkElement(t, "the quotient times the square root of 2", []impl.ZOmega{x}, product, ok, x, true)
	}
}

func TestZOmegaKeepsNoState(t *testing.T) {
	x, y := zomega(1, 2, 3, 4), zomega(0, 1, 0, -1)
	for range 3 {
		product, ok := impl.MulZOmega(x, y)
		checkElement(t, "MulZOmega", []impl.ZOmega{x, y}, product, ok, zomega(-2, 4, 6, 2), true)
		quotient, ok := impl.DivSqrt2(product)
		checkElement(t, "DivSqrt2", []impl.ZOmega{product}, quotient, ok, x, true)
		sum, ok := impl.AddZOmega(x, y)
		checkElement(t, "AddZOmega", []impl.ZOmega{x, y}, sum, ok, zomega(1, 3, 3, 3), true)
		impl.MulZOmega(zomega(math.MinInt, 0, 0, 0), zomega(maxC, 0, 0, 0))
		impl.DivSqrt2(zomega(1, 0, 0, 0))
		impl.NegZOmega(zomega(0, math.MaxInt, 0, 0))
	}
}
