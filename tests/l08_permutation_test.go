package tests

import (
	"math"
	"slices"
	"testing"

	"loop.example/g00506/impl"
)

// Promise 8: a permutation and its inverse cancel.
// Promise 47: every function is total, pure, and does not modify its arguments.

// permutationsOf returns all orders of 0 to n-1: n-1 is put at each place of each shorter order.
func permutationsOf(n int) [][]int {
	if n == 0 {
		return [][]int{{}}
	}
	var list [][]int
	for _, p := range permutationsOf(n - 1) {
		for k := range n {
			list = append(list, slices.Insert(slices.Clone(p), k, n-1))
		}
	}
	return list
}

// allPermutations returns those of 1 to 4 elements.
func allPermutations() [][]int {
	return slices.Concat(permutationsOf(1), permutationsOf(2), permutationsOf(3), permutationsOf(4))
}

// slicesOf returns all slices of this length with these elements.
func slicesOf(length int, elements []int) [][]int {
	if length == 0 {
		return [][]int{{}}
	}
	var list [][]int
	for _, p := range slicesOf(length-1, elements) {
		for _, x := range elements {
			list = append(list, append(slices.Clone(p), x))
		}
	}
	return list
}

// elementsOfNoPermutation returns integers of all sizes that no permutation of this length has; some of them have a valid integer as their last bits.
func elementsOfNoPermutation(length int) []int {
	return []int{
		-1, -2, -length, math.MinInt, math.MinInt + 1, math.MinInt + 3, -1 << 32, 1 - 1<<32, -256, -64, -63, -62,
		length, length + 1, 8, 16, 63, 64, 65, 66, 128, 256, 257, 65536, 1 << 32, 1<<32 + 1, 1<<32 + 2, 1 << 62, math.MaxInt - 1, math.MaxInt,
	}
}

// changedInt returns a copy of p with x at index k.
func changedInt(p []int, k, x int) []int {
	list := slices.Clone(p)
	list[k] = x
	return list
}

// ascending returns 0 to n-1, also for an n that no permutation has.
func ascending(n int) []int {
	var list []int
	for i := range n {
		list = append(list, i)
	}
	return list
}

// notPermutations returns slices of other lengths, and permutations with one element that another one has or that none has.
func notPermutations() [][]int {
	list := [][]int{nil, {}, make([]int, 0, 4), {1}, {-1}, {0, 0}, {1, 1}, {1, 2}, {0, 0, 0}, {0, 1, 1, 2}, {1, 1, 2, 2}, {0, 0, 3, 3}, {1, 2, 3, 4}, {-1, 0, 1, 2}, {0, 2}, {0, 3}, {0, 1, 4, 5}, {2, 2, 2, 0}, {3, 1, 1, 1}, {3, 3, 0, 0}}
	for n := 5; n <= 20; n++ {
		reversed := ascending(n)
		slices.Reverse(reversed)
		list = append(list, ascending(n), reversed, make([]int, n), append([]int{n - 1}, ascending(n-1)...))
	}
	list = append(list, ascending(64), ascending(65), ascending(65536))
	for _, p := range allPermutations() {
		for k, own := range p {
			for _, x := range append(elementsOfNoPermutation(len(p)), p...) {
				if x != own {
					list = append(list, changedInt(p, k, x))
				}
			}
		}
		// One element more: the next one, one that is there already, or a negative one.
		list = append(list, append(slices.Clone(p), 5), append(slices.Clone(p), p[0]), append(slices.Clone(p), -1))
	}
	return list
}

// expectedIndex adds the weights of the bits that are 1 at their new places.
func expectedIndex(p []int, i int) int {
	sum := 0
	for _, x := range p {
		if i%2 == 1 {
			weight := 1
			for range x {
				weight *= 2
			}
			sum += weight
		}
		i /= 2
	}
	return sum
}

// indexMatrix returns the matrix that maps the basis state i to the basis state images[i].
func indexMatrix(images []int) [][]impl.DOmega {
	m := squareOf(len(images), impl.DOmega{})
	for i, k := range images {
		m[k][i] = domega(1, 0, 0, 0, 0)
	}
	return m
}

func imagesOf(p []int) []int {
	var list []int
	for i := range 1 << len(p) {
		list = append(list, expectedIndex(p, i))
	}
	return list
}

// isIntsOrNone expects nil, and not an empty slice, where there is no result.
func isIntsOrNone(got, want []int) bool {
	return slices.Equal(got, want) && (len(want) > 0 || got == nil)
}

func checkInverse(t *testing.T, p, want []int) {
	t.Helper()
	if got := impl.InversePermutation(p); !isIntsOrNone(got, want) {
		t.Errorf("InversePermutation(%v) = %v, want %v", p, got, want)
	}
}

func checkComposed(t *testing.T, p, q, want []int) {
	t.Helper()
	if got := impl.ComposePermutations(p, q); !isIntsOrNone(got, want) {
		t.Errorf("ComposePermutations(%v, %v) = %v, want %v", p, q, got, want)
	}
}

func checkIndex(t *testing.T, p []int, i, want int) {
	t.Helper()
	if got := impl.PermuteIndex(p, i); got != want {
		t.Errorf("PermuteIndex(%v, %d) = %d, want %d", p, i, got, want)
	}
}

func checkPermutationMatrix(t *testing.T, p []int, want [][]impl.DOmega) {
	t.Helper()
	got := impl.PermutationMatrix(p)
	if !sameMatrix(got, want) || len(want) == 0 && got != nil {
		t.Errorf("PermutationMatrix(%v) = %v, want %v", p, got, want)
	}
}

func TestAllPermutations(t *testing.T) {
	list := allPermutations()
	if len(list) != 1+2+6+24 {
		t.Fatalf("%d permutations", len(list))
	}
	for _, p := range list {
		roomy := append(slices.Clone(p), 0, 1, 2, 3)
		if !impl.IsPermutation(p) || !impl.IsPermutation(roomy[:len(p)]) || !impl.IsPermutation(roomy[:len(p):len(p)]) {
			t.Errorf("IsPermutation(%v) = false", p)
		}
	}
}

// TestAllSlices counts the permutations among all slices of a length.
func TestAllSlices(t *testing.T) {
	counts := []int{0, 1, 2, 6, 24, 0, 0}
	for length, want := range counts {
		known := permutationsOf(length)
		found := 0
		for _, p := range slicesOf(length, []int{-1, 0, 1, 2, 3, 4, 5}) {
			got := impl.IsPermutation(p)
			if got {
				found++
			}
			if length <= 4 && got != (length > 0 && slices.ContainsFunc(known, func(q []int) bool { return slices.Equal(p, q) })) {
				t.Errorf("IsPermutation(%v) = %v", p, got)
			}
		}
		if found != want {
			t.Errorf("%d of the slices of length %d are permutations", found, length)
		}
	}
}

func TestSlicesThatAreNoPermutations(t *testing.T) {
	for _, p := range notPermutations() {
		if impl.IsPermutation(p) {
			t.Errorf("IsPermutation(%v) = true", p)
		}
		checkInverse(t, p, nil)
		checkPermutationMatrix(t, p, nil)
		for _, i := range []int{math.MinInt, -1, 0, 1, 2, 3, 7, 15, 16, math.MaxInt} {
			checkIndex(t, p, i, 0)
		}
		checkComposed(t, p, p, nil)
		for _, q := range [][]int{nil, {}, {0}, {1, 0}, {0, 1, 2}, {3, 1, 0, 2}, {0, 1, 2, 3, 4}, ascending(len(p))} {
			checkComposed(t, p, q, nil)
			checkComposed(t, q, p, nil)
		}
	}
}

func TestIdentityPermutation(t *testing.T) {
	for n := -1; n <= 6; n++ {
		got := impl.IdentityPermutation(n)
		if n < 1 || n > 4 {
			if got != nil {
				t.Errorf("IdentityPermutation(%d) = %v", n, got)
			}
			continue
		}
		if !slices.Equal(got, []int{0, 1, 2, 3}[:n]) {
			t.Errorf("IdentityPermutation(%d) = %v", n, got)
		}
	}
	for _, n := range []int{math.MinInt, math.MinInt + 1, math.MinInt + 4, -1 << 32, 1 - 1<<32, -4, -2, 7, 16, 63, 64, 65, 256, 257, 1 << 32, 1<<32 + 1, 1<<62 + 2, math.MaxInt - 1, math.MaxInt} {
		if got := impl.IdentityPermutation(n); got != nil {
			t.Errorf("IdentityPermutation(%d) = %v", n, got)
		}
	}
}

func TestComposePermutations(t *testing.T) {
	cases := []struct{ p, q, want []int }{
		{[]int{0}, []int{0}, []int{0}},
		{[]int{1, 0}, []int{1, 0}, []int{0, 1}},
		// Two permutations that do not commute, in both orders.
		{[]int{1, 0, 2}, []int{0, 2, 1}, []int{2, 0, 1}},
		{[]int{0, 2, 1}, []int{1, 0, 2}, []int{1, 2, 0}},
		{[]int{1, 2, 3, 0}, []int{1, 0, 2, 3}, []int{0, 2, 3, 1}},
		{[]int{1, 0, 2, 3}, []int{1, 2, 3, 0}, []int{2, 1, 3, 0}},
		{[]int{3, 0, 2, 1}, []int{2, 0, 1, 3}, []int{3, 2, 1, 0}},
		{[]int{2, 0, 1, 3}, []int{3, 0, 2, 1}, []int{2, 3, 0, 1}},
		// A cycle with itself.
		{[]int{1, 2, 0}, []int{1, 2, 0}, []int{2, 0, 1}},
		{[]int{1, 2, 3, 0}, []int{1, 2, 3, 0}, []int{2, 3, 0, 1}},
	}
	for _, c := range cases {
		checkComposed(t, c.p, c.q, c.want)
	}
}

func TestComposingAllPermutations(t *testing.T) {
	different := 0
	for n := 1; n <= 4; n++ {
		for _, p := range permutationsOf(n) {
			for _, q := range permutationsOf(n) {
				want := make([]int, n)
				for i := range want {
					want[i] = q[p[i]]
				}
				checkComposed(t, p, q, want)
				if !slices.Equal(impl.ComposePermutations(p, q), impl.ComposePermutations(q, p)) {
					different++
				}
			}
			checkComposed(t, p, impl.IdentityPermutation(n), p)
			checkComposed(t, impl.IdentityPermutation(n), p, p)
		}
	}
	// The pairs that commute are as many as the permutations times their conjugacy classes: 1*1, 2*2, 6*3 and 24*5.
	if want := (1 - 1) + (4 - 4) + (36 - 18) + (576 - 120); different != want {
		t.Errorf("%d pairs do not commute, not %d", different, want)
	}
}

func TestComposingThree(t *testing.T) {
	for n := 1; n <= 3; n++ {
		for _, p := range permutationsOf(n) {
			for _, q := range permutationsOf(n) {
				for _, r := range permutationsOf(n) {
					checkComposed(t, impl.ComposePermutations(p, q), r, impl.ComposePermutations(p, impl.ComposePermutations(q, r)))
				}
			}
		}
	}
}

func TestComposingDifferentLengths(t *testing.T) {
	for _, p := range allPermutations() {
		for _, q := range allPermutations() {
			if len(p) != len(q) {
				checkComposed(t, p, q, nil)
			}
		}
	}
}

// TestComposingWithNoPermutation pairs each slice with the permutations of its length, which have all elements that q would be asked for.
func TestComposingWithNoPermutation(t *testing.T) {
	for _, q := range notPermutations() {
		if len(q) == 0 || len(q) > 4 {
			continue
		}
		for _, p := range permutationsOf(len(q)) {
			checkComposed(t, p, q, nil)
			checkComposed(t, q, p, nil)
		}
	}
}

func TestInversePermutation(t *testing.T) {
	cases := []struct{ p, want []int }{
		// These are their own inverse.
		{[]int{0}, []int{0}},
		{[]int{0, 1}, []int{0, 1}},
		{[]int{1, 0}, []int{1, 0}},
		{[]int{2, 1, 0}, []int{2, 1, 0}},
		{[]int{3, 2, 1, 0}, []int{3, 2, 1, 0}},
		{[]int{1, 0, 3, 2}, []int{1, 0, 3, 2}},
		{[]int{0, 3, 2, 1}, []int{0, 3, 2, 1}},
		// These cycles are not.
		{[]int{1, 2, 0}, []int{2, 0, 1}},
		{[]int{2, 0, 1}, []int{1, 2, 0}},
		{[]int{1, 2, 0, 3}, []int{2, 0, 1, 3}},
		{[]int{0, 3, 1, 2}, []int{0, 2, 3, 1}},
		{[]int{1, 2, 3, 0}, []int{3, 0, 1, 2}},
		{[]int{2, 3, 1, 0}, []int{3, 2, 0, 1}},
		{[]int{3, 0, 1, 2}, []int{1, 2, 3, 0}},
	}
	for _, c := range cases {
		checkInverse(t, c.p, c.want)
	}
}

func TestInversesCancel(t *testing.T) {
	own := 0
	for _, p := range allPermutations() {
		inverse := impl.InversePermutation(p)
		if !impl.IsPermutation(inverse) || len(inverse) != len(p) {
			t.Fatalf("InversePermutation(%v) = %v", p, inverse)
		}
		for i, x := range p {
			if inverse[x] != i {
				t.Errorf("InversePermutation(%v) = %v, which maps %d to %d", p, inverse, x, inverse[x])
			}
		}
		checkComposed(t, p, inverse, ascending(len(p)))
		checkComposed(t, inverse, p, ascending(len(p)))
		checkInverse(t, inverse, p)
		if slices.Equal(p, inverse) {
			own++
		}
	}
	if own != 1+2+4+10 {
		t.Errorf("%d permutations are their own inverse", own)
	}
}

func TestInversesOfCompositions(t *testing.T) {
	for n := 1; n <= 4; n++ {
		for _, p := range permutationsOf(n) {
			for _, q := range permutationsOf(n) {
				checkInverse(t, impl.ComposePermutations(p, q), impl.ComposePermutations(impl.InversePermutation(q), impl.InversePermutation(p)))
			}
		}
	}
}

func TestPermuteIndex(t *testing.T) {
	cases := []struct {
		p      []int
		images []int
	}{
		{[]int{0}, []int{0, 1}},
		{[]int{0, 1}, []int{0, 1, 2, 3}},
		{[]int{1, 0}, []int{0, 2, 1, 3}},
		{[]int{1, 2, 0}, []int{0, 2, 4, 6, 1, 3, 5, 7}},
		{[]int{2, 0, 1}, []int{0, 4, 1, 5, 2, 6, 3, 7}},
		{[]int{0, 2, 1}, []int{0, 1, 4, 5, 2, 3, 6, 7}},
		{[]int{1, 2, 3, 0}, []int{0, 2, 4, 6, 8, 10, 12, 14, 1, 3, 5, 7, 9, 11, 13, 15}},
		{[]int{3, 2, 1, 0}, []int{0, 8, 4, 12, 2, 10, 6, 14, 1, 9, 5, 13, 3, 11, 7, 15}},
	}
	for _, c := range cases {
		for i, want := range c.images {
			checkIndex(t, c.p, i, want)
		}
	}
}

func TestPermutingAllIndices(t *testing.T) {
	for _, p := range allPermutations() {
		size := 1 << len(p)
		seen := make([]bool, size)
		for i := range size {
			got := impl.PermuteIndex(p, i)
			if got < 0 || got >= size || seen[got] {
				t.Fatalf("PermuteIndex(%v, %d) = %d", p, i, got)
			}
			seen[got] = true
			checkIndex(t, p, i, expectedIndex(p, i))
			for q, x := range p {
				if got>>x&1 != i>>q&1 {
					t.Errorf("bit %d of PermuteIndex(%v, %d) = %d is not bit %d", x, p, i, got, q)
				}
			}
			checkIndex(t, impl.InversePermutation(p), got, i)
			checkIndex(t, ascending(len(p)), i, i)
		}
	}
}

func TestIndicesOutsideTheRange(t *testing.T) {
	for _, p := range allPermutations() {
		size := 1 << len(p)
		for _, i := range []int{
			-1, -2, -size, -size + 1, -16, -1 << 32, 1 - 1<<32, math.MinInt, math.MinInt + 1, math.MinInt + size - 1,
			size, size + 1, 2*size - 1, 2 * size, 16, 17, 31, 64, 65, 1 << 32, 1<<32 + 1, 1 << 62, 1<<62 + 1, math.MaxInt - 1, math.MaxInt,
		} {
			checkIndex(t, p, i, 0)
		}
	}
}

func TestPermutingByCompositions(t *testing.T) {
	for n := 1; n <= 4; n++ {
		for _, p := range permutationsOf(n) {
			for _, q := range permutationsOf(n) {
				for i := range 1 << n {
					checkIndex(t, impl.ComposePermutations(p, q), i, impl.PermuteIndex(q, impl.PermuteIndex(p, i)))
				}
			}
		}
	}
}

func TestPermutationMatrix(t *testing.T) {
	checkPermutationMatrix(t, []int{0}, impl.IdentityMatrix(1))
	checkPermutationMatrix(t, []int{1, 0}, indexMatrix([]int{0, 2, 1, 3}))
	checkPermutationMatrix(t, []int{1, 2, 0}, indexMatrix([]int{0, 2, 4, 6, 1, 3, 5, 7}))
	checkPermutationMatrix(t, []int{2, 0, 1}, indexMatrix([]int{0, 4, 1, 5, 2, 6, 3, 7}))
	for n := 1; n <= 4; n++ {
		checkPermutationMatrix(t, ascending(n), impl.IdentityMatrix(n))
	}
	for _, p := range allPermutations() {
		checkPermutationMatrix(t, p, indexMatrix(imagesOf(p)))
	}
}

func TestPermutationMatricesOfBasisStates(t *testing.T) {
	for _, p := range allPermutations() {
		m := impl.PermutationMatrix(p)
		checkUnitary(t, m, true)
		for i := range 1 << len(p) {
			checkApplied(t, m, impl.BasisState(len(p), i), impl.BasisState(len(p), impl.PermuteIndex(p, i)), true)
		}
		for _, v := range someStates(len(p)) {
			want := make([]impl.DOmega, len(v))
			for i, x := range v {
				want[expectedIndex(p, i)] = x
			}
			checkApplied(t, m, v, want, true)
		}
	}
}

func TestPermutationMatricesOfInverses(t *testing.T) {
	for _, p := range allPermutations() {
		m, inverse, one := impl.PermutationMatrix(p), impl.PermutationMatrix(impl.InversePermutation(p)), impl.IdentityMatrix(len(p))
		checkMultiplied(t, m, inverse, one, true)
		checkMultiplied(t, inverse, m, one, true)
		checkAdjoint(t, m, inverse)
		if phase, ok := impl.GlobalPhase(m, one); ok != slices.Equal(p, ascending(len(p))) || phase != 0 {
			t.Errorf("GlobalPhase of the matrix of %v and the identity = %d, %v", p, phase, ok)
		}
	}
}

// TestPermutationMatricesOfCompositions: the matrix of p is applied first, and therefore stands on the right.
func TestPermutationMatricesOfCompositions(t *testing.T) {
	for n := 1; n <= 4; n++ {
		list := permutationsOf(n)
		for _, p := range list {
			for k, q := range list {
				if n == 4 && k%3 != 0 {
					continue
				}
				checkMultiplied(t, impl.PermutationMatrix(q), impl.PermutationMatrix(p), impl.PermutationMatrix(impl.ComposePermutations(p, q)), true)
			}
		}
	}
}

const unusedInt = -7777

func roomyInts(p []int) []int { return withMarks(p, unusedInt) }

func checkIntsUntouched(t *testing.T, what string, p, before []int) {
	t.Helper()
	checkMarks(t, what, p, before, unusedInt)
}

func overwriteInts(p []int) { fillWith(p, 9999) }

func checkFreshInts(t *testing.T, what string, call func() []int) {
	t.Helper()
	checkFresh(t, what, 9999, call)
}

// TestPermutationsAreKept overwrites each result: neither an argument nor another result may change with it.
func TestPermutationsAreKept(t *testing.T) {
	list := allPermutations()
	for k, p := range notPermutations() {
		if len(p) < 30 && k%5 == 0 {
			list = append(list, p)
		}
	}
	for k, before := range list {
		other := list[(k+1)%len(list)]
		p, q := roomyInts(before), roomyInts(other)
		checkFreshInts(t, "ComposePermutations", func() []int { return impl.ComposePermutations(p, q) })
		checkFreshInts(t, "ComposePermutations", func() []int { return impl.ComposePermutations(q, p) })
		checkFreshInts(t, "ComposePermutations", func() []int { return impl.ComposePermutations(p, p) })
		checkFreshInts(t, "InversePermutation", func() []int { return impl.InversePermutation(p) })
		checkFreshMatrices(t, "PermutationMatrix", func() [][]impl.DOmega { return impl.PermutationMatrix(p) })
		impl.IsPermutation(p)
		impl.PermuteIndex(p, k%16)
		checkIntsUntouched(t, "a function of permutations", p, before)
		checkIntsUntouched(t, "a function of permutations", q, other)
	}
	for n := range 6 {
		checkFreshInts(t, "IdentityPermutation", func() []int { return impl.IdentityPermutation(n) })
	}
}

// TestPermutationResultsKeepTheirValues: also when an argument is overwritten afterwards.
func TestPermutationResultsKeepTheirValues(t *testing.T) {
	for _, before := range allPermutations() {
		p, one := roomyInts(before), roomyInts(ascending(len(before)))
		left, right, double := impl.ComposePermutations(p, one), impl.ComposePermutations(one, p), impl.InversePermutation(impl.InversePermutation(p))
		same, m := impl.InversePermutation(one), impl.PermutationMatrix(p)
		overwriteInts(p)
		overwriteInts(one)
		for _, result := range [][]int{left, right, double} {
			if !slices.Equal(result, before) {
				t.Fatalf("a result that is %v becomes %v", before, result)
			}
		}
		if !slices.Equal(same, ascending(len(before))) || !sameMatrix(m, indexMatrix(imagesOf(before))) {
			t.Fatalf("results of %v become %v and %v", before, same, m)
		}
	}
}

// TestPermutationsInOneArray: two arguments may be parts of one array, or the same slice.
func TestPermutationsInOneArray(t *testing.T) {
	for n := 1; n <= 4; n++ {
		list := permutationsOf(n)
		for k, p := range list {
			q := list[(k*5+1)%len(list)]
			both := roomyInts(append(slices.Clone(p), q...))
			want := impl.ComposePermutations(slices.Clone(p), slices.Clone(q))
			checkComposed(t, both[:n], both[n:], want)
			checkComposed(t, both[n:], both[:n], impl.ComposePermutations(slices.Clone(q), slices.Clone(p)))
			checkInverse(t, both[:n], impl.InversePermutation(slices.Clone(p)))
			checkIntsUntouched(t, "a function of parts of one array", both, append(slices.Clone(p), q...))
		}
	}
}
