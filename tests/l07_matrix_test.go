package tests

import (
	"math"
	"math/cmplx"
	"math/rand/v2"
	"slices"
	"testing"

	"loop.example/g00506/impl"
)

// Promise 7: applying a product applies both factors in order.
// Promise 47: every function is total, pure, and does not modify its arguments.

// matrixOf cuts the amplitudes into rows of this length.
func matrixOf(length int, amplitudes ...impl.DOmega) [][]impl.DOmega {
	var m [][]impl.DOmega
	for row := range slices.Chunk(amplitudes, length) {
		m = append(m, slices.Clone(row))
	}
	return m
}

// squareOf returns a matrix with this number of rows and the amplitude everywhere.
func squareOf(rows int, x impl.DOmega) [][]impl.DOmega {
	m := make([][]impl.DOmega, rows)
	for i := range m {
		m[i] = sameAmplitudes(rows, x)
	}
	return m
}

// diagonalOf returns the matrix with these amplitudes on the diagonal and 0 elsewhere.
func diagonalOf(amplitudes ...impl.DOmega) [][]impl.DOmega {
	m := squareOf(len(amplitudes), impl.DOmega{})
	for k, x := range amplitudes {
		m[k][k] = x
	}
	return m
}

// permutationOf returns the matrix whose row i is 1 in the column order[i].
func permutationOf(order ...int) [][]impl.DOmega {
	m := squareOf(len(order), impl.DOmega{})
	for i, k := range order {
		m[i][k] = domega(1, 0, 0, 0, 0)
	}
	return m
}

func cloneMatrix(m [][]impl.DOmega) [][]impl.DOmega { return cloneRows(m) }

// changedAt returns a copy of m with x in row i and column k.
func changedAt(m [][]impl.DOmega, i, k int, x impl.DOmega) [][]impl.DOmega {
	list := cloneMatrix(m)
	list[i][k] = x
	return list
}

// withRow returns a copy of m with another row at index i.
func withRow(m [][]impl.DOmega, i int, row []impl.DOmega) [][]impl.DOmega {
	list := cloneMatrix(m)
	list[i] = row
	return list
}

// timesAmplitude multiplies every amplitude of m by x, or ends the test.
func timesAmplitude(t *testing.T, m [][]impl.DOmega, x impl.DOmega) [][]impl.DOmega {
	t.Helper()
	var list [][]impl.DOmega
	for _, row := range m {
		scaled, ok := expectedCombination(row, sameAmplitudes(len(row), x), expectedFractionProduct)
		if !ok {
			t.Fatalf("%v has no product with %v", row, x)
		}
		list = append(list, scaled)
	}
	return list
}

// tensor returns the matrix of both at once: a acts on the qubits of higher numbers.
func tensor(t *testing.T, a, b [][]impl.DOmega) [][]impl.DOmega {
	t.Helper()
	var m [][]impl.DOmega
	for i := range a {
		for j := range b {
			var row []impl.DOmega
			for _, x := range a[i] {
				row = append(row, timesAmplitude(t, [][]impl.DOmega{b[j]}, x)[0]...)
			}
			m = append(m, row)
		}
	}
	return m
}

func hadamard() [][]impl.DOmega {
	h := domega(1, 0, 0, 0, 1)
	return matrixOf(2, h, h, h, domega(-1, 0, 0, 0, 1))
}

// variedMatrix draws the amplitudes of the list, always the same ones for a seed.
func variedMatrix(n int, seed uint64, list []impl.DOmega) [][]impl.DOmega {
	source := rand.New(rand.NewPCG(seed, uint64(n)))
	m := squareOf(1<<n, impl.DOmega{})
	for i := range m {
		for k := range m {
			m[i][k] = list[source.IntN(len(list))]
		}
	}
	return m
}

// unitaries returns unitary matrices of n qubits: permutations, phases, and products of Hadamard matrices with both.
func unitaries(t *testing.T, n int) [][][]impl.DOmega {
	t.Helper()
	size := 1 << n
	var cycle, reverse []int
	var turns []impl.DOmega
	for k := range size {
		cycle, reverse = append(cycle, (k+1)%size), append(reverse, size-1-k)
		turns = append(turns, eightPhases()[(k*k+3*k+1)%8])
	}
	all := hadamard()
	for range n - 1 {
		all = tensor(t, hadamard(), all)
	}
	list := [][][]impl.DOmega{diagonalOf(sameAmplitudes(size, domega(1, 0, 0, 0, 0))...), permutationOf(cycle...), permutationOf(reverse...), diagonalOf(turns...), all}
	for _, m := range list {
		list = append(list, expectedMatrix(t, all, m), expectedMatrix(t, m, diagonalOf(turns...)))
	}
	for _, m := range list[5:] {
		list = append(list, expectedMatrix(t, expectedMatrix(t, m, all), permutationOf(cycle...)))
	}
	return list
}

// someMatrices returns valid matrices of n qubits: unitary, sparse and full ones, with small amplitudes and with some next to the limits.
func someMatrices(t *testing.T, n int) [][][]impl.DOmega {
	t.Helper()
	size := 1 << n
	list := append(unitaries(t, n), squareOf(size, impl.DOmega{}), squareOf(size, domega(1, -2, 3, 5, 7)), squareOf(size, domega(maxC, 0, 0, -maxC, 0)), squareOf(size, domega(0, 0, 0, -1, 60)))
	for seed := range uint64(8) {
		list = append(list, variedMatrix(n, seed, smallAmplitudes()), variedMatrix(n, seed, pairFractions()))
	}
	return append(list, changedAt(squareOf(size, impl.DOmega{}), size-1, 0, domega(maxC, 0, 0, 0, 0)), changedAt(squareOf(size, impl.DOmega{}), 0, size-1, domega(0, 1, 0, 0, 60)))
}

// smallMatrices returns matrices of n qubits with which a few sums and products stay within the limits.
func smallMatrices(t *testing.T, n int) [][][]impl.DOmega {
	t.Helper()
	list := unitaries(t, n)[:8]
	for seed := range uint64(6) {
		list = append(list, variedMatrix(n, seed, append(realIntegers(0, -3, 2), eightPhases()...)))
	}
	return list
}

// invalidMatrices returns slices of other numbers of rows, rows of other lengths, and matrices with one amplitude that is not valid.
func invalidMatrices() [][][]impl.DOmega {
	one := domega(1, 0, 0, 0, 0)
	list := [][][]impl.DOmega{nil, {}, {nil}, {{}}, {{one}}, {nil, nil}, {{}, {}}, {{one, one}}, {{one}, {one}}, squareOf(32, one), squareOf(64, impl.DOmega{})}
	for rows := 1; rows <= 33; rows++ {
		if !slices.Contains([]int{2, 4, 8, 16}, rows) {
			list = append(list, squareOf(rows, one), squareOf(rows, impl.DOmega{}), make([][]impl.DOmega, rows))
		}
	}
	for n := 1; n <= 4; n++ {
		size := 1 << n
		full, zero := squareOf(size, domega(1, 0, 0, 0, 1)), squareOf(size, impl.DOmega{})
		for i := range size {
			for _, length := range []int{0, 1, size / 2, size - 1, size + 1, size * 2, 16, 32} {
				if length != size {
					list = append(list, withRow(full, i, sameAmplitudes(length, domega(1, 0, 0, 0, 1))), withRow(zero, i, make([]impl.DOmega, length)))
				}
			}
			list = append(list, withRow(full, i, nil), withRow(zero, i, []impl.DOmega{}))
			for j, x := range amplitudesOfNoState() {
				list = append(list, changedAt(full, i, (i+j)%size, x), changedAt(zero, i, (i+j)%size, x))
			}
		}
		// As many amplitudes as in a matrix, but not as many rows.
		list = append(list, full[:size/2], append(cloneMatrix(full), full...), full[:size-1], append(cloneMatrix(full), full[0]))
	}
	return list
}

func conjugateOf(x impl.DOmega) impl.DOmega {
	return domega(x.N.A, -x.N.D, -x.N.C, -x.N.B, x.Exp)
}

func columnOf(m [][]impl.DOmega, k int) []impl.DOmega {
	var column []impl.DOmega
	for _, row := range m {
		column = append(column, row[k])
	}
	return column
}

// expectedApplied expects a valid matrix and a state of its size.
func expectedApplied(m [][]impl.DOmega, v []impl.DOmega) ([]impl.DOmega, bool) {
	var list []impl.DOmega
	for _, row := range m {
		var conjugates []impl.DOmega
		for _, x := range row {
			conjugates = append(conjugates, conjugateOf(x))
		}
		// The inner product conjugates them once more.
		x, ok := expectedInner(conjugates, v)
		if !ok {
			return nil, false
		}
		list = append(list, x)
	}
	return list, true
}

// expectedMultiplied expects valid matrices of one size.
func expectedMultiplied(a, b [][]impl.DOmega) ([][]impl.DOmega, bool) {
	m := squareOf(len(a), impl.DOmega{})
	for k := range b {
		column, ok := expectedApplied(a, columnOf(b, k))
		if !ok {
			return nil, false
		}
		for i, x := range column {
			m[i][k] = x
		}
	}
	return m, true
}

// expectedMatrix is a product that does not fail.
func expectedMatrix(t *testing.T, a, b [][]impl.DOmega) [][]impl.DOmega {
	t.Helper()
	m, ok := expectedMultiplied(a, b)
	if !ok {
		t.Fatalf("the product of %v and %v fails", a, b)
	}
	return m
}

func expectedAdjoint(m [][]impl.DOmega) [][]impl.DOmega {
	list := squareOf(len(m), impl.DOmega{})
	for i, row := range m {
		for k, x := range row {
			list[k][i] = conjugateOf(x)
		}
	}
	return list
}

// sameMatrix compares without the program.
func sameMatrix(a, b [][]impl.DOmega) bool { return sameRows(a, b) }

// checkMatrix expects the matrix and true, or no matrix and false if it is not to be accepted.
func checkMatrix(t *testing.T, what string, operands []any, got [][]impl.DOmega, ok bool, want [][]impl.DOmega, accept bool) {
	t.Helper()
	if !accept {
		want = nil
	}
	if !sameMatrix(got, want) || ok != accept {
		t.Fatalf("%s of %v = %v, %v, want %v, %v", what, operands, got, ok, want, accept)
	}
}

func checkApplied(t *testing.T, m [][]impl.DOmega, v, want []impl.DOmega, accept bool) {
	t.Helper()
	got, ok := impl.ApplyMatrix(m, v)
	checkState(t, "ApplyMatrix", []any{m, v}, got, ok, want, accept)
}

func checkMultiplied(t *testing.T, a, b, want [][]impl.DOmega, accept bool) {
	t.Helper()
	got, ok := impl.MulMatrix(a, b)
	checkMatrix(t, "MulMatrix", []any{a, b}, got, ok, want, accept)
}

func checkAdjoint(t *testing.T, m, want [][]impl.DOmega) {
	t.Helper()
	checkMatrix(t, "AdjointMatrix", []any{m}, impl.AdjointMatrix(m), true, want, true)
}

func checkUnitary(t *testing.T, m [][]impl.DOmega, want bool) {
	t.Helper()
	if got := impl.IsUnitary(m); got != want {
		t.Errorf("IsUnitary(%v) = %v", m, got)
	}
}

func checkPhase(t *testing.T, a, b [][]impl.DOmega, want int, accept bool) {
	t.Helper()
	if got, ok := impl.GlobalPhase(a, b); got != want || ok != accept {
		t.Fatalf("GlobalPhase(%v, %v) = %d, %v, want %d, %v", a, b, got, ok, want, accept)
	}
}

// checkEqualMatrix expects the same answer for both orders of the matrices.
func checkEqualMatrix(t *testing.T, a, b [][]impl.DOmega, want bool) {
	t.Helper()
	if impl.EqualMatrix(a, b) != want || impl.EqualMatrix(b, a) != want {
		t.Fatalf("EqualMatrix of %v and %v is not %v in both orders", a, b, want)
	}
}

func TestNumbersOfRows(t *testing.T) {
	for rows := range 35 {
		want := rows == 2 || rows == 4 || rows == 8 || rows == 16
		for _, x := range []impl.DOmega{{}, domega(1, 0, 0, 0, 0), domega(1, 0, 0, 0, 60)} {
			if got := impl.IsValidMatrix(squareOf(rows, x)); got != want {
				t.Errorf("IsValidMatrix of %d rows = %v", rows, got)
			}
		}
		for length := range 35 {
			m := make([][]impl.DOmega, rows)
			for i := range m {
				// The room that a row has does not count.
				m[i] = make([]impl.DOmega, length, 40)
			}
			if got := impl.IsValidMatrix(m); got != (want && length == rows) {
				t.Errorf("IsValidMatrix of %d rows with %d amplitudes = %v", rows, length, got)
			}
		}
	}
}

func TestIsValidMatrix(t *testing.T) {
	for n := 1; n <= 4; n++ {
		for _, m := range someMatrices(t, n) {
			if !impl.IsValidMatrix(m) {
				t.Errorf("IsValidMatrix(%v) = false", m)
			}
		}
	}
	for _, m := range append(invalidMatrices(), make([][]impl.DOmega, 0, 4), make([][]impl.DOmega, 65536)) {
		if impl.IsValidMatrix(m) {
			t.Errorf("IsValidMatrix(%v) = true", m)
		}
	}
}

func TestMatricesWithOneInvalidAmplitude(t *testing.T) {
	for n := 1; n <= 4; n++ {
		size := 1 << n
		for j, x := range invalidFractions() {
			for _, i := range []int{0, j % size, size - 1} {
				k := (j / size) % size
				if impl.IsValidMatrix(changedAt(squareOf(size, domega(0, 1, 0, 0, n)), i, k, x)) {
					t.Errorf("a matrix of %d qubits with %v in row %d and column %d is taken as valid", n, x, i, k)
				}
			}
		}
	}
}

func TestIdentityMatrix(t *testing.T) {
	for n := -1; n <= 6; n++ {
		got := impl.IdentityMatrix(n)
		if n < 1 || n > 4 {
			if got != nil {
				t.Errorf("IdentityMatrix(%d) = %v", n, got)
			}
			continue
		}
		if !sameMatrix(got, diagonalOf(sameAmplitudes(1<<n, domega(1, 0, 0, 0, 0))...)) {
			t.Errorf("IdentityMatrix(%d) = %v", n, got)
		}
		for i, row := range got {
			if !slices.Equal(row, impl.BasisState(n, i)) {
				t.Errorf("row %d of IdentityMatrix(%d) is %v", i, n, row)
			}
		}
	}
	for _, n := range []int{math.MinInt, math.MinInt + 1, math.MinInt + 4, -1 << 32, -64, -4, -2, 31, 32, 62, 63, 64, 65, 1 << 32, 1<<32 + 1, 1<<62 + 2, math.MaxInt - 1, math.MaxInt} {
		if got := impl.IdentityMatrix(n); got != nil {
			t.Errorf("IdentityMatrix(%d) = %v", n, got)
		}
	}
}

func TestApplyMatrix(t *testing.T) {
	h, i, omega := domega(1, 0, 0, 0, 1), domega(0, 0, 1, 0, 0), domega(0, 1, 0, 0, 0)
	cases := []struct {
		m       [][]impl.DOmega
		v, want []impl.DOmega
	}{
		{matrixOf(2, realIntegers(1, 2, 3, 4)...), realIntegers(10, 100), realIntegers(210, 430)},
		{matrixOf(2, realIntegers(0, 1, 1, 0)...), realIntegers(5, 7), realIntegers(7, 5)},
		{matrixOf(2, realIntegers(0, 1, 0, 0)...), realIntegers(5, 7), realIntegers(7, 0)},
		{permutationOf(1, 2, 3, 0), realIntegers(5, 6, 7, 8), realIntegers(6, 7, 8, 5)},
		{hadamard(), realIntegers(1, 0), []impl.DOmega{h, h}},
		{hadamard(), realIntegers(0, 1), []impl.DOmega{h, domega(-1, 0, 0, 0, 1)}},
		{hadamard(), []impl.DOmega{h, h}, realIntegers(1, 0)},
		// No amplitude is conjugated.
		{diagonalOf(i, omega), realIntegers(1, 1), []impl.DOmega{i, omega}},
		{diagonalOf(i, omega), []impl.DOmega{i, omega}, []impl.DOmega{domega(-1, 0, 0, 0, 0), i}},
		// The second sum is omega/sqrt(2) + omega^5.
		{matrixOf(2, i, omega, h, domega(0, 0, 0, 1, 0)), []impl.DOmega{omega, i}, []impl.DOmega{domega(0, 0, 0, 2, 0), domega(-1, 1, -1, 0, 1)}},
		{squareOf(4, domega(1, 0, 0, 0, 2)), realIntegers(1, 1, 1, 1), realIntegers(2, 2, 2, 2)},
	}
	for _, c := range cases {
		checkApplied(t, c.m, c.v, c.want, true)
	}
}

func TestApplyingToBasisStates(t *testing.T) {
	for n := 1; n <= 4; n++ {
		for _, m := range someMatrices(t, n) {
			for k := range m {
				checkApplied(t, m, impl.BasisState(n, k), columnOf(m, k), true)
			}
			checkApplied(t, m, make([]impl.DOmega, 1<<n), make([]impl.DOmega, 1<<n), true)
		}
		for _, v := range someStates(n) {
			checkApplied(t, impl.IdentityMatrix(n), v, v, true)
		}
	}
}

func TestApplyingManyMatrices(t *testing.T) {
	applied, failed := 0, 0
	for n := 1; n <= 4; n++ {
		for _, m := range someMatrices(t, n) {
			for i, v := range someStates(n) {
				if n == 4 && i%3 != 0 {
					continue
				}
				want, accept := expectedApplied(m, v)
				checkApplied(t, m, v, want, accept)
				if accept {
					applied++
				} else {
					failed++
				}
			}
		}
	}
	if applied < 1000 || failed < 1000 {
		t.Errorf("%d matrices are applied, and %d fail", applied, failed)
	}
}

// TestStepsThatFailInOneRow: a product or a sum in the first, each middle or only the last row.
func TestStepsThatFailInOneRow(t *testing.T) {
	for n := 1; n <= 4; n++ {
		size := 1 << n
		v := sameAmplitudes(size, domega(2, 0, 0, 0, 0))
		fits, one := squareOf(size, impl.DOmega{}), sameAmplitudes(size, domega(1, 0, 0, 0, 0))
		for i := range size {
			for k := range size {
				product := changedAt(fits, i, k, domega(0, maxC/2+1, 0, 0, 0))
				checkApplied(t, product, v, nil, false)
				checkApplied(t, product, one, columnOf(product, k), true)
				// Each of the two products is valid, and their sum is not.
				sum := changedAt(changedAt(fits, i, k, domega(maxC, 0, 0, 0, 0)), i, (k+1)%size, domega(1, 0, 0, 0, 0))
				checkApplied(t, sum, one, nil, false)
				checkApplied(t, sum, v, nil, false)
				sum[i][(k+1)%size] = domega(-1, 0, 0, 0, 0)
				checkApplied(t, sum, one, replacedAt(make([]impl.DOmega, size), i, domega(maxC-1, 0, 0, 0, 0)), true)
				exponent := changedAt(fits, i, k, domega(1, 0, 0, 0, 60))
				checkApplied(t, exponent, sameAmplitudes(size, domega(1, 0, 0, 0, 1)), nil, false)
				checkApplied(t, exponent, one, columnOf(exponent, k), true)
			}
		}
	}
}

// TestPartialSumsOfRows: in any row, a partial sum may fail although the whole sum would be valid.
func TestPartialSumsOfRows(t *testing.T) {
	cases := []struct {
		row    []impl.DOmega
		want   impl.DOmega
		accept bool
	}{
		{realIntegers(maxC, 1, -1, 0), impl.DOmega{}, false},
		{realIntegers(maxC, -1, 1, 0), domega(maxC, 0, 0, 0, 0), true},
		{realIntegers(-1, 1, maxC, 0), domega(maxC, 0, 0, 0, 0), true},
		{realIntegers(1, maxC, -1, 0), impl.DOmega{}, false},
		{realIntegers(0, 1, maxC, -1), impl.DOmega{}, false},
		{realIntegers(0, -1, maxC, 1), domega(maxC, 0, 0, 0, 0), true},
		{realIntegers(-maxC, maxC, -maxC, maxC), impl.DOmega{}, true},
		{realIntegers(-maxC, -maxC, maxC, maxC), impl.DOmega{}, false},
		{append(realIntegers(maxC-1, 1-maxC), domega(1, 0, 0, 0, 2), domega(1, 0, 0, 0, 2)), domega(1, 0, 0, 0, 0), true},
		{append(realIntegers(maxC-1), domega(1, 0, 0, 0, 2), domega(1-maxC, 0, 0, 0, 0), domega(1, 0, 0, 0, 2)), impl.DOmega{}, false},
	}
	for _, c := range cases {
		for i := range 4 {
			ones := sameAmplitudes(4, domega(1, 0, 0, 0, 0))
			checkApplied(t, withRow(squareOf(4, impl.DOmega{}), i, c.row), ones, replacedAt(make([]impl.DOmega, 4), i, c.want), c.accept)
			// The row is the state, and the matrix has ones in one row.
			checkApplied(t, withRow(squareOf(4, impl.DOmega{}), i, ones), c.row, replacedAt(make([]impl.DOmega, 4), i, c.want), c.accept)
		}
	}
}

func TestMulMatrix(t *testing.T) {
	x, z := permutationOf(1, 0), diagonalOf(realIntegers(1, -1)...)
	s, i := diagonalOf(domega(1, 0, 0, 0, 0), domega(0, 0, 1, 0, 0)), domega(0, 0, 1, 0, 0)
	h := domega(1, 0, 0, 0, 1)
	cases := []struct{ a, b, want [][]impl.DOmega }{
		{matrixOf(2, realIntegers(1, 2, 3, 4)...), matrixOf(2, realIntegers(10, 20, 30, 40)...), matrixOf(2, realIntegers(70, 100, 150, 220)...)},
		{matrixOf(2, realIntegers(10, 20, 30, 40)...), matrixOf(2, realIntegers(1, 2, 3, 4)...), matrixOf(2, realIntegers(70, 100, 150, 220)...)},
		{matrixOf(2, realIntegers(1, 2, 3, 4)...), matrixOf(2, realIntegers(0, 1, 0, 0)...), matrixOf(2, realIntegers(0, 1, 0, 3)...)},
		{matrixOf(2, realIntegers(0, 1, 0, 0)...), matrixOf(2, realIntegers(1, 2, 3, 4)...), matrixOf(2, realIntegers(3, 4, 0, 0)...)},
		{x, z, matrixOf(2, realIntegers(0, -1, 1, 0)...)},
		{z, x, matrixOf(2, realIntegers(0, 1, -1, 0)...)},
		{s, x, matrixOf(2, impl.DOmega{}, domega(1, 0, 0, 0, 0), i, impl.DOmega{})},
		{x, s, matrixOf(2, impl.DOmega{}, i, domega(1, 0, 0, 0, 0), impl.DOmega{})},
		{s, hadamard(), matrixOf(2, h, h, domega(0, 0, 1, 0, 1), domega(0, 0, -1, 0, 1))},
		{hadamard(), s, matrixOf(2, h, domega(0, 0, 1, 0, 1), h, domega(0, 0, -1, 0, 1))},
		{hadamard(), hadamard(), diagonalOf(realIntegers(1, 1)...)},
		{permutationOf(1, 2, 3, 0), diagonalOf(realIntegers(1, 2, 3, 4)...), matrixOf(4, realIntegers(0, 2, 0, 0, 0, 0, 3, 0, 0, 0, 0, 4, 1, 0, 0, 0)...)},
		{diagonalOf(realIntegers(1, 2, 3, 4)...), permutationOf(1, 2, 3, 0), matrixOf(4, realIntegers(0, 1, 0, 0, 0, 0, 2, 0, 0, 0, 0, 3, 4, 0, 0, 0)...)},
	}
	for _, c := range cases {
		checkMultiplied(t, c.a, c.b, c.want, true)
	}
}

func TestMultiplyingManyMatrices(t *testing.T) {
	multiplied, failed := 0, 0
	for n := 1; n <= 4; n++ {
		list := someMatrices(t, n)
		for i, a := range list {
			for j, b := range list {
				// The larger matrices take long: a part of their pairs is enough.
				if (i+2*j)%[]int{1, 1, 1, 3, 17}[n] != 0 {
					continue
				}
				want, accept := expectedMultiplied(a, b)
				checkMultiplied(t, a, b, want, accept)
				if accept {
					multiplied++
				} else {
					failed++
				}
			}
		}
	}
	if multiplied < 1000 || failed < 500 {
		t.Errorf("%d products are valid, and %d fail", multiplied, failed)
	}
}

// TestProductsAreAppliedInOrder also expects the two orders to differ somewhere.
func TestProductsAreAppliedInOrder(t *testing.T) {
	for n := 1; n <= 4; n++ {
		list, differ := smallMatrices(t, n), 0
		for i, a := range list {
			b, v := list[(i+3)%len(list)], statesFrom(eightPhases(), min(n, 3))[0]
			if n == 4 {
				v = append(v, v...)
			}
			forward := expectedMatrix(t, a, b)
			checkMultiplied(t, a, b, forward, true)
			inner, ok := impl.ApplyMatrix(b, v)
			both, ok2 := impl.ApplyMatrix(a, inner)
			if !ok || !ok2 {
				t.Fatalf("%v and then %v cannot be applied to %v", b, a, v)
			}
			product, _ := impl.MulMatrix(a, b)
			checkApplied(t, product, v, both, true)
			if backward := expectedMatrix(t, b, a); !sameMatrix(forward, backward) {
				differ++
				checkMultiplied(t, b, a, backward, true)
			}
		}
		if differ < 5 {
			t.Errorf("only %d pairs of %d qubits do not commute", differ, n)
		}
	}
}

func TestProductsOfThree(t *testing.T) {
	for n := 1; n <= 4; n++ {
		list := smallMatrices(t, n)
		for i, a := range list {
			b, c := list[(i+1)%len(list)], list[(i+5)%len(list)]
			ab, _ := impl.MulMatrix(a, b)
			bc, _ := impl.MulMatrix(b, c)
			left, ok := impl.MulMatrix(ab, c)
			checkMultiplied(t, a, bc, left, ok)
			if !ok {
				t.Errorf("the product of %v, %v and %v fails", a, b, c)
			}
		}
		for _, m := range someMatrices(t, n) {
			checkMultiplied(t, m, impl.IdentityMatrix(n), m, true)
			checkMultiplied(t, impl.IdentityMatrix(n), m, m, true)
			checkMultiplied(t, squareOf(1<<n, impl.DOmega{}), m, squareOf(1<<n, impl.DOmega{}), true)
		}
	}
}

// TestProductsThatFailInOneColumn: a product or a sum fails in the first, each middle or only the last column.
func TestProductsThatFailInOneColumn(t *testing.T) {
	for n := 1; n <= 4; n++ {
		size := 1 << n
		zero, last, one := squareOf(size, impl.DOmega{}), size-1, domega(1, 0, 0, 0, 0)
		for i := range size {
			// Row i of the first matrix adds the first and the last row of the second.
			ends := changedAt(changedAt(zero, i, 0, one), i, last, one)
			rows := withRow(zero, 0, sameAmplitudes(size, domega(maxC, 0, 0, 0, 0)))
			checkMultiplied(t, ends, rows, withRow(zero, i, rows[0]), true)
			for k := range size {
				checkMultiplied(t, ends, changedAt(rows, last, k, one), nil, false)
				less := changedAt(rows, last, k, domega(-1, 0, 0, 0, 0))
				checkMultiplied(t, ends, less, withRow(zero, i, replacedAt(rows[0], k, domega(maxC-1, 0, 0, 0, 0))), true)
				checkMultiplied(t, changedAt(ends, i, 0, domega(2, 0, 0, 0, 0)), changedAt(zero, 0, k, rows[0][0]), nil, false)
				deep := changedAt(impl.IdentityMatrix(n), i, k, domega(1, 0, 0, 0, 60))
				checkMultiplied(t, deep, impl.IdentityMatrix(n), deep, true)
				checkMultiplied(t, diagonalOf(sameAmplitudes(size, domega(1, 0, 0, 0, 1))...), deep, nil, false)
				checkMultiplied(t, deep, diagonalOf(sameAmplitudes(size, domega(1, 0, 0, 0, 1))...), nil, false)
			}
		}
	}
}

func complexMatrix(m [][]impl.DOmega) [][]complex128 {
	var list [][]complex128
	for _, row := range m {
		var values []complex128
		for _, x := range row {
			values = append(values, fractionValue(x))
		}
		list = append(list, values)
	}
	return list
}

func TestMatricesAsComplexNumbers(t *testing.T) {
	for n := 1; n <= 4; n++ {
		list := smallMatrices(t, n)
		for i, a := range list {
			b := list[(i*3+1)%len(list)]
			product, ok := impl.MulMatrix(a, b)
			if !ok {
				t.Fatalf("the product of %v and %v fails", a, b)
			}
			left, right := complexMatrix(a), complexMatrix(b)
			for r, row := range complexMatrix(product) {
				for c, got := range row {
					var want complex128
					for k := range left {
						want += left[r][k] * right[k][c]
					}
					if cmplx.Abs(got-want) > 1e-6 {
						t.Fatalf("row %d and column %d of the product of %v and %v is %v, want %v", r, c, a, b, got, want)
					}
				}
			}
		}
	}
}

func TestAdjointMatrix(t *testing.T) {
	i, omega := domega(0, 0, 1, 0, 0), domega(0, 1, 0, 0, 0)
	checkAdjoint(t, matrixOf(2, realIntegers(1, 2, 3, 4)...), matrixOf(2, realIntegers(1, 3, 2, 4)...))
	checkAdjoint(t, matrixOf(2, i, omega, impl.DOmega{}, domega(1, 2, 3, 5, 1)), matrixOf(2, domega(0, 0, -1, 0, 0), impl.DOmega{}, domega(0, 0, 0, -1, 0), domega(1, -5, -3, -2, 1)))
	checkAdjoint(t, permutationOf(1, 2, 3, 0), permutationOf(3, 0, 1, 2))
	checkAdjoint(t, hadamard(), hadamard())
	for n := 1; n <= 4; n++ {
		for _, m := range someMatrices(t, n) {
			adjoint := expectedAdjoint(m)
			checkAdjoint(t, m, adjoint)
			checkAdjoint(t, adjoint, m)
		}
	}
	for _, m := range invalidMatrices() {
		if got := impl.AdjointMatrix(m); got != nil {
			t.Errorf("AdjointMatrix(%v) = %v", m, got)
		}
	}
}

// TestAdjointsOfProducts: the adjoints are multiplied in reverse order.
func TestAdjointsOfProducts(t *testing.T) {
	for n := 1; n <= 4; n++ {
		list, differ := smallMatrices(t, n), 0
		for i, a := range list {
			b := list[(i+2)%len(list)]
			product, _ := impl.MulMatrix(a, b)
			checkMultiplied(t, impl.AdjointMatrix(b), impl.AdjointMatrix(a), impl.AdjointMatrix(product), true)
			if same, _ := impl.MulMatrix(impl.AdjointMatrix(a), impl.AdjointMatrix(b)); !sameMatrix(same, impl.AdjointMatrix(product)) {
				differ++
			}
		}
		if differ < 5 {
			t.Errorf("only %d products of %d qubits tell the order", differ, n)
		}
	}
}

// TestAdjointsMoveToTheOtherState: the inner product of u with m v is that of the adjoint times u with v.
func TestAdjointsMoveToTheOtherState(t *testing.T) {
	for n := 1; n <= 4; n++ {
		u, v := statesFrom(append(eightPhases(), eightPhases()...), n)[0], sameAmplitudes(1<<n, domega(0, 1, 0, 0, 0))
		for _, m := range smallMatrices(t, n) {
			applied, _ := impl.ApplyMatrix(m, v)
			moved, _ := impl.ApplyMatrix(impl.AdjointMatrix(m), u)
			want, ok := expectedInner(u, applied)
			checkInner(t, moved, v, want, true)
			if !ok {
				t.Errorf("the inner product of %v and %v fails", u, applied)
			}
		}
	}
}

func TestIsUnitary(t *testing.T) {
	for n := 1; n <= 4; n++ {
		size := 1 << n
		for j, m := range unitaries(t, n) {
			checkUnitary(t, m, true)
			checkUnitary(t, expectedAdjoint(m), true)
			checkUnitary(t, timesAmplitude(t, m, eightPhases()[j%8]), true)
			// A multiple by a number whose norm is not 1 only scales.
			for _, x := range []impl.DOmega{{}, domega(2, 0, 0, 0, 0), domega(1, 0, 0, 0, 1), domega(1, 1, 0, 0, 0), domega(1, 0, 1, 0, 0), domega(1, 1, 0, 0, 1)} {
				checkUnitary(t, timesAmplitude(t, m, x), false)
			}
			for _, i := range []int{0, j % size, size - 1} {
				checkUnitary(t, withRow(m, i, m[(i+1)%size]), false)
				checkUnitary(t, withRow(m, i, make([]impl.DOmega, size)), false)
				checkUnitary(t, withRow(m, i, timesAmplitude(t, m[i:i+1], domega(0, 0, -1, 0, 0))[0]), true)
			}
		}
		checkUnitary(t, squareOf(size, impl.DOmega{}), false)
		checkUnitary(t, squareOf(size, domega(1, 0, 0, 0, n)), false)
		checkUnitary(t, impl.IdentityMatrix(n), true)
		for i := range size {
			for k := range size {
				// One more amplitude beside the diagonal, or another one on it.
				checkUnitary(t, changedAt(impl.IdentityMatrix(n), i, k, domega(0, 0, 0, 3, 5)), false)
			}
		}
	}
	h := domega(1, 0, 0, 0, 1)
	checkUnitary(t, matrixOf(2, h, h, h, h), false)
	checkUnitary(t, matrixOf(2, h, domega(0, 0, 1, 0, 1), h, domega(0, 0, -1, 0, 1)), true)
	checkUnitary(t, matrixOf(2, h, domega(0, 0, 1, 0, 1), h, domega(0, 0, 1, 0, 1)), false)
	// The product with the transpose, which is not conjugated, is the identity.
	checkUnitary(t, matrixOf(2, domega(0, 1, 0, -1, 0), domega(0, 0, 1, 0, 0), domega(0, 0, -1, 0, 0), domega(0, 1, 0, -1, 0)), false)
	for _, m := range invalidMatrices() {
		checkUnitary(t, m, false)
	}
}

func TestIsUnitaryOfManyMatrices(t *testing.T) {
	for n := 1; n <= 3; n++ {
		for _, m := range someMatrices(t, n) {
			product, ok := expectedMultiplied(expectedAdjoint(m), m)
			checkUnitary(t, m, ok && sameMatrix(product, impl.IdentityMatrix(n)))
		}
	}
}

// TestUnitaryBeyondTheLimits multiplies Hadamard matrices and phases: from the exponent 31 on, the squared norms exceed the limit of the exponent.
func TestUnitaryBeyondTheLimits(t *testing.T) {
	within, beyond := 0, 0
	for seed := range uint64(20) {
		source := rand.New(rand.NewPCG(seed, 7))
		for m := hadamard(); m[0][0].Exp <= 35; {
			turn := diagonalOf(domega(1, 0, 0, 0, 0), eightPhases()[source.IntN(4)*2+1])
			m = expectedMatrix(t, expectedMatrix(t, m, turn), hadamard())
			checkUnitary(t, m, m[0][0].Exp <= 30)
			checkUnitary(t, expectedAdjoint(m), m[0][0].Exp <= 30)
			if m[0][0].Exp == 30 {
				within++
			} else if m[0][0].Exp == 31 {
				beyond++
			}
		}
	}
	if within < 5 || beyond < 5 {
		t.Errorf("%d matrices are next to the limit, and %d just beyond it", within, beyond)
	}
	for n := 1; n <= 4; n++ {
		checkUnitary(t, squareOf(1<<n, domega(maxC, 0, 0, 0, 0)), false)
		checkUnitary(t, squareOf(1<<n, domega(1, 0, 0, 0, 60)), false)
		checkUnitary(t, changedAt(impl.IdentityMatrix(n), 1<<n-1, 0, domega(maxC, 0, 0, 0, 0)), false)
	}
}

func TestGlobalPhase(t *testing.T) {
	for n := 1; n <= 4; n++ {
		for _, b := range someMatrices(t, n) {
			var multiples [][][]impl.DOmega
			for _, x := range eightPhases() {
				multiples = append(multiples, timesAmplitude(t, b, x))
			}
			zero := sameMatrix(b, squareOf(1<<n, impl.DOmega{}))
			for i, a := range multiples {
				for j, other := range multiples {
					if zero {
						checkPhase(t, a, other, 0, true)
					} else {
						checkPhase(t, a, other, (i-j+8)%8, true)
					}
				}
			}
		}
	}
}

// TestPhasesOfOneRowOnly: no phase holds for the whole matrix.
func TestPhasesOfOneRowOnly(t *testing.T) {
	for n := 1; n <= 4; n++ {
		size := 1 << n
		for _, b := range unitaries(t, n) {
			for j, x := range eightPhases() {
				i := (j*3 + n) % size
				a := withRow(b, i, timesAmplitude(t, b[i:i+1], x)[0])
				checkPhase(t, a, b, 0, j == 0)
				checkPhase(t, b, a, 0, j == 0)
				if j != 5 {
					// Now the other rows have a phase, and this one has another.
					checkPhase(t, withRow(timesAmplitude(t, b, eightPhases()[5]), i, a[i]), b, 0, false)
				}
			}
		}
		// Where the other rows are 0, the phase of one row is that of the matrix.
		for i := range size {
			row := withRow(squareOf(size, impl.DOmega{}), i, sameAmplitudes(size, domega(1, 2, 0, 0, 3)))
			checkPhase(t, timesAmplitude(t, row, eightPhases()[6]), row, 6, true)
			for k := range size {
				a := timesAmplitude(t, row, eightPhases()[6])
				checkPhase(t, changedAt(a, i, k, domega(1, 2, 0, 0, 3)), row, 0, false)
				checkPhase(t, changedAt(a, i, k, impl.DOmega{}), row, 0, false)
				checkPhase(t, changedAt(a, (i+1)%size, k, domega(1, 0, 0, 0, 0)), row, 0, false)
				checkPhase(t, row, changedAt(a, (i+1)%size, k, domega(1, 0, 0, 0, 0)), 0, false)
			}
		}
	}
}

func TestMultiplesByNoPhase(t *testing.T) {
	factors := []impl.DOmega{{}, domega(2, 0, 0, 0, 0), domega(-2, 0, 0, 0, 0), domega(1, 0, 0, 0, 1), domega(0, 0, 1, 0, 2), domega(1, 1, 0, 0, 0), domega(0, 1, 0, -1, 0), domega(1, 0, 1, 0, 0), domega(0, 1, 2, 0, 2), domega(1, 0, 2, 0, 1)}
	for n := 1; n <= 4; n++ {
		zero := squareOf(1<<n, impl.DOmega{})
		for _, m := range smallMatrices(t, n) {
			for _, x := range factors {
				multiple := timesAmplitude(t, m, x)
				checkPhase(t, multiple, m, 0, false)
				checkPhase(t, m, multiple, 0, false)
			}
			checkPhase(t, zero, m, 0, false)
			checkPhase(t, m, zero, 0, false)
		}
		checkPhase(t, zero, zero, 0, true)
	}
}

func TestEqualMatrix(t *testing.T) {
	checkEqualMatrix(t, nil, nil, true)
	checkEqualMatrix(t, nil, [][]impl.DOmega{}, true)
	checkEqualMatrix(t, nil, [][]impl.DOmega{nil}, false)
	checkEqualMatrix(t, [][]impl.DOmega{nil}, [][]impl.DOmega{{}}, true)
	checkEqualMatrix(t, [][]impl.DOmega{nil, {}}, [][]impl.DOmega{{}, nil}, true)
	checkEqualMatrix(t, [][]impl.DOmega{{{}}, {}}, [][]impl.DOmega{{}, {{}}}, false)
	for rows := range 35 {
		m := squareOf(rows, domega(1, -2, 3, -4, 0))
		checkEqualMatrix(t, m, cloneMatrix(m), true)
		checkEqualMatrix(t, m, m, true)
		for other := range 35 {
			checkEqualMatrix(t, m, squareOf(other, domega(1, -2, 3, -4, 0)), other == rows)
		}
		for i := range rows {
			checkEqualMatrix(t, m, withRow(m, i, m[i][:rows-1]), false)
			checkEqualMatrix(t, m, withRow(m, i, append(slices.Clone(m[i]), impl.DOmega{})), false)
			checkEqualMatrix(t, m, withRow(m, i, nil), false)
			checkEqualMatrix(t, m, slices.Delete(cloneMatrix(m), i, i+1), false)
		}
		checkEqualMatrix(t, m, append(cloneMatrix(m), nil), false)
	}
	for _, m := range invalidMatrices() {
		checkEqualMatrix(t, m, cloneMatrix(m), true)
	}
}

// TestMatricesThatDifferInOneField also compares slices that are no valid matrices.
func TestMatricesThatDifferInOneField(t *testing.T) {
	for _, rows := range []int{1, 2, 3, 4, 8, 16, 17} {
		for _, x := range []impl.DOmega{{}, domega(1, 2, 3, 4, 0), domega(2, 2, 2, 2, 2), domega(math.MinInt, 0, math.MaxInt, 0, -1)} {
			m := squareOf(rows, x)
			for i := range rows {
				for k := range rows {
					by := []int{1, -1, 1 << 32, math.MinInt}[(i+k)%4]
					checkEqualMatrix(t, m, changedAt(m, i, k, domega(x.N.A+by, x.N.B, x.N.C, x.N.D, x.Exp)), false)
					checkEqualMatrix(t, m, changedAt(m, i, k, domega(x.N.A, x.N.B+by, x.N.C, x.N.D, x.Exp)), false)
					checkEqualMatrix(t, m, changedAt(m, i, k, domega(x.N.A, x.N.B, x.N.C+by, x.N.D, x.Exp)), false)
					checkEqualMatrix(t, m, changedAt(m, i, k, domega(x.N.A, x.N.B, x.N.C, x.N.D+by, x.Exp)), false)
					checkEqualMatrix(t, m, changedAt(m, i, k, domega(x.N.A, x.N.B, x.N.C, x.N.D, x.Exp+by)), false)
				}
			}
		}
	}
	// Rows in another order, columns in another order, and another representation of one number.
	checkEqualMatrix(t, matrixOf(2, realIntegers(1, 2, 3, 4)...), matrixOf(2, realIntegers(3, 4, 1, 2)...), false)
	checkEqualMatrix(t, matrixOf(2, realIntegers(1, 2, 3, 4)...), matrixOf(2, realIntegers(1, 3, 2, 4)...), false)
	checkEqualMatrix(t, matrixOf(2, realIntegers(1, 0, 0, 1)...), matrixOf(2, append(realIntegers(1, 0, 0), domega(2, 0, 0, 0, 2))...), false)
}

// TestInvalidMatricesAsOperands pairs each slice with itself, with valid matrices and with states of its number of rows.
func TestInvalidMatricesAsOperands(t *testing.T) {
	for _, m := range invalidMatrices() {
		valid := [][][]impl.DOmega{squareOf(len(m), impl.DOmega{}), impl.IdentityMatrix(1), impl.IdentityMatrix(2), impl.IdentityMatrix(4)}
		for _, other := range append(valid, m, nil) {
			checkMultiplied(t, m, other, nil, false)
			checkMultiplied(t, other, m, nil, false)
			checkPhase(t, m, other, 0, false)
			checkPhase(t, other, m, 0, false)
		}
		states := [][]impl.DOmega{make([]impl.DOmega, len(m)), sameAmplitudes(len(m), domega(1, 0, 0, 0, 0)), nil, impl.BasisState(1, 0), impl.BasisState(4, 0)}
		if len(m) > 0 {
			states = append(states, m[0], make([]impl.DOmega, len(m[0])))
		}
		for _, v := range states {
			checkApplied(t, m, v, nil, false)
		}
	}
}

// TestMatricesAndStatesOfDifferentSizes: each operand is valid by itself.
func TestMatricesAndStatesOfDifferentSizes(t *testing.T) {
	for n := 1; n <= 4; n++ {
		for m := 1; m <= 4; m++ {
			if m == n {
				continue
			}
			for _, pair := range [][2][][]impl.DOmega{
				{impl.IdentityMatrix(n), impl.IdentityMatrix(m)}, {squareOf(1<<n, impl.DOmega{}), squareOf(1<<m, impl.DOmega{})},
				{squareOf(1<<n, domega(1, 0, 0, 0, n)), squareOf(1<<m, domega(1, 0, 0, 0, n))},
			} {
				checkMultiplied(t, pair[0], pair[1], nil, false)
				checkPhase(t, pair[0], pair[1], 0, false)
				checkEqualMatrix(t, pair[0], pair[1], false)
				for _, v := range someStates(m)[:6] {
					checkApplied(t, pair[0], v, nil, false)
				}
			}
		}
		for _, v := range invalidStates() {
			checkApplied(t, impl.IdentityMatrix(n), v, nil, false)
			checkApplied(t, squareOf(1<<n, impl.DOmega{}), v, nil, false)
		}
	}
}

// roomyMatrix returns m with marks in the unused capacity of the matrix and of each row.
func roomyMatrix(m [][]impl.DOmega) [][]impl.DOmega { return withMarkedRows(m, unusedMark) }

func checkMatrixUntouched(t *testing.T, what string, m, before [][]impl.DOmega) {
	t.Helper()
	checkMarkedRows(t, what, m, before, unusedMark)
}

func overwriteMatrix(m [][]impl.DOmega) { fillRows(m, domega(99, 98, 97, 96, 95)) }

func firstMatrix(m [][]impl.DOmega, _ bool) [][]impl.DOmega { return m }

func checkFreshMatrices(t *testing.T, what string, call func() [][]impl.DOmega) {
	t.Helper()
	checkFreshRows(t, what, domega(99, 98, 97, 96, 95), call)
}

// TestMatricesAreKept overwrites each result: neither an argument nor another result may change with it.
func TestMatricesAreKept(t *testing.T) {
	var pairs [][2][][]impl.DOmega
	for n := 1; n <= 4; n++ {
		list := someMatrices(t, n)
		for i, a := range list {
			pairs = append(pairs, [2][][]impl.DOmega{a, list[(i+1)%len(list)]}, [2][][]impl.DOmega{a, impl.IdentityMatrix(n)}, [2][][]impl.DOmega{impl.IdentityMatrix(n), a})
		}
	}
	for i, m := range invalidMatrices() {
		if i%3 == 0 {
			pairs = append(pairs, [2][][]impl.DOmega{m, impl.IdentityMatrix(1)}, [2][][]impl.DOmega{squareOf(len(m), impl.DOmega{}), m})
		}
	}
	for _, pair := range pairs {
		a, b, before := roomyMatrix(pair[0]), roomyMatrix(pair[1]), sameAmplitudes(len(pair[0]), domega(0, 1, 0, 0, 1))
		v := withUnusedCapacity(before)
		checkFreshMatrices(t, "MulMatrix", func() [][]impl.DOmega { return firstMatrix(impl.MulMatrix(a, b)) })
		checkFreshMatrices(t, "MulMatrix", func() [][]impl.DOmega { return firstMatrix(impl.MulMatrix(a, a)) })
		checkFreshMatrices(t, "AdjointMatrix", func() [][]impl.DOmega { return impl.AdjointMatrix(a) })
		checkFreshResults(t, "ApplyMatrix", func() []impl.DOmega { return firstOf(impl.ApplyMatrix(a, v)) })
		if len(a) > 0 {
			// The state is a row of the matrix.
			checkFreshResults(t, "ApplyMatrix", func() []impl.DOmega { return firstOf(impl.ApplyMatrix(a, a[len(a)-1])) })
		}
		impl.IsValidMatrix(a)
		impl.IsUnitary(a)
		impl.GlobalPhase(a, b)
		impl.EqualMatrix(a, b)
		checkMatrixUntouched(t, "a function of two matrices", a, pair[0])
		checkMatrixUntouched(t, "a function of two matrices", b, pair[1])
		checkUntouched(t, "a function of a matrix and a state", v, before)
	}
}

// TestMatrixResultsKeepTheirValues: also when an argument is overwritten afterwards.
func TestMatrixResultsKeepTheirValues(t *testing.T) {
	for n := 1; n <= 4; n++ {
		checkFreshMatrices(t, "IdentityMatrix", func() [][]impl.DOmega { return impl.IdentityMatrix(n) })
		for _, m := range someMatrices(t, n) {
			a, one, v := roomyMatrix(m), roomyMatrix(impl.IdentityMatrix(n)), withUnusedCapacity(impl.BasisState(n, 1))
			left, _ := impl.MulMatrix(a, one)
			right, _ := impl.MulMatrix(one, a)
			adjoint := impl.AdjointMatrix(a)
			applied, _ := impl.ApplyMatrix(a, v)
			copied, _ := impl.ApplyMatrix(one, a[0])
			overwriteMatrix(a)
			overwriteMatrix(one)
			overwrite(v)
			if !sameMatrix(left, m) || !sameMatrix(right, m) || !sameMatrix(adjoint, expectedAdjoint(m)) {
				t.Fatalf("results of %v become %v, %v and %v", m, left, right, adjoint)
			}
			if !slices.Equal(applied, columnOf(m, 1)) || !slices.Equal(copied, m[0]) {
				t.Fatalf("results of %v become %v and %v", m, applied, copied)
			}
		}
	}
}

// TestRowsThatShareMemory: a matrix may hold one slice as several rows.
func TestRowsThatShareMemory(t *testing.T) {
	for n := 1; n <= 4; n++ {
		row := withUnusedCapacity(statesFrom(append(eightPhases(), eightPhases()...), n)[0])
		before := slices.Clone(row)
		m := slices.Repeat([][]impl.DOmega{row}, 1<<n)
		want := cloneMatrix(m)
		checkMultiplied(t, m, m, expectedMatrix(t, want, want), true)
		checkAdjoint(t, m, expectedAdjoint(want))
		checkPhase(t, m, want, 0, true)
		checkUnitary(t, m, false)
		checkUntouched(t, "a function of a matrix with one slice as all rows", row, before)
	}
}
