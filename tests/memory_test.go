package tests

import (
	"slices"
	"testing"
)

// The tests of all chapters use these functions to show that arguments are kept and that results share no memory.

// withMarks returns the list in a larger array, with marks in its unused capacity.
func withMarks[T any](list []T, mark T) []T {
	return append(slices.Clone(list), slices.Repeat([]T{mark}, 20)...)[:len(list)]
}

// checkMarks expects the list as it was, and marks in its unused capacity.
func checkMarks[T comparable](t *testing.T, what string, list, before []T, mark T) {
	t.Helper()
	if !slices.Equal(list, before) {
		t.Fatalf("%s changes %v to %v", what, before, list)
	}
	for k, x := range list[len(list) : len(list)+20] {
		if x != mark {
			t.Fatalf("%s writes %v into the unused capacity of %v, at %d", what, x, before, k)
		}
	}
}

// fillWith overwrites the list and its unused capacity.
func fillWith[T any](list []T, x T) {
	list = list[:cap(list)]
	for k := range list {
		list[k] = x
	}
}

// checkFresh expects the same result of every call, in memory of its own.
func checkFresh[T comparable](t *testing.T, what string, x T, call func() []T) {
	t.Helper()
	first, second := call(), call()
	want := slices.Clone(first)
	fillWith(first, x)
	if !slices.Equal(second, want) {
		t.Fatalf("two results of %s share their memory: %v becomes %v", what, want, second)
	}
	fillWith(second, x)
	if third := call(); !slices.Equal(third, want) {
		t.Fatalf("%s gives %v, and %v once its results were overwritten", what, want, third)
	}
}

// withMarkedRows returns the rows in larger arrays, with marks in the unused capacity of each row and of all of them together.
func withMarkedRows[T any](rows [][]T, mark T) [][]T {
	var list [][]T
	for _, row := range rows {
		list = append(list, withMarks(row, mark))
	}
	for range 20 {
		list = append(list, []T{mark})
	}
	return list[:len(rows)]
}

// checkMarkedRows expects the rows as they were, and marks in their unused capacity.
func checkMarkedRows[T comparable](t *testing.T, what string, rows, before [][]T, mark T) {
	t.Helper()
	if len(rows) != len(before) {
		t.Fatalf("%s changes %v to %v", what, before, rows)
	}
	for i, row := range rows {
		checkMarks(t, what, row, before[i], mark)
	}
	for i, row := range rows[len(rows) : len(rows)+20] {
		if !slices.Equal(row, []T{mark}) {
			t.Fatalf("%s writes %v into the unused capacity of %v, at %d", what, row, before, i)
		}
	}
}

func sameRows[T comparable](a, b [][]T) bool { return slices.EqualFunc(a, b, slices.Equal[[]T]) }

func cloneRows[T any](rows [][]T) [][]T {
	var list [][]T
	for _, row := range rows {
		list = append(list, slices.Clone(row))
	}
	return list
}

// fillRows overwrites the rows, their unused capacity and that of all of them together.
func fillRows[T any](rows [][]T, x T) {
	for i, row := range rows {
		fillWith(row, x)
		rows[i] = nil
	}
	rows = rows[:cap(rows)]
	for i := range rows {
		rows[i] = []T{x, x, x}
	}
}

// checkFreshRows expects the same result of every call, in memory of its own, and no two rows in the same memory.
func checkFreshRows[T comparable](t *testing.T, what string, x T, call func() [][]T) {
	t.Helper()
	first, second := call(), call()
	want := cloneRows(first)
	for i, row := range first {
		fillWith(row, x)
		if !sameRows(first[i+1:], want[i+1:]) {
			t.Fatalf("two rows of a result of %s share their memory: %v becomes %v", what, want, first)
		}
	}
	fillRows(first, x)
	if !sameRows(second, want) {
		t.Fatalf("two results of %s share their memory: %v becomes %v", what, want, second)
	}
	// The rows are overwritten in the other order too.
	for i, row := range slices.Backward(second) {
		fillWith(row, x)
		if !sameRows(second[:i], want[:i]) {
			t.Fatalf("two rows of a result of %s share their memory: %v becomes %v", what, want, second)
		}
	}
	fillRows(second, x)
	if third := call(); !sameRows(third, want) {
		t.Fatalf("%s gives %v, and %v once its results were overwritten", what, want, third)
	}
}
