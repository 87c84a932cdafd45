package tests

import (
	"slices"
	"testing"
)

// The tests of all chapters use these functions to show that arguments are kept and that results share no memory.

// withMarks returns the list in a larger array, with marks in its unused capacity.
func withMarks[T any](list []T, mark T) []T {
	return append(slices.Clone(list), slices.Repeat([]T{mark}, 20)...)[:len(list)]
}

// checkMarks expects the list as it was, and marks in its unused capacity.
func checkMarks[T comparable](t *testing.T, what string, list, before []T, mark T) {
	t.Helper()
	if !slices.Equal(list, before) {
		t.Fatalf("%s changes %v to %v", what, before, list)
	}
	for k, x := range list[len(list) : len(list)+20] {
		if x != mark {
			t.Fatalf("%s writes %v into the unused capacity of %v, at %d", what, x, before, k)
		}
	}
}

// fillWith overwrites the list and its unused capacity.
func fillWith[T any](list []T, x T) {
	list = list[:cap(list)]
	for k := range list {
		list[k] = x
	}
}

// checkFresh expects the same result of every call, in memory of its own.
func checkFresh[T comparable](t *testing.T, what string, x T, call func() []T) {
	t.Helper()
	first, second := call(), call()
	want := slices.Clone(first)
	fillWith(first, x)
	if !slices.Equal(second, want) {
		t.Fatalf("two results of %s share their memory: %v becomes %v", what, want, second)
	}
	fillWith(second, x)
	if third := call(); !slices.Equal(third, want) {
		t.Fatalf("%s gives %v, and %v once its results were overwritten", what, want, third)
	}
}
