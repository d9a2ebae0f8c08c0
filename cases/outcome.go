package cases

import (
	"slices"

	"pippin/api"
)

// Outcome is what a function returned: an error, and how much else.
type Outcome struct {
	Name   string
	Result int
	E      api.Errno
}

// Got keeps lists of outcomes short.
func Got(name string, result int, e api.Errno) Outcome {
	return Outcome{name, result, e}
}

// Test is the part of a test that ExpectError needs.
type Test interface {
	Helper()
	Errorf(format string, values ...any)
}

// ExpectError checks that all functions, or those that are named, returned an error and nothing else.
func ExpectError(t Test, about string, outcomes []Outcome, want api.Errno, names ...string) {
	t.Helper()
	for _, o := range outcomes {
		if len(names) > 0 && !slices.Contains(names, o.Name) {
			continue
		}
		if o.E != want || o.Result != 0 {
			t.Errorf("%s: %s = %d, error %d; want the error %d and nothing else", about, o.Name, o.Result, o.E, want)
		}
	}
}

// ExpectOwnLists checks that the lists that functions return share no memory with each other, and are the same again after they were overwritten.
func ExpectOwnLists(t Test, lists func() [][]int, about ...any) {
	t.Helper()
	results := lists()
	was := CopyRows(results)
	for at, result := range results {
		Spoil(result)
		if later := results[at+1:]; !slices.EqualFunc(later, was[at+1:], slices.Equal[[]int]) {
			t.Errorf("%v: %v came to be %v", about, was[at+1:], later)
		}
	}
	if again := lists(); !slices.EqualFunc(was, again, slices.Equal[[]int]) {
		t.Errorf("%v: %v, and again %v", about, was, again)
	}
}

// ExpectNothingElse checks R2: where there is an error, there is nothing else.
func ExpectNothingElse(t Test, outcomes []Outcome, about ...any) {
	t.Helper()
	for _, o := range outcomes {
		if o.E != api.OK && o.Result != 0 {
			t.Errorf("%v: %s = %d with the error %d", about, o.Name, o.Result, o.E)
		}
	}
}
