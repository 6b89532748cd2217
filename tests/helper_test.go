package tests

import (
	"math"
	"slices"
	"testing"
	"time"
)

// edgeInts has numbers of any size: those around each limit of a chapter and around the
// limits of int.
func edgeInts(limits ...int) []int {
	edges := []int{math.MinInt, math.MinInt + 1, math.MinInt / 2, math.MinInt32, math.MaxInt32, math.MaxInt / 2, math.MaxInt - 1, math.MaxInt}
	for n := -5; n <= 30; n++ {
		edges = append(edges, n)
	}
	for _, limit := range limits {
		for step := -1; step <= 1; step++ {
			edges = append(edges, limit+step, -limit+step)
		}
	}
	return edges
}

// inTime fails the test if the calls run long, and lets a panic in them fail it, too.
func inTime(t *testing.T, calls func()) {
	t.Helper()
	done := make(chan any, 1)
	go func() {
		defer func() { done <- recover() }()
		calls()
	}()
	select {
	case failure := <-done:
		if failure != nil {
			t.Fatal("panic:", failure)
		}
	case <-time.After(30 * time.Second):
		t.Fatal("the calls run long")
	}
}

// spoil changes a list and the room behind it.
func spoil[Item any](list []Item, spoilt Item) {
	for i := range list {
		list[i] = spoilt
	}
	_ = append(list, spoilt, spoilt)
}

// checkListsAreNew checks that a result that is spoilt changes no later one of the same call.
func checkListsAreNew[Item comparable](t *testing.T, spoilt Item, calls map[string]func() ([]Item, bool)) {
	t.Helper()
	for name, call := range calls {
		list, _ := call()
		want := slices.Clone(list)
		spoil(list, spoilt)
		if again, ok := call(); !slices.Equal(again, want) || len(want) == 0 || !ok {
			t.Error(name, again, ok, want)
		}
	}
}

// checkTablesAreNew checks the same of lists of lists, and that the lists of one result share no
// memory.
func checkTablesAreNew(t *testing.T, calls map[string]func() ([][]int, bool)) {
	t.Helper()
	for name, call := range calls {
		lists, _ := call()
		want, _ := call()
		for i := range lists {
			spoil(lists[i], math.MaxInt)
			if !sameLists(lists[i+1:], want[i+1:]) {
				t.Error(name, "shares the memory of a list", i)
			}
		}
		if again, ok := call(); !sameLists(again, want) || len(want) < 3 || !ok {
			t.Error(name, again, ok)
		}
	}
}

func isIn(n int, least int, most int) bool {
	return n >= least && n <= most
}
