package tests

import (
	"math"
	"slices"
	"testing"
	"time"
)

// edgeInts has numbers of any size: those around each limit of a chapter and around the
// limits of int.
func edgeInts(limits ...int) []int {
	edges := []int{math.MinInt, math.MinInt + 1, math.MinInt / 2, math.MinInt32, math.MaxInt32, math.MaxInt / 2, math.MaxInt - 1, math.MaxInt}
	for n := -5; n <= 30; n++ {
		edges = append(edges, n)
	}
	for _, limit := range limits {
		for step := -1; step <= 1; step++ {
			edges = append(edges, limit+step, -limit+step)
		}
	}
	return edges
}

// inTime fails the test if the calls run long, and lets a panic in them fail it, too.
func inTime(t *testing.T, calls func()) {
	t.Helper()
	done := make(chan any, 1)
	go func() {
		defer func() { done <- recover() }()
		calls()
	}()
	select {
	case failure := <-done:
		if failure != nil {
			t.Fatal("panic:", failure)
		}
	case <-time.After(30 * time.Second):
		t.Fatal("the calls run long")
	}
}

// spoil changes a list and the room behind it.
func spoil(list []int) {
	for i := range list {
		list[i] = math.MaxInt
	}
	_ = append(list, math.MinInt, math.MinInt)
}

// checkListsAreNew checks that a result that is spoilt changes no later one of the same call.
func checkListsAreNew(t *testing.T, calls map[string]func() ([]int, bool)) {
	t.Helper()
	for name, call := range calls {
		list, _ := call()
		want := slices.Clone(list)
		spoil(list)
		if again, ok := call(); !slices.Equal(again, want) || len(want) == 0 || !ok {
			t.Error(name, again, ok, want)
		}
	}
}

func isIn(n int, least int, most int) bool {
	return n >= least && n <= most
}
