package tests

import (
	"math"
	"testing"

	"loop.example/g01250/impl"
)

var runEdges = edgeInts(mostRunned, mostNoRun, mostCubed, mostRaised, 1<<32, 1<<62)

// TestRunCallsOfAnySize calls every function of the chapter with numbers of any size: none panics
// or runs long, and each succeeds just for those that it is told to take.
func TestRunCallsOfAnySize(t *testing.T) {
	inTime(t, func() {
		for _, a := range runEdges {
			checkRunCallsOfOne(t, a)
			checkRunListCalls(t, a)
			for _, b := range runEdges {
				checkRunCallsOfTwo(t, a, b)
			}
		}
	})
}

func checkRunCallsOfOne(t *testing.T, n int) {
	isRunned := isIn(n, 1, mostRunned)
	count, ok := impl.CountRuns(n)
	checkSolidNumber(t, "CountRuns", n, 0, count, ok, isRunned)
	count, ok = impl.CountSquaresApart(n)
	checkSolidNumber(t, "CountSquaresApart", n, 0, count, ok, isRunned)
	a, b, ok := impl.MostSquareRectangle(n)
	if ok != isRunned || !ok && (a != 0 || b != 0) {
		t.Error("MostSquareRectangle", n, a, b, ok)
	}
	longest, ok := impl.LongestRun(n)
	checkOneRun(t, "LongestRun", n, 0, longest, ok, isRunned)
	odds, ok := impl.CubeAsOdds(n)
	checkOneRun(t, "CubeAsOdds", n, 0, odds, ok, isIn(n, 1, mostCubed))
	before, behind, ok := impl.SameSums(n)
	checkOneRun(t, "SameSums", n, 0, before, ok, isIn(n, 1, mostSameSums))
	checkOneRun(t, "SameSums", n, 0, behind, ok, isIn(n, 1, mostSameSums))
}

// checkOneRun has the zero run for a call that fails, and a longer one for others.
func checkOneRun(t *testing.T, call string, a int, b int, run impl.Run, ok bool, valid bool) {
	t.Helper()
	if ok != valid || !ok && run != (impl.Run{}) || ok && run.Length < 1 {
		t.Error(call, a, b, run, ok)
	}
}

func checkRunListCalls(t *testing.T, n int) {
	isRunned := isIn(n, 1, mostRunned)
	for name, call := range map[string]func(int) ([]impl.Run, bool){
		"RunsOf":     impl.RunsOf,
		"SignedRuns": impl.SignedRuns,
		"OddRunsOf":  impl.OddRunsOf,
	} {
		if runs, ok := call(n); ok != isRunned || !ok && runs != nil {
			t.Error(name, n, runs, ok)
		}
	}
	for name, call := range map[string]func(int) ([][]int, bool){
		"SquaresApart":   impl.SquaresApart,
		"TrianglesApart": impl.TrianglesApart,
		"RectanglesOf":   impl.RectanglesOf,
	} {
		if lists, ok := call(n); ok != isRunned || !ok && lists != nil {
			t.Error(name, n, lists, ok)
		}
	}
	if numbers, ok := impl.NoRunUpTo(n); ok != isIn(n, 0, mostNoRun) || !ok && numbers != nil {
		t.Error("NoRunUpTo", n, numbers, ok)
	}
}

func checkRunCallsOfTwo(t *testing.T, a int, b int) {
	run := impl.Run{First: a, Length: b}
	sum, ok := impl.SumOfRun(run)
	if ok != (isIn(a, -mostRunned, mostRunned) && isIn(b, 0, mostRunned)) || !ok && sum != 0 {
		t.Error("SumOfRun", run, sum, ok)
	}
	squares, ok := impl.SumOfSquaresRun(run)
	checkSolidNumber(t, "SumOfSquaresRun", a, b, squares, ok, isIn(a, -mostSquareFirst, mostSquareFirst) && isIn(b, 0, mostSquaresRun))
	odds, ok := impl.PowerAsOdds(a, b)
	checkOneRun(t, "PowerAsOdds", a, b, odds, ok, isIn(a, 1, mostRaised) && isIn(b, leastExponent, mostExponent))
}

// TestRunListsAreNew checks that a result that is changed changes no later one, and that the
// lists of one result share no memory.
func TestRunListsAreNew(t *testing.T) {
	checkListsAreNew(t, impl.Run{First: math.MinInt, Length: math.MaxInt}, map[string]func() ([]impl.Run, bool){
		"RunsOf":     func() ([]impl.Run, bool) { return impl.RunsOf(945) },
		"SignedRuns": func() ([]impl.Run, bool) { return impl.SignedRuns(945) },
		"OddRunsOf":  func() ([]impl.Run, bool) { return impl.OddRunsOf(945) },
	})
	checkListsAreNew(t, math.MaxInt, map[string]func() ([]int, bool){
		"NoRunUpTo": func() ([]int, bool) { return impl.NoRunUpTo(100) },
	})
	checkTablesAreNew(t, map[string]func() ([][]int, bool){
		"SquaresApart":   func() ([][]int, bool) { return impl.SquaresApart(945) },
		"TrianglesApart": func() ([][]int, bool) { return impl.TrianglesApart(945) },
		"RectanglesOf":   func() ([][]int, bool) { return impl.RectanglesOf(945) },
	})
}
