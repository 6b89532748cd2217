package tests

import (
	"testing"

	"loop.example/g01250/impl"
)

func wantLists(t *testing.T, call string, n int, got [][]int, ok bool, want [][]int, wantOk bool) {
	t.Helper()
	if !sameLists(got, want) || ok != wantOk {
		t.Fatalf("%s of %d is %v, %v, not %v, %v", call, n, got, ok, want, wantOk)
	}
}

func square(n int) int {
	return n * n
}

// numbersApart returns the lists a, b for which the number of a is n greater than that of b, in
// the order of a. The numbers have to grow by more from each one to the next.
func numbersApart(n int, numberOf func(int) int) [][]int {
	var lists [][]int
	a := 1
	for b := 0; numberOf(b+1)-numberOf(b) <= n; b++ {
		for numberOf(a)-numberOf(b) < n {
			a++
		}
		if numberOf(a)-numberOf(b) == n {
			lists = append(lists, []int{a, b})
		}
	}
	return lists
}

func dividedInTwo(n int) [][]int {
	var lists [][]int
	for a := 1; a <= n/a; a++ {
		if n%a == 0 {
			lists = append(lists, []int{a, n / a})
		}
	}
	return lists
}

func checkSquaresApart(t *testing.T, n int, want [][]int, valid bool) {
	t.Helper()
	lists, ok := impl.SquaresApart(n)
	wantLists(t, "SquaresApart", n, lists, ok, want, valid)
	count, ok := impl.CountSquaresApart(n)
	wantInt(t, "CountSquaresApart", n, 0, count, ok, len(want), valid)
}

func TestSquaresApart(t *testing.T) {
	for _, n := range runnedNumbers() {
		checkSquaresApart(t, n, numbersApart(n, square), true)
	}
	for n, want := range map[int][][]int{
		1:  {{1, 0}},
		2:  nil,
		3:  {{2, 1}},
		4:  {{2, 0}},
		8:  {{3, 1}},
		9:  {{3, 0}, {5, 4}},
		16: {{4, 0}, {5, 3}},
		24: {{5, 1}, {7, 5}},
		45: {{7, 2}, {9, 6}, {23, 22}},
	} {
		checkSquaresApart(t, n, want, true)
	}
	for _, n := range badRunned {
		checkSquaresApart(t, n, nil, false)
	}
}

// TestSquaresApartAreToldByFactors checks the promise: each list is told by two factors that are
// both odd or both even, their difference and their sum halved.
func TestSquaresApartAreToldByFactors(t *testing.T) {
	for _, n := range runnedNumbers() {
		told := 0
		for _, factors := range dividedInTwo(n) {
			if (factors[0]+factors[1])%2 == 0 {
				told++
			}
		}
		lists, ok := impl.SquaresApart(n)
		wantInt(t, "the number of SquaresApart", n, 0, len(lists), ok, told, true)
		for _, list := range lists {
			wantInt(t, "the product of the factors", list[0], list[1], (list[0]-list[1])*(list[0]+list[1]), ok, n, true)
		}
	}
	for _, n := range runnedEnds(2, 4) {
		checkSquaresApart(t, n, nil, true)
	}
}

func TestTrianglesApart(t *testing.T) {
	for _, n := range runnedNumbers() {
		lists, ok := impl.TrianglesApart(n)
		wantLists(t, "TrianglesApart", n, lists, ok, numbersApart(n, triangle), true)
		count, ok := impl.CountRuns(n)
		wantInt(t, "CountRuns", n, 0, count, ok, len(lists), true)
	}
	for n, want := range map[int][][]int{
		1:  {{1, 0}},
		2:  {{2, 1}},
		3:  {{2, 0}, {3, 2}},
		15: {{5, 0}, {6, 3}, {8, 6}, {15, 14}},
	} {
		lists, ok := impl.TrianglesApart(n)
		wantLists(t, "TrianglesApart", n, lists, ok, want, true)
	}
	for _, n := range badRunned {
		lists, ok := impl.TrianglesApart(n)
		wantLists(t, "TrianglesApart", n, lists, ok, nil, false)
	}
}

// checkRectangles checks that a call with n returns the rectangles, or that it fails if there
// are none.
func checkRectangles(t *testing.T, n int, want [][]int) {
	t.Helper()
	lists, ok := impl.RectanglesOf(n)
	wantLists(t, "RectanglesOf", n, lists, ok, want, want != nil)
	last := append([][]int{{0, 0}}, want...)[len(want)]
	a, b, ok := impl.MostSquareRectangle(n)
	wantPair(t, "MostSquareRectangle", n, a, b, ok, last[0], last[1], want != nil)
}

func TestRectangles(t *testing.T) {
	for _, n := range runnedNumbers() {
		checkRectangles(t, n, dividedInTwo(n))
	}
	checkRectangles(t, 1, [][]int{{1, 1}})
	checkRectangles(t, 2, [][]int{{1, 2}})
	checkRectangles(t, 12, [][]int{{1, 12}, {2, 6}, {3, 4}})
	checkRectangles(t, 16, [][]int{{1, 16}, {2, 8}, {4, 4}})
	checkRectangles(t, 999983, [][]int{{1, 999983}})
	a, b, ok := impl.MostSquareRectangle(mostRunned)
	wantPair(t, "MostSquareRectangle", mostRunned, a, b, ok, 1000, 1000, true)
	for _, n := range badRunned {
		checkRectangles(t, n, nil)
	}
}
