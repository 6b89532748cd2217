package tests

import (
	"math"
	"slices"
	"testing"

	"loop.example/g01250/impl"
)

func isSummed(sides int, n int) bool {
	return isIn(sides, 3, mostSides) && isIn(n, 0, mostSummed)
}

// TestSumCallsOfAnySize calls every function of the chapter that takes numbers with ones of any
// size: none panics or runs long, and each succeeds just for those that it is told to take, or
// for fewer where it fails if there is none.
func TestSumCallsOfAnySize(t *testing.T) {
	edges := edgeInts(mostSummed, 1<<32, 1<<62)
	inTime(t, func() {
		for _, a := range edges {
			three, ok := impl.ThreeTriangles(a)
			count, countOk := impl.CountThreeTriangles(a)
			if valid := isSummed(3, a); ok != valid || countOk != valid || !valid && (three != nil || count != 0) {
				t.Error("three triangles", a, three, ok, count, countOk)
			}
			for _, b := range edges {
				checkSumNumberCalls(t, a, b)
				checkSumListCalls(t, a, b)
			}
		}
	})
}

func checkSumNumberCalls(t *testing.T, sides int, n int) {
	calls := map[string]func(int, int) (int, bool){
		"FewestParts":        impl.FewestParts,
		"GreatestNeed":       impl.GreatestNeed,
		"CountDifferentSums": impl.CountDifferentSums,
	}
	for name, call := range calls {
		got, ok := call(sides, n)
		if ok != isSummed(sides, n) || !ok && got != 0 || got < 0 {
			t.Error(name, sides, n, got, ok)
		}
	}
}

func checkSumListCalls(t *testing.T, sides int, n int) {
	calls := map[string]func(int, int) ([]int, bool){
		"FirstFewest":    impl.FirstFewest,
		"GreedyParts":    impl.GreedyParts,
		"AsManyAsSides":  impl.AsManyAsSides,
		"NeedMost":       impl.NeedMost,
		"NoDifferentSum": impl.NoDifferentSum,
	}
	for name, call := range calls {
		got, ok := call(sides, n)
		if ok != isSummed(sides, n) || !ok && got != nil {
			t.Error(name, sides, n, got, ok)
		}
	}
	got, ok := impl.FirstDifferentSum(sides, n)
	if ok && !isSummed(sides, n) || !ok && got != nil {
		t.Error("FirstDifferentSum", sides, n, got, ok)
	}
}

func TestSumCallsOfThreeNumbers(t *testing.T) {
	edges := []int{math.MinInt, math.MinInt + 1, -1 << 32, -mostSummed, -mostParts, -1, 0, 1, 2, 3, 4, 13, mostParts - 1, mostParts, mostParts + 1, 100, mostSummed - 1, mostSummed, mostSummed + 1, math.MaxInt32, 1 << 32, 1<<32 + 3, math.MaxInt - 1, math.MaxInt}
	inTime(t, func() {
		for _, a := range edges {
			for _, b := range edges {
				for _, c := range edges {
					checkSumPartsCalls(t, a, b, c)
					checkSumShapesCalls(t, a, b, c)
				}
			}
		}
	})
}

func checkSumPartsCalls(t *testing.T, sides int, n int, parts int) {
	valid := isSummed(sides, n) && isIn(parts, 0, mostParts)
	lists, ok := impl.AllSums(sides, n, parts)
	if ok && !valid || !ok && lists != nil || len(lists) > mostLists {
		t.Error("AllSums", sides, n, parts, len(lists), ok)
	}
	count, countOk := impl.CountSums(sides, n, parts)
	if countOk != valid || !countOk && count != 0 || count < 0 || valid && ok != (count <= mostLists) {
		t.Error("CountSums", sides, n, parts, count, countOk, ok)
	}
}

func checkSumShapesCalls(t *testing.T, a int, b int, n int) {
	valid := isSummed(a, n) && isSummed(b, n)
	j, k, ok := impl.TwoShapes(a, b, n)
	count, countOk := impl.CountTwoShapes(a, b, n)
	if countOk != valid || !countOk && count != 0 || ok != (count > 0) || !ok && (j != 0 || k != 0) {
		t.Error("two shapes", a, b, n, j, k, ok, count, countOk)
	}
}

// TestArePartsOfAnyList has lists of any numbers and any length with room behind them: none is
// changed, nor is the room, and what is in the room does not count.
func TestArePartsOfAnyList(t *testing.T) {
	room := []int{7, -7, 1001, math.MaxInt}
	lists := [][]int{nil, {}, {math.MinInt}, {math.MaxInt}, {math.MaxInt, math.MinInt}, {math.MinInt, math.MaxInt}, {1000, math.MinInt}, {5, 3, 3, 1}, {1, 3, 5}}
	for _, length := range []int{1, 2, 99, 100, 101, 102, 1000, 1000000} {
		for _, number := range []int{math.MinInt, -1, 0, 1, 1000, 1001, math.MaxInt} {
			lists = append(lists, slices.Repeat([]int{number}, length))
		}
	}
	inTime(t, func() {
		for _, list := range lists {
			whole := slices.Concat(list, room)
			before := slices.Clone(whole)
			for _, sides := range edgeInts(mostSummed) {
				valid := isIn(sides, 3, mostSides) && len(list) <= 100
				want := valid && areFalling(list) && !slices.ContainsFunc(list, func(place int) bool { return !isIn(place, 1, 1000) })
				if are, ok := impl.AreParts(sides, whole[:len(list)]); are != want || ok != valid {
					t.Errorf("AreParts of %d and %.99v is %v, %v", sides, list, are, ok)
				}
			}
			if !slices.Equal(whole, before) {
				t.Error("AreParts changed a list of the length", len(list))
			}
		}
	})
}

// TestSumListsAreNew checks that a result that is changed changes no later one, and that the
// lists of one result share no memory.
func TestSumListsAreNew(t *testing.T) {
	checkListsAreNew(t, math.MaxInt, map[string]func() ([]int, bool){
		"ThreeTriangles":    func() ([]int, bool) { return impl.ThreeTriangles(12) },
		"FirstFewest":       func() ([]int, bool) { return impl.FirstFewest(4, 12) },
		"GreedyParts":       func() ([]int, bool) { return impl.GreedyParts(4, 12) },
		"AsManyAsSides":     func() ([]int, bool) { return impl.AsManyAsSides(4, 12) },
		"NeedMost":          func() ([]int, bool) { return impl.NeedMost(4, 40) },
		"FirstDifferentSum": func() ([]int, bool) { return impl.FirstDifferentSum(3, 40) },
		"NoDifferentSum":    func() ([]int, bool) { return impl.NoDifferentSum(3, 40) },
	})
	checkTablesAreNew(t, map[string]func() ([][]int, bool){
		"AllSums": func() ([][]int, bool) { return impl.AllSums(3, 60, 4) },
	})
}
