package tests

import (
	"math"
	"slices"
	"testing"

	"loop.example/g01250/impl"
)

func areDifferent(a int, b int) bool {
	return isIn(a, 3, mostSides) && isIn(b, 3, mostSides) && a != b
}

// TestSharedCallsOfOneNumber calls every function of the chapter that takes one number with
// numbers of any size: none panics or runs long, and each succeeds just for those that it is
// told to take.
func TestSharedCallsOfOneNumber(t *testing.T) {
	inTime(t, func() {
		for _, n := range edgeInts(mostPairs, mostHexagons, mostPlace, mostShared, 1<<32, 1<<62) {
			isPair := isIn(n, 0, mostPairs)
			for name, call := range map[string]func(int) (int, int, bool){
				"TwicePair":            impl.TwicePair,
				"TriangleSquarePlaces": impl.TriangleSquarePlaces,
				"TwiceTriangle":        impl.TwiceTriangle,
			} {
				if a, b, ok := call(n); ok != isPair || !ok && (a != 0 || b != 0) || a < 0 || b < 0 {
					t.Error(name, n, a, b, ok)
				}
			}
			square, place, ok := impl.SquareOfOdd(n)
			if ok != isIn(n, 0, mostPlace) || !ok && (square != 0 || place != 0) {
				t.Error("SquareOfOdd", n, square, place, ok)
			}
			number, ok := impl.TriangleSquare(n)
			checkSolidNumber(t, "TriangleSquare", n, 0, number, ok, isPair)
			hexagons, ok := impl.HexagonsAre(n)
			checkSolidNumber(t, "HexagonsAre", n, 0, hexagons, ok, isIn(n, 1, mostHexagons))
			if right, ok := impl.NearRight(n); ok != isPair || (len(right) == 3) != ok || !ok && right != nil {
				t.Error("NearRight", n, right, ok)
			}
		}
	})
}

// TestSharedCallsOfAnySize calls the functions that take sides with numbers of any size.
func TestSharedCallsOfAnySize(t *testing.T) {
	sides := []int{math.MinInt, math.MinInt + 1, -1 << 32, -4, -1, 0, 1, 2, 3, 4, 6, mostSides - 1, mostSides, mostSides + 1, 1 << 32, 1<<32 + 3, math.MaxInt - 1, math.MaxInt}
	numbers := append(slices.Clone(sides), 36, 1225, mostSharedUpTo-1, mostSharedUpTo, mostSharedUpTo+1, mostShared-1, mostShared, mostShared+1, mostTested-1, mostTested, mostTested+1)
	inTime(t, func() {
		for _, a := range sides {
			for _, b := range sides {
				for _, n := range numbers {
					checkSharedCalls(t, a, b, n)
					checkThreeCalls(t, a, b, n, sides)
				}
			}
		}
	})
}

func checkSharedCalls(t *testing.T, a int, b int, n int) {
	are := areDifferent(a, b)
	list, ok := impl.SharedUpTo(a, b, n)
	if ok != (are && isIn(n, 0, mostSharedUpTo)) || (len(list) > 0) != ok || !ok && list != nil {
		t.Error("SharedUpTo", a, b, n, list, ok)
	}
	next, ok := impl.NextShared(a, b, n)
	if ok && (!are || !isIn(n, 0, mostShared) || !isIn(next, n+1, mostShared)) || !ok && next != 0 {
		t.Error("NextShared", a, b, n, next, ok)
	}
	is, isOk := impl.IsShared(a, b, n)
	if isOk != (are && isIn(n, 0, mostTested)) || is && !isOk {
		t.Error("IsShared", a, b, n, is, isOk)
	}
	placeOfA, placeOfB, ok := impl.PlacesShared(a, b, n)
	if ok != is || !ok && (placeOfA != 0 || placeOfB != 0) || placeOfA < 0 || placeOfB < 0 {
		t.Error("PlacesShared", a, b, n, placeOfA, placeOfB, ok)
	}
}

func checkThreeCalls(t *testing.T, a int, b int, n int, sides []int) {
	for _, c := range sides {
		list, ok := impl.SharedByThree(a, b, c, n)
		valid := areDifferent(a, b) && areDifferent(a, c) && areDifferent(b, c) && isIn(n, 0, mostSharedUpTo)
		if ok != valid || (len(list) > 0) != ok || !ok && list != nil {
			t.Error("SharedByThree", a, b, c, n, list, ok)
		}
	}
}

func TestGoOnByAnySize(t *testing.T) {
	edges := []int{math.MinInt, math.MinInt + 1, -1 << 32, -greatestOfRule - 1, -greatestOfRule, -greatestGoOn - 1, -greatestGoOn, -1, 0, 1, greatestGoOn, greatestGoOn + 1, mostGoOn, mostGoOn + 1, greatestOfRule, greatestOfRule + 1, 1 << 32, math.MaxInt - 1, math.MaxInt}
	isOfRule := func(n int) bool { return isIn(n, -greatestOfRule, greatestOfRule) }
	inTime(t, func() {
		for _, a := range edges {
			for _, b := range edges {
				for _, factor := range edges {
					for _, add := range edges {
						for _, count := range edges {
							list, ok := impl.GoOnBy(a, b, factor, add, count)
							valid := isOfRule(a) && isOfRule(b) && isOfRule(add) && isIn(factor, -greatestGoOn, greatestGoOn) && isIn(count, 0, mostGoOn)
							if ok != valid || !ok && list != nil || ok && len(list) != count {
								t.Fatal("GoOnBy", a, b, factor, add, count, list, ok)
							}
						}
					}
				}
			}
		}
	})
}

// TestRecurrenceOfAnyList has lists of any numbers and any length with room behind them: none is
// changed, nor is the room, and what is in the room does not count.
func TestRecurrenceOfAnyList(t *testing.T) {
	room := []int{7, -7, greatestListed, math.MaxInt}
	lists := [][]int{nil, {}, {0, 1, 36, 1225}, {4, 3, 2, 1}, {math.MinInt, math.MaxInt, math.MinInt, math.MaxInt}}
	for _, length := range []int{1, 2, 3, 4, 5, 19, 20, 21, 22, 1000, 1000000} {
		for _, n := range edgeInts(greatestOfRule, greatestListed, 1<<32, 1<<62) {
			lists = append(lists, slices.Repeat([]int{n}, min(length, 22+length/1000)))
		}
	}
	for _, n := range edgeInts(greatestListed, 1<<62) {
		for place := range 4 {
			list := []int{1, 2, 3, 4}
			list[place] = n
			lists = append(lists, list)
		}
	}
	inTime(t, func() {
		for _, list := range lists {
			checkAnyList(t, list, room)
		}
		checkAnyList(t, make([]int, 1000000), room)
	})
}

func checkAnyList(t *testing.T, list []int, room []int) {
	whole := slices.Concat(list, room)
	before := slices.Clone(whole)
	factor, add, ok := impl.RecurrenceOf(whole[:len(list)])
	wantFactor, wantAdd, wantOk := 0, 0, false
	isTooGreat := func(n int) bool { return !isIn(n, -greatestListed, greatestListed) }
	if isIn(len(list), leastListed, mostListed) && !slices.ContainsFunc(list, isTooGreat) {
		wantFactor, wantAdd, wantOk = tellRecurrence(list)
	}
	if factor != wantFactor || add != wantAdd || ok != wantOk {
		t.Errorf("RecurrenceOf of %.22v is %d, %d, %v, not %d, %d, %v", list, factor, add, ok, wantFactor, wantAdd, wantOk)
	}
	if !slices.Equal(whole, before) {
		t.Error("RecurrenceOf changed a list of the length", len(list))
	}
}

// TestSharedListsAreNew checks that a result that is changed changes no later one.
func TestSharedListsAreNew(t *testing.T) {
	checkListsAreNew(t, math.MaxInt, map[string]func() ([]int, bool){
		"SharedUpTo":    func() ([]int, bool) { return impl.SharedUpTo(3, 4, 2000) },
		"SharedByThree": func() ([]int, bool) { return impl.SharedByThree(3, 6, 10, 20000) },
		"NearRight":     func() ([]int, bool) { return impl.NearRight(2) },
		"GoOnBy":        func() ([]int, bool) { return impl.GoOnBy(0, 1, 6, 2, 12) },
	})
}
