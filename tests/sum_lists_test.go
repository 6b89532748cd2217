package tests

import (
	"math"
	"slices"
	"testing"

	"loop.example/g01250/impl"
)

const mostParts = 24

func checkSums(t *testing.T, sides int, n int, parts int) {
	t.Helper()
	want := walkedLists(sides, n, parts, 1, math.MaxInt)
	count, ok := impl.CountSums(sides, n, parts)
	wantInt(t, "CountSums", sides, n, count, ok, len(want), true)
	lists, ok := impl.AllSums(sides, n, parts)
	if len(want) > mostLists {
		if lists != nil || ok {
			t.Fatal("AllSums of more than MaxLists", sides, n, parts, len(lists), ok)
		}
	} else if !sameLists(lists, want) || !ok {
		t.Fatal("AllSums", sides, n, parts, lists, ok, want)
	}
}

func TestSums(t *testing.T) {
	forAllSides(func(sides int) {
		for parts := 0; parts <= mostParts; parts++ {
			for n := 0; n <= 48; n++ {
				checkSums(t, sides, n, parts)
			}
		}
		for parts := 0; parts <= 4; parts++ {
			for _, n := range []int{100, 150, 541, mostSummed - 1, mostSummed} {
				checkSums(t, sides, n, parts)
			}
		}
		checkSums(t, sides, mostParts, mostParts)
		checkSums(t, sides, mostParts*sides, mostParts)
	})
}

// TestSumsHaveTheirNumbers checks the promise: sums have their numbers, and no sum has fewer
// parts than the fewest one.
func TestSumsHaveTheirNumbers(t *testing.T) {
	forAllSides(func(sides int) {
		for n := 0; n <= mostSummed; n += 1 + n/4 {
			fewest, _ := impl.FewestParts(sides, n)
			first, _ := impl.FirstFewest(sides, n)
			for parts := 0; parts <= mostParts; parts++ {
				count, _ := impl.CountSums(sides, n, parts)
				if parts < fewest && count != 0 || parts == fewest && count == 0 {
					t.Fatal("sums of", parts, "parts", sides, n, count, fewest)
				}
				lists, ok := impl.AllSums(sides, n, parts)
				if ok != (count <= mostLists) || ok && len(lists) != count {
					t.Fatal("AllSums and CountSums", sides, n, parts, len(lists), ok, count)
				}
				if ok && parts == fewest && !slices.Equal(lists[0], first) {
					t.Fatal("FirstFewest", sides, n, first, lists)
				}
				checkLists(t, sides, n, parts, lists)
			}
		}
	})
}

func checkLists(t *testing.T, sides int, n int, parts int, lists [][]int) {
	t.Helper()
	for i, list := range lists {
		are, ok := impl.AreParts(sides, list)
		if !are || !ok || len(list) != parts || sumOfPlaces(sides, list) != n {
			t.Fatal("no sum", sides, n, parts, list)
		}
		if i > 0 && slices.Compare(lists[i-1], list) <= 0 {
			t.Fatal("out of order", sides, n, parts, lists[i-1], list)
		}
	}
}

// TestSumsOfMaxLists has numbers with just MaxLists lists, and with one more.
func TestSumsOfMaxLists(t *testing.T) {
	for _, c := range [][4]int{{3, 2236, 4, 300}, {3, 541, 5, 300}, {4, 1539, 5, 300}, {4, 2697, 5, 300}, {3, 2302, 4, 301}, {3, 2907, 4, 301}, {3, 565, 5, 301}, {4, 1679, 5, 301}, {3, 103, 24, 301}} {
		checkSums(t, c[0], c[1], c[2])
		count, ok := impl.CountSums(c[0], c[1], c[2])
		wantInt(t, "CountSums", c[0], c[1], count, ok, c[3], true)
		lists, ok := impl.AllSums(c[0], c[1], c[2])
		if ok != (c[3] == mostLists) || len(lists) != c[3]%301 {
			t.Error("AllSums", c, len(lists), ok)
		}
	}
}

func TestSumsOfManyLists(t *testing.T) {
	count, ok := impl.CountSums(3, mostSummed, mostParts)
	wantInt(t, "CountSums", 3, mostSummed, count, ok, 1297409131850, true)
	if lists, ok := impl.AllSums(3, mostSummed, mostParts); lists != nil || ok {
		t.Error("AllSums", len(lists), ok)
	}
}

// TestSumsOfNothing checks that 0 has the list of no parts, and that where there are no lists
// there are none of them, which is no failure.
func TestSumsOfNothing(t *testing.T) {
	forAllSides(func(sides int) {
		lists, ok := impl.AllSums(sides, 0, 0)
		if !ok || len(lists) != 1 || len(lists[0]) != 0 {
			t.Error("AllSums of 0", sides, lists, ok)
		}
		count, ok := impl.CountSums(sides, 0, 0)
		wantInt(t, "CountSums", sides, 0, count, ok, 1, true)
		for _, c := range [][2]int{{0, 1}, {0, mostParts}, {1, 0}, {mostSummed, 0}, {1, 2}, {2, 1}, {23, 24}} {
			lists, ok := impl.AllSums(sides, c[0], c[1])
			if !ok || len(lists) != 0 {
				t.Error("AllSums", sides, c, lists, ok)
			}
			count, ok := impl.CountSums(sides, c[0], c[1])
			wantInt(t, "CountSums", sides, c[0], count, ok, 0, true)
		}
	})
}

func TestSumsFail(t *testing.T) {
	fails := func(sides int, n int, parts int) {
		lists, ok := impl.AllSums(sides, n, parts)
		if lists != nil || ok {
			t.Fatal("AllSums", sides, n, parts, lists, ok)
		}
		count, ok := impl.CountSums(sides, n, parts)
		wantInt(t, "CountSums", sides, n, count, ok, 0, false)
	}
	for _, bad := range badSummed() {
		fails(bad[0], bad[1], 0)
		fails(bad[0], bad[1], 3)
	}
	forAllSides(func(sides int) {
		for _, parts := range []int{-24, -1, mostParts + 1, 100} {
			fails(sides, 0, parts)
			fails(sides, 25, parts)
			fails(sides, mostSummed, parts)
		}
	})
}

// walkDifferent calls found with the lists of different places, none greater than greatest,
// whose numbers are left together, in order, until found is false.
func walkDifferent(numbers []int, left int, greatest int, list []int, found func([]int) bool) bool {
	if left == 0 {
		return found(slices.Clone(list))
	}
	for place := greatest; place > 0 && place*numbers[place] >= left; place-- {
		if numbers[place] <= left && !walkDifferent(numbers, left-numbers[place], place-1, append(list, place), found) {
			return false
		}
	}
	return true
}

func checkDifferent(t *testing.T, sides int, n int) {
	t.Helper()
	numbers := piledNumbers(sides, n)
	var lists [][]int
	walkDifferent(numbers, n, len(numbers)-1, nil, func(list []int) bool {
		lists = append(lists, list)
		return true
	})
	var want []int
	if len(lists) > 0 {
		want = lists[0]
	}
	count, ok := impl.CountDifferentSums(sides, n)
	wantInt(t, "CountDifferentSums", sides, n, count, ok, len(lists), true)
	first, ok := impl.FirstDifferentSum(sides, n)
	wantList(t, "FirstDifferentSum", sides, n, first, ok, want, len(lists) > 0)
}

func TestDifferentSums(t *testing.T) {
	forAllSides(func(sides int) {
		for n := 0; n <= 200; n++ {
			checkDifferent(t, sides, n)
		}
		// 25 different triangular numbers have 2925, which is the greatest number of parts.
		for _, n := range []int{2925, mostSummed - 1, mostSummed} {
			if sides > 6 {
				checkDifferent(t, sides, n)
			}
			first, ok := impl.FirstDifferentSum(sides, n)
			if ok && (sumOfPlaces(sides, first) != n || !areFalling(first) || len(slices.Compact(slices.Clone(first))) != len(first)) {
				t.Fatal("FirstDifferentSum", sides, n, first)
			}
		}
		first, ok := impl.FirstDifferentSum(sides, 2)
		wantList(t, "FirstDifferentSum", sides, 2, first, ok, nil, false)
		first, ok = impl.FirstDifferentSum(sides, 0)
		wantList(t, "FirstDifferentSum", sides, 0, first, ok, nil, true)
		count, ok := impl.CountDifferentSums(sides, 0)
		wantInt(t, "CountDifferentSums", sides, 0, count, ok, 1, true)
	})
	// Numbers where a greater place could begin a list only if it might be taken twice.
	for _, c := range [][2]int{{8, 491}, {8, 972}, {9, 1092}, {10, 622}, {11, 520}} {
		checkDifferent(t, c[0], c[1])
	}
	for _, bad := range badSummed() {
		count, ok := impl.CountDifferentSums(bad[0], bad[1])
		wantInt(t, "CountDifferentSums", bad[0], bad[1], count, ok, 0, false)
		first, ok := impl.FirstDifferentSum(bad[0], bad[1])
		wantList(t, "FirstDifferentSum", bad[0], bad[1], first, ok, nil, false)
		none, ok := impl.NoDifferentSum(bad[0], bad[1])
		wantList(t, "NoDifferentSum", bad[0], bad[1], none, ok, nil, false)
	}
}

// TestManyDifferentSums counts up to MaxSummed with the numbers taken one after the other.
func TestManyDifferentSums(t *testing.T) {
	forAllSides(func(sides int) {
		ways := make([]int, mostSummed+1)
		ways[0] = 1
		for _, number := range piledNumbers(sides, mostSummed)[1:] {
			for n := mostSummed; n >= number; n-- {
				ways[n] += ways[n-number]
			}
		}
		for _, most := range []int{0, 1, 2, 3, 40, 500, mostSummed - 1, mostSummed} {
			var want []int
			for n := 0; n <= most; n++ {
				if ways[n] == 0 {
					want = append(want, n)
				}
			}
			none, ok := impl.NoDifferentSum(sides, most)
			wantList(t, "NoDifferentSum", sides, most, none, ok, want, true)
		}
		for _, n := range sampledNumbers(0, 61) {
			count, ok := impl.CountDifferentSums(sides, n)
			wantInt(t, "CountDifferentSums", sides, n, count, ok, ways[n], true)
			if _, ok := impl.FirstDifferentSum(sides, n); ok != (ways[n] > 0) {
				t.Fatal("FirstDifferentSum", sides, n, ok)
			}
		}
	})
	ofSquares := []int{2, 3, 6, 7, 8, 11, 12, 15, 18, 19, 22, 23, 24, 27, 28, 31, 32, 33, 43, 44, 47, 48, 60, 67, 72, 76, 92, 96, 108, 112, 128}
	for sides, want := range map[int][]int{3: {2, 5, 8, 12, 23, 33}, 4: ofSquares} {
		none, ok := impl.NoDifferentSum(sides, mostSummed)
		wantList(t, "NoDifferentSum", sides, mostSummed, none, ok, want, true)
	}
}

func checkTwoShapes(t *testing.T, a int, b int, n int) {
	t.Helper()
	count, last := 0, [2]int{}
	for j, first := range piledNumbers(a, n) {
		for k, second := range piledNumbers(b, n) {
			if first+second == n {
				count++
				last = [2]int{j, k}
			}
		}
	}
	got, ok := impl.CountTwoShapes(a, b, n)
	if got != count || !ok {
		t.Fatal("CountTwoShapes", a, b, n, got, ok, count)
	}
	j, k, ok := impl.TwoShapes(a, b, n)
	if j != last[0] || k != last[1] || ok != (count > 0) {
		t.Fatal("TwoShapes", a, b, n, j, k, ok, last)
	}
}

func TestTwoShapes(t *testing.T) {
	forAllSides(func(a int) {
		forAllSides(func(b int) {
			for n := 0; n <= mostSummed; n += 1 + n/20 {
				checkTwoShapes(t, a, b, n)
			}
			checkTwoShapes(t, a, b, mostSummed-1)
			checkTwoShapes(t, a, b, mostSummed)
		})
	})
	for n := 0; n <= mostSummed; n++ {
		checkTwoShapes(t, 3, 3, n)
		checkTwoShapes(t, 4, 3, n)
		checkTwoShapes(t, 3, 4, n)
	}
	// 10 and 0, 9 and 1, or 6 and 4 are 10; no two squares are 7.
	for _, c := range [][5]int{{3, 4, 10, 4, 0}, {4, 3, 10, 3, 1}, {3, 3, 0, 0, 0}, {24, 24, 1, 1, 0}} {
		if j, k, ok := impl.TwoShapes(c[0], c[1], c[2]); j != c[3] || k != c[4] || !ok {
			t.Error("TwoShapes", c, j, k, ok)
		}
	}
	if j, k, ok := impl.TwoShapes(4, 4, 7); j != 0 || k != 0 || ok {
		t.Error("TwoShapes of two squares", j, k, ok)
	}
}

func TestTwoShapesFails(t *testing.T) {
	fails := func(a int, b int, n int) {
		if j, k, ok := impl.TwoShapes(a, b, n); j != 0 || k != 0 || ok {
			t.Fatal("TwoShapes", a, b, n, j, k, ok)
		}
		if count, ok := impl.CountTwoShapes(a, b, n); count != 0 || ok {
			t.Fatal("CountTwoShapes", a, b, n, count, ok)
		}
	}
	for _, bad := range badSummed() {
		fails(bad[0], bad[0], bad[1])
		fails(bad[0], 4, bad[1])
		fails(4, bad[0], bad[1])
	}
}

func TestAreParts(t *testing.T) {
	for _, c := range []struct {
		parts []int
		want  bool
	}{
		{nil, true}, {[]int{}, true}, {[]int{1}, true}, {[]int{1000}, true}, {[]int{0}, false}, {[]int{1001}, false}, {[]int{-1}, false},
		{[]int{4, 1, 1}, true}, {[]int{4, 4, 4}, true}, {[]int{1, 4}, false}, {[]int{4, 1, 2}, false}, {[]int{4, 1, 0}, false},
		{[]int{1000, 1000, 1}, true}, {[]int{1001, 1000}, false}, {[]int{1000, 1001}, false}, {[]int{3, 2, -1}, false},
		{slices.Repeat([]int{1}, 100), true}, {slices.Repeat([]int{1000}, 100), true}, {slices.Repeat([]int{0}, 100), false},
		{append(slices.Repeat([]int{2}, 99), 3), false}, {append(slices.Repeat([]int{2}, 99), 1), true},
	} {
		forAllSides(func(sides int) {
			if are, ok := impl.AreParts(sides, c.parts); are != c.want || !ok {
				t.Error("AreParts", sides, c.parts, are, ok)
			}
		})
	}
}

func TestArePartsFails(t *testing.T) {
	for _, parts := range [][]int{slices.Repeat([]int{1}, 101), slices.Repeat([]int{0}, 101), make([]int, 100000)} {
		if are, ok := impl.AreParts(3, parts); are || ok {
			t.Error("AreParts of a long list", len(parts), are, ok)
		}
	}
	for _, sides := range badSides {
		for _, parts := range [][]int{nil, {1}, {0}} {
			if are, ok := impl.AreParts(sides, parts); are || ok {
				t.Error("AreParts", sides, parts, are, ok)
			}
		}
	}
}
