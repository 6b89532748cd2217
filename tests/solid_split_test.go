package tests

import (
	"math"
	"slices"
	"testing"

	"loop.example/g01250/impl"
)

const mostTetrahedra = 5

var badSplit = []int{-mostSplit, -10, -4, -1, mostSplit + 1, mostSplit + 2, 1540}

// walkedSplits returns all lists of layers of just so many tetrahedra that are n together.
func walkedSplits(n int, parts int) [][]int {
	// The tetrahedron of 20 layers, of 1540 dots, is the first one greater than MaxSplit.
	tetrahedra := piledPyramids(3, 20)
	var lists [][]int
	walkLists(tetrahedra, n, parts, len(tetrahedra)-1, 1, nil, func(list []int) bool {
		lists = append(lists, list)
		return true
	})
	return lists
}

// TestSplits checks each number against all lists of its parts: no list is shorter than the
// first one of the fewest parts, and there are as many as are counted.
func TestSplits(t *testing.T) {
	for n := 0; n <= mostSplit; n++ {
		fewest := -1
		for parts := 0; parts <= mostTetrahedra; parts++ {
			lists := walkedSplits(n, parts)
			count, ok := impl.CountTetrahedra(n, parts)
			wantInt(t, "CountTetrahedra", n, parts, count, ok, len(lists), true)
			if len(lists) > 0 && fewest < 0 {
				fewest = parts
				got, ok := impl.FewestTetrahedra(n)
				wantInt(t, "FewestTetrahedra", n, 0, got, ok, parts, true)
				first, ok := impl.FirstTetrahedra(n)
				wantList(t, "FirstTetrahedra", n, 0, first, ok, lists[0], true)
			}
		}
		if fewest < 0 {
			t.Fatal("no parts", n)
		}
	}
}

// TestSplitsHaveTheirNumbers adds the parts up again.
func TestSplitsHaveTheirNumbers(t *testing.T) {
	for n := 0; n <= mostSplit; n++ {
		parts, ok := impl.FirstTetrahedra(n)
		sum := 0
		for _, layers := range parts {
			dots, _ := impl.PyramidNumber(3, layers)
			sum += dots
		}
		fewest, fewestOk := impl.FewestTetrahedra(n)
		if sum != n || len(parts) != fewest || fewest > mostTetrahedra || !areFalling(parts) || slices.Contains(parts, 0) || !ok || !fewestOk {
			t.Fatal("parts", n, parts, fewest)
		}
	}
}

func TestSplitsThatAreKnown(t *testing.T) {
	var needMost []int
	for n := 0; n <= 300; n++ {
		if fewest, _ := impl.FewestTetrahedra(n); fewest == mostTetrahedra {
			needMost = append(needMost, n)
		}
	}
	want := []int{17, 27, 33, 52, 73, 82, 83, 103, 107, 137, 153, 162, 217, 219, 227, 237, 247, 258, 268, 271, 282, 283}
	if !slices.Equal(needMost, want) {
		t.Error("numbers that need five", needMost)
	}
	// 40 is 20 and 20; 35, 4 and 1; 20, 10 and 10; and four times 10.
	first, ok := impl.FirstTetrahedra(40)
	wantList(t, "FirstTetrahedra", 40, 0, first, ok, []int{4, 4}, true)
	for parts, want := range []int{0, 0, 1, 2, 1, 0} {
		got, ok := impl.CountTetrahedra(40, parts)
		wantInt(t, "CountTetrahedra", 40, parts, got, ok, want, true)
	}
	first, ok = impl.FirstTetrahedra(1330)
	wantList(t, "FirstTetrahedra", 1330, 0, first, ok, []int{19}, true)
}

// TestSplitsOfNothing has 0, which has the list of no parts and no other.
func TestSplitsOfNothing(t *testing.T) {
	fewest, ok := impl.FewestTetrahedra(0)
	wantInt(t, "FewestTetrahedra", 0, 0, fewest, ok, 0, true)
	first, ok := impl.FirstTetrahedra(0)
	wantList(t, "FirstTetrahedra", 0, 0, first, ok, nil, true)
	for parts, want := range []int{1, 0, 0, 0, 0, 0} {
		got, ok := impl.CountTetrahedra(0, parts)
		wantInt(t, "CountTetrahedra", 0, parts, got, ok, want, true)
	}
	got, ok := impl.CountTetrahedra(mostSplit, 0)
	wantInt(t, "CountTetrahedra", mostSplit, 0, got, ok, 0, true)
}

func TestSplitsFail(t *testing.T) {
	for _, n := range badSplit {
		fewest, ok := impl.FewestTetrahedra(n)
		wantInt(t, "FewestTetrahedra", n, 0, fewest, ok, 0, false)
		first, ok := impl.FirstTetrahedra(n)
		wantList(t, "FirstTetrahedra", n, 0, first, ok, nil, false)
		for parts := 0; parts <= mostTetrahedra; parts++ {
			count, ok := impl.CountTetrahedra(n, parts)
			wantInt(t, "CountTetrahedra", n, parts, count, ok, 0, false)
		}
	}
	for _, parts := range []int{math.MinInt, -mostTetrahedra, -1, mostTetrahedra + 1, mostTetrahedra + 2, 100} {
		for _, n := range []int{0, 1, 17, mostSplit} {
			count, ok := impl.CountTetrahedra(n, parts)
			wantInt(t, "CountTetrahedra", n, parts, count, ok, 0, false)
		}
	}
}
