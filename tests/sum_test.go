package tests

import (
	"cmp"
	"slices"
	"testing"

	"loop.example/g01250/impl"
)

// The numbers are stated here once more, so that a changed limit is found.
const (
	mostSummed = 3000
	mostLists  = 300
)

// walkLists calls found with the lists of just so many places, from greatest down to least,
// falling or staying the same, whose numbers are left together, in order, until found is false.
func walkLists(numbers []int, left int, parts int, greatest int, least int, list []int, found func([]int) bool) bool {
	if parts == 0 {
		return left != 0 || found(slices.Clone(list))
	}
	for place := greatest; place >= least && parts*numbers[place] >= left; place-- {
		if numbers[place] <= left && !walkLists(numbers, left-numbers[place], parts-1, place, least, append(list, place), found) {
			return false
		}
	}
	return true
}

// walkedLists returns the first lists that walkLists finds, at most so many.
func walkedLists(sides int, n int, parts int, least int, most int) [][]int {
	numbers := piledNumbers(sides, n)
	var lists [][]int
	walkLists(numbers, n, parts, len(numbers)-1, least, nil, func(list []int) bool {
		lists = append(lists, list)
		return len(lists) < most
	})
	return lists
}

// layeredNeeds returns the fewest parts of the numbers 0..most: those of the numbers that are
// a polygonal number more than one that needs one part fewer.
func layeredNeeds(sides int, most int) []int {
	numbers := piledNumbers(sides, most)
	needs := make([]int, most+1)
	layer := []int{0}
	for need := 1; len(layer) > 0; need++ {
		var next []int
		for _, n := range layer {
			for _, number := range numbers[1:] {
				if sum := n + number; sum <= most && needs[sum] == 0 {
					needs[sum] = need
					next = append(next, sum)
				}
			}
		}
		layer = next
	}
	return needs
}

func sumOfPlaces(sides int, places []int) int {
	sum := 0
	for _, place := range places {
		sum += ((sides-2)*place*place - (sides-4)*place) / 2
	}
	return sum
}

func areFalling(places []int) bool {
	return slices.IsSortedFunc(places, func(a int, b int) int { return cmp.Compare(b, a) })
}

// sampledNumbers returns the numbers up to first, some of the others, and those next to the limit.
func sampledNumbers(first int, step int) []int {
	numbers := []int{mostSummed - 1, mostSummed}
	for n := 0; n < mostSummed; n++ {
		if n <= first || n%step == 0 {
			numbers = append(numbers, n)
		}
	}
	return numbers
}

func sameLists(a [][]int, b [][]int) bool {
	return slices.EqualFunc(a, b, slices.Equal[[]int])
}

func wantList[Item comparable](t *testing.T, call string, a int, b int, got []Item, ok bool, want []Item, wantOk bool) {
	t.Helper()
	if !slices.Equal(got, want) || ok != wantOk {
		t.Fatalf("%s of %d and %d is %v, %v, not %v, %v", call, a, b, got, ok, want, wantOk)
	}
}

// badSummed has sides and numbers of which at least one is invalid.
func badSummed() [][2]int {
	var bad [][2]int
	for _, sides := range badSides {
		bad = append(bad, [2]int{sides, 0}, [2]int{sides, 12}, [2]int{sides, mostSummed})
	}
	forAllSides(func(sides int) {
		bad = append(bad, [2]int{sides, -3}, [2]int{sides, -1}, [2]int{sides, mostSummed + 1})
	})
	return bad
}

func TestSumLimits(t *testing.T) {
	if impl.MaxSummed != mostSummed || impl.MaxLists != mostLists {
		t.Error("limits", impl.MaxSummed, impl.MaxLists)
	}
}

func TestSumExample(t *testing.T) {
	three, ok := impl.ThreeTriangles(12)
	wantList(t, "ThreeTriangles", 12, 0, three, ok, []int{4, 1, 1}, true)
	count, ok := impl.CountThreeTriangles(12)
	wantInt(t, "CountThreeTriangles", 12, 0, count, ok, 3, true)
	for _, c := range [][3]int{{3, 12, 2}, {4, 12, 3}, {4, 7, 4}} {
		need, ok := impl.FewestParts(c[0], c[1])
		wantInt(t, "FewestParts", c[0], c[1], need, ok, c[2], true)
	}
	fewest, ok := impl.FirstFewest(4, 12)
	wantList(t, "FirstFewest", 4, 12, fewest, ok, []int{2, 2, 2}, true)
	greedy, ok := impl.GreedyParts(4, 12)
	wantList(t, "GreedyParts", 4, 12, greedy, ok, []int{3, 1, 1, 1}, true)
	none, ok := impl.NoDifferentSum(3, 40)
	wantList(t, "NoDifferentSum", 3, 40, none, ok, []int{2, 5, 8, 12, 23, 33}, true)
}

func TestThreeTriangles(t *testing.T) {
	numbers := piledNumbers(3, mostSummed)
	first := map[int][]int{}
	counts := map[int]int{}
	for a := range numbers {
		for b := 0; b <= a; b++ {
			for c := 0; c <= b; c++ {
				sum := numbers[a] + numbers[b] + numbers[c]
				counts[sum]++
				first[sum] = []int{a, b, c} // the greatest one comes last
			}
		}
	}
	for n := 0; n <= mostSummed; n++ {
		got, ok := impl.ThreeTriangles(n)
		wantList(t, "ThreeTriangles", n, 0, got, ok, first[n], true)
		count, ok := impl.CountThreeTriangles(n)
		wantInt(t, "CountThreeTriangles", n, 0, count, ok, counts[n], true)
	}
	for _, n := range []int{-3, -1, mostSummed + 1, 3003} {
		got, ok := impl.ThreeTriangles(n)
		wantList(t, "ThreeTriangles", n, 0, got, ok, nil, false)
		count, ok := impl.CountThreeTriangles(n)
		wantInt(t, "CountThreeTriangles", n, 0, count, ok, 0, false)
	}
}

func TestFewestParts(t *testing.T) {
	forAllSides(func(sides int) {
		needs := layeredNeeds(sides, mostSummed)
		for _, n := range sampledNumbers(300, 7) {
			got, ok := impl.FewestParts(sides, n)
			wantInt(t, "FewestParts", sides, n, got, ok, needs[n], true)
			if got > sides {
				t.Fatal("more parts than sides", sides, n, got)
			}
		}
	})
	for _, bad := range badSummed() {
		got, ok := impl.FewestParts(bad[0], bad[1])
		wantInt(t, "FewestParts", bad[0], bad[1], got, ok, 0, false)
	}
}

func TestFirstFewest(t *testing.T) {
	forAllSides(func(sides int) {
		needs := layeredNeeds(sides, mostSummed)
		for _, n := range sampledNumbers(200, 41) {
			got, ok := impl.FirstFewest(sides, n)
			if !ok || len(got) != needs[n] || sumOfPlaces(sides, got) != n || !areFalling(got) || slices.Contains(got, 0) {
				t.Fatal("FirstFewest", sides, n, got, ok)
			}
			if n <= 200 || needs[n] <= 5 {
				wantList(t, "FirstFewest", sides, n, got, ok, walkedLists(sides, n, needs[n], 1, 1)[0], true)
			}
		}
		got, ok := impl.FirstFewest(sides, 0)
		wantList(t, "FirstFewest", sides, 0, got, ok, nil, true)
	})
	for _, bad := range badSummed() {
		got, ok := impl.FirstFewest(bad[0], bad[1])
		wantList(t, "FirstFewest", bad[0], bad[1], got, ok, nil, false)
	}
}

func TestGreedyParts(t *testing.T) {
	forAllSides(func(sides int) {
		numbers := piledNumbers(sides, mostSummed)
		for n := 0; n <= mostSummed; n++ {
			var want []int
			left := n
			for place := len(numbers) - 1; left > 0; place-- {
				for ; numbers[place] <= left; left -= numbers[place] {
					want = append(want, place)
				}
			}
			got, ok := impl.GreedyParts(sides, n)
			wantList(t, "GreedyParts", sides, n, got, ok, want, true)
		}
	})
	for _, bad := range badSummed() {
		got, ok := impl.GreedyParts(bad[0], bad[1])
		wantList(t, "GreedyParts", bad[0], bad[1], got, ok, nil, false)
	}
}

func TestAsManyAsSides(t *testing.T) {
	forAllSides(func(sides int) {
		for _, n := range sampledNumbers(200, 83) {
			got, ok := impl.AsManyAsSides(sides, n)
			wantList(t, "AsManyAsSides", sides, n, got, ok, walkedLists(sides, n, sides, 0, 1)[0], true)
			if len(got) != sides || sumOfPlaces(sides, got) != n || !areFalling(got) {
				t.Fatal("AsManyAsSides", sides, n, got, ok)
			}
		}
		got, ok := impl.AsManyAsSides(sides, 0)
		wantList(t, "AsManyAsSides", sides, 0, got, ok, make([]int, sides), true)
	})
	for _, bad := range badSummed() {
		got, ok := impl.AsManyAsSides(bad[0], bad[1])
		wantList(t, "AsManyAsSides", bad[0], bad[1], got, ok, nil, false)
	}
}

func TestNeeds(t *testing.T) {
	forAllSides(func(sides int) {
		needs := layeredNeeds(sides, mostSummed)
		// 2 s - 1 is the first number that needs as many parts as sides: s and s - 1 ones.
		for _, most := range []int{0, 1, sides - 1, sides, 2*sides - 2, 2*sides - 1, 2 * sides, 500, mostSummed - 1, mostSummed} {
			var want []int
			for n := 1; n <= most; n++ {
				if needs[n] == sides {
					want = append(want, n)
				}
			}
			got, ok := impl.NeedMost(sides, most)
			wantList(t, "NeedMost", sides, most, got, ok, want, true)
			greatest, ok := impl.GreatestNeed(sides, most)
			wantInt(t, "GreatestNeed", sides, most, greatest, ok, slices.Max(needs[:most+1]), true)
			if (len(got) > 0) != (most >= 2*sides-1) || (greatest == sides) != (most >= 2*sides-1) {
				t.Fatal("first number that needs most", sides, most, got, greatest)
			}
		}
	})
	for _, bad := range badSummed() {
		got, ok := impl.NeedMost(bad[0], bad[1])
		wantList(t, "NeedMost", bad[0], bad[1], got, ok, nil, false)
		greatest, ok := impl.GreatestNeed(bad[0], bad[1])
		wantInt(t, "GreatestNeed", bad[0], bad[1], greatest, ok, 0, false)
	}
}

// TestNeedsThatAreKnown checks numbers that theorems tell.
func TestNeedsThatAreKnown(t *testing.T) {
	var ofSquares []int
	for n := 1; n <= mostSummed; n++ {
		odd := n
		for odd%4 == 0 {
			odd /= 4
		}
		if odd%8 == 7 {
			ofSquares = append(ofSquares, n)
		}
	}
	for sides, want := range map[int][]int{4: ofSquares, 5: {9, 21, 31, 43, 55, 89}, 6: {11, 26}} {
		got, ok := impl.NeedMost(sides, mostSummed)
		wantList(t, "NeedMost", sides, mostSummed, got, ok, want, true)
	}
}
