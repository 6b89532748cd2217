package tests

import (
	"slices"
	"testing"

	"loop.example/g01250/impl"
)

// The numbers are stated here once more, so that a changed limit is found.
const (
	mostShared     = 1000000000
	mostSharedUpTo = 1000000
)

var badShared = []int{-mostShared, -1225, -2, -1, mostShared + 1, mostShared + 2, mostTested}

var badSharedUpTo = []int{-mostSharedUpTo, -36, -2, -1, mostSharedUpTo + 1, mostSharedUpTo + 2, mostShared}

// inBoth returns the numbers that two increasing lists have in common.
func inBoth(a []int, b []int) []int {
	var both []int
	at := 0
	for _, n := range a {
		for at < len(b) && b[at] < n {
			at++
		}
		if at < len(b) && b[at] == n {
			both = append(both, n)
		}
	}
	return both
}

// upTo returns the numbers of an increasing list that are at most most.
func upTo(numbers []int, most int) []int {
	beyond, _ := slices.BinarySearch(numbers, most+1)
	return numbers[:beyond]
}

// piledBySides returns the polygonal numbers up to most of all sides.
func piledBySides(most int) map[int][]int {
	piled := map[int][]int{}
	forAllSides(func(sides int) { piled[sides] = upTo(piledNumbers(sides, most), most) })
	return piled
}

func forDifferentSides(check func(a int, b int)) {
	forAllSides(func(a int) {
		forAllSides(func(b int) {
			if a != b {
				check(a, b)
			}
		})
	})
}

// forBadPairs calls check with sides that are no two different ones.
func forBadPairs(check func(a int, b int)) {
	forAllSides(func(sides int) {
		check(sides, sides)
		for _, bad := range badSides {
			check(bad, sides)
			check(sides, bad)
			check(bad, bad)
		}
	})
}

func TestSharedLimits(t *testing.T) {
	if impl.MaxShared != mostShared {
		t.Error("limit", impl.MaxShared)
	}
}

func TestSharedExample(t *testing.T) {
	numbers, ok := impl.SharedUpTo(3, 4, 2000)
	wantList(t, "SharedUpTo", 3, 4, numbers, ok, []int{0, 1, 36, 1225}, true)
	checkRecurrence(t, numbers, 34, 2, true)
	x, y, ok := impl.TwicePair(3)
	wantPair(t, "TwicePair", 3, x, y, ok, 7, 5, true)
	n, ok := impl.TriangleSquare(3)
	wantInt(t, "TriangleSquare", 3, 0, n, ok, 35*35, true)
	triangle, square, ok := impl.TriangleSquarePlaces(3)
	wantPair(t, "TriangleSquarePlaces", 3, triangle, square, ok, 49, 35, true)
	next, ok := impl.NextShared(3, 5, 1)
	wantInt(t, "NextShared", 3, 5, next, ok, 210, true)
	right, ok := impl.NearRight(2)
	wantList(t, "NearRight", 2, 0, right, ok, []int{20, 21, 29}, true)
}

func TestSharedUpTo(t *testing.T) {
	piled := piledBySides(mostSharedUpTo)
	forDifferentSides(func(a int, b int) {
		shared := inBoth(piled[a], piled[b])
		mosts := []int{0, 1, 2, 100, 2000, mostSharedUpTo - 1, mostSharedUpTo}
		for _, n := range shared[2:min(len(shared), 9)] {
			mosts = append(mosts, n-1, n, n+1)
		}
		for _, most := range mosts {
			got, ok := impl.SharedUpTo(a, b, most)
			wantList(t, "SharedUpTo", a, b, got, ok, upTo(shared, most), true)
		}
		for _, most := range badSharedUpTo {
			got, ok := impl.SharedUpTo(a, b, most)
			wantList(t, "SharedUpTo", a, b, got, ok, nil, false)
		}
	})
	forBadPairs(func(a int, b int) {
		for _, most := range []int{0, 1, 2000, mostSharedUpTo} {
			got, ok := impl.SharedUpTo(a, b, most)
			wantList(t, "SharedUpTo", a, b, got, ok, nil, false)
		}
	})
}

// TestSharedThatAreKnown has lists that are known from elsewhere. A triangular number is
// hexagonal just for odd places.
func TestSharedThatAreKnown(t *testing.T) {
	for sides, want := range map[[2]int][]int{
		{3, 4}: {0, 1, 36, 1225, 41616},
		{3, 5}: {0, 1, 210, 40755},
		{4, 5}: {0, 1, 9801},
		{3, 7}: {0, 1, 55, 121771},
		{4, 6}: {0, 1, 1225},
		{5, 6}: {0, 1, 40755},
		{3, 8}: {0, 1, 21, 11781, 203841},
	} {
		got, ok := impl.SharedUpTo(sides[0], sides[1], mostSharedUpTo)
		wantList(t, "SharedUpTo", sides[0], sides[1], got, ok, want, true)
		got, ok = impl.SharedUpTo(sides[1], sides[0], mostSharedUpTo)
		wantList(t, "SharedUpTo", sides[1], sides[0], got, ok, want, true)
	}
	for most, want := range map[int][]int{0: {0}, 1: {0, 1}, 5: {0, 1}, 6: {0, 1, 6}, 45: {0, 1, 6, 15, 28, 45}} {
		got, ok := impl.SharedUpTo(3, 6, most)
		wantList(t, "SharedUpTo", 3, 6, got, ok, want, true)
	}
}

func TestNextShared(t *testing.T) {
	piled := piledBySides(mostShared)
	forDifferentSides(func(a int, b int) {
		shared := inBoth(piled[a], piled[b])
		for i, n := range shared[:min(len(shared), 300)] {
			want, found := 0, i+1 < len(shared)
			if found {
				want = shared[i+1]
				got, ok := impl.NextShared(a, b, want-1)
				wantInt(t, "NextShared", a, b, got, ok, want, true)
			}
			got, ok := impl.NextShared(a, b, n)
			wantInt(t, "NextShared", a, b, got, ok, want, found)
		}
		last := shared[len(shared)-1]
		got, ok := impl.NextShared(a, b, last-1)
		wantInt(t, "NextShared", a, b, got, ok, last, true)
		for _, n := range append([]int{last, last + 1, mostShared - 1, mostShared}, badShared...) {
			got, ok := impl.NextShared(a, b, n)
			wantInt(t, "NextShared", a, b, got, ok, 0, false)
		}
	})
	forBadPairs(func(a int, b int) {
		for _, n := range []int{0, 1, 36, mostShared} {
			got, ok := impl.NextShared(a, b, n)
			wantInt(t, "NextShared", a, b, got, ok, 0, false)
		}
	})
}

// TestNextSharedAtMaxShared has the hexagonal numbers nearest to MaxShared, one on each side:
// all of them are triangular.
func TestNextSharedAtMaxShared(t *testing.T) {
	const last, beyond = 999916840, 1000006281
	got, ok := impl.NextShared(3, 6, last-1)
	wantInt(t, "NextShared", 3, 6, got, ok, last, true)
	got, ok = impl.NextShared(3, 6, last)
	wantInt(t, "NextShared", 3, 6, got, ok, 0, false)
	if is, ok := impl.IsShared(3, 6, beyond); !is || !ok {
		t.Error("IsShared", beyond, is, ok)
	}
}

func checkShared(t *testing.T, a int, b int, n int, placeOfA int, placeOfB int, shared bool) {
	t.Helper()
	is, ok := impl.IsShared(a, b, n)
	if is != shared || !ok {
		t.Fatal("IsShared", a, b, n, is, ok, shared)
	}
	gotA, gotB, ok := impl.PlacesShared(a, b, n)
	if gotA != placeOfA || gotB != placeOfB || ok != shared {
		t.Fatal("PlacesShared", a, b, n, gotA, gotB, ok, placeOfA, placeOfB, shared)
	}
}

func TestSharedSmallNumbers(t *testing.T) {
	piled := piledBySides(1500)
	forDifferentSides(func(a int, b int) {
		for n := 0; n <= 1500; n++ {
			placeOfA, isOfA := slices.BinarySearch(piled[a], n)
			placeOfB, isOfB := slices.BinarySearch(piled[b], n)
			if !isOfA || !isOfB {
				placeOfA, placeOfB = 0, 0
			}
			checkShared(t, a, b, n, placeOfA, placeOfB, isOfA && isOfB)
		}
	})
}

// TestSharedGreatNumbers has what sides share up to MaxTested, the places beyond MaxPlace among
// them, and the numbers beside it.
func TestSharedGreatNumbers(t *testing.T) {
	piled := piledBySides(mostTested)
	for _, sides := range [][2]int{{3, 4}, {4, 3}, {3, 6}, {6, 3}, {3, 5}, {3, 24}, {24, 3}, {23, 24}, {24, 4}, {7, 9}} {
		a, b := sides[0], sides[1]
		shared := inBoth(piled[a], piled[b])
		for i := len(shared) - 1; i > 1; i -= 1 + len(shared)/1000 {
			n := shared[i]
			placeOfA, _ := slices.BinarySearch(piled[a], n)
			placeOfB, _ := slices.BinarySearch(piled[b], n)
			checkShared(t, a, b, n, placeOfA, placeOfB, true)
			checkShared(t, a, b, n-1, 0, 0, shared[i-1] == n-1)
			checkShared(t, a, b, n+1, 0, 0, false)
		}
	}
	checkShared(t, 3, 4, 55420693056, 332928, 235416, true)
	// MaxTested is a square and has no other shape.
	forDifferentSides(func(a int, b int) { checkShared(t, a, b, mostTested, 0, 0, false) })
}

func TestSharedFails(t *testing.T) {
	check := func(a int, b int, n int) {
		is, ok := impl.IsShared(a, b, n)
		wantBool(t, "IsShared", a, b, is, ok, false, false)
		placeOfA, placeOfB, ok := impl.PlacesShared(a, b, n)
		wantPair(t, "PlacesShared", n, placeOfA, placeOfB, ok, 0, 0, false)
	}
	forDifferentSides(func(a int, b int) {
		for _, n := range []int{-mostTested, -36, -1, mostTested + 1, mostTested + 2} {
			check(a, b, n)
		}
	})
	forBadPairs(func(a int, b int) {
		for _, n := range []int{0, 1, 36, mostTested} {
			check(a, b, n)
		}
	})
	// Shared by both, but greater than MaxTested.
	check(3, 4, 1882672131025)
}

// TestSharedHaveBothShapes checks the promise: shared numbers have both shapes.
func TestSharedHaveBothShapes(t *testing.T) {
	forDifferentSides(func(a int, b int) {
		numbers, ok := impl.SharedUpTo(a, b, mostSharedUpTo)
		for i, n := range numbers {
			placeOfA, placeOfB, placesOk := impl.PlacesShared(a, b, n)
			numberOfA, isOfA := impl.PolygonNumber(a, placeOfA)
			numberOfB, isOfB := impl.PolygonNumber(b, placeOfB)
			if !ok || !placesOk || !isOfA || !isOfB || numberOfA != n || numberOfB != n {
				t.Fatal("shared", a, b, n, placeOfA, placeOfB, numberOfA, numberOfB)
			}
			if i > 0 {
				next, ok := impl.NextShared(a, b, numbers[i-1])
				wantInt(t, "NextShared", a, b, next, ok, n, true)
			}
		}
	})
}

func checkThree(t *testing.T, a int, b int, c int, most int, want []int, wantOk bool) {
	t.Helper()
	if got, ok := impl.SharedByThree(a, b, c, most); !slices.Equal(got, want) || ok != wantOk {
		t.Fatal("SharedByThree", a, b, c, most, got, ok, want, wantOk)
	}
}

func TestSharedByThree(t *testing.T) {
	piled := piledBySides(mostSharedUpTo)
	forDifferentSides(func(a int, b int) {
		shared := inBoth(piled[a], piled[b])
		forAllSides(func(c int) {
			if c == a || c == b {
				return
			}
			want := inBoth(shared, piled[c])
			for _, most := range []int{0, 1, 2000, mostSharedUpTo} {
				checkThree(t, a, b, c, most, upTo(want, most), true)
			}
		})
	})
	checkThree(t, 3, 6, 10, 1539, []int{0, 1}, true)
	checkThree(t, 3, 6, 10, 1540, []int{0, 1, 1540}, true)
	checkThree(t, 10, 3, 6, mostSharedUpTo, []int{0, 1, 1540}, true)
	checkThree(t, 6, 4, 3, mostSharedUpTo, []int{0, 1, 1225}, true)
	checkThree(t, 5, 3, 6, mostSharedUpTo, []int{0, 1, 40755}, true)
}

func TestSharedByThreeFails(t *testing.T) {
	forBadPairs(func(a int, b int) {
		for _, most := range []int{0, 1, 2000, mostSharedUpTo} {
			checkThree(t, a, b, 7, most, nil, false)
			checkThree(t, a, 7, b, most, nil, false)
			checkThree(t, 7, a, b, most, nil, false)
		}
	})
	for _, most := range badSharedUpTo {
		checkThree(t, 3, 4, 6, most, nil, false)
		checkThree(t, 24, 23, 22, most, nil, false)
	}
}
