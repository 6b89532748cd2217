package tests

import (
	"slices"
	"testing"

	"loop.example/g01250/impl"
)

const (
	mostPairs    = 12
	mostHexagons = 50000
)

var badPairs = []int{-mostPairs, -2, -1, mostPairs + 1, mostPairs + 2, 25, 100, mostPlace}

// twicePairs are written out, as each next one has the rule that the program follows.
var twicePairs = [][2]int{{1, 0}, {1, 1}, {3, 2}, {7, 5}, {17, 12}, {41, 29}, {99, 70}, {239, 169}, {577, 408}, {1393, 985}, {3363, 2378}, {8119, 5741}, {19601, 13860}}

var triangleSquares = []int{0, 1, 36, 1225, 41616, 1413721, 48024900, 1631432881, 55420693056, 1882672131025, 63955431761796, 2172602007770041, 73804512832419600}

// twiceTriangles are the places of triangular numbers that are twice others, and the shorter
// sides of right triangles; halfTriangles and longSides belong to them.
var (
	twiceTriangles = []int{0, 3, 20, 119, 696, 4059, 23660, 137903, 803760, 4684659, 27304196, 159140519, 927538920}
	halfTriangles  = []int{0, 2, 14, 84, 492, 2870, 16730, 97512, 568344, 3312554, 19306982, 112529340, 655869060}
	longSides      = []int{1, 5, 29, 169, 985, 5741, 33461, 195025, 1136689, 6625109, 38613965, 225058681, 1311738121}
)

func wantPair(t *testing.T, call string, k int, gotA int, gotB int, ok bool, wantA int, wantB int, wantOk bool) {
	t.Helper()
	if gotA != wantA || gotB != wantB || ok != wantOk {
		t.Fatalf("%s of %d is %d, %d, %v, not %d, %d, %v", call, k, gotA, gotB, ok, wantA, wantB, wantOk)
	}
}

func triangle(place int) int {
	return place * (place + 1) / 2
}

// TestTwicePair checks the promise: pairs keep their rule.
func TestTwicePair(t *testing.T) {
	before := [2]int{}
	for k, want := range twicePairs {
		x, y, ok := impl.TwicePair(k)
		wantPair(t, "TwicePair", k, x, y, ok, want[0], want[1], true)
		if difference := x*x - 2*y*y; difference != 1-k%2*2 {
			t.Error("difference", k, x, y, difference)
		}
		if k > 0 && (x != before[0]+2*before[1] || y != before[0]+before[1]) {
			t.Error("rule", k, x, y, before)
		}
		before = [2]int{x, y}
	}
	if len(twicePairs) != mostPairs+1 {
		t.Error("not all pairs", len(twicePairs))
	}
}

func TestTriangleSquare(t *testing.T) {
	for k, want := range triangleSquares {
		n, ok := impl.TriangleSquare(k)
		wantInt(t, "TriangleSquare", k, 0, n, ok, want, true)
		x, y, ok := impl.TwicePair(k)
		if n != x*y*x*y || !ok {
			t.Error("pair", k, n, x, y)
		}
		ofTriangle, ofSquare, ok := impl.TriangleSquarePlaces(k)
		if triangle(ofTriangle) != n || ofSquare*ofSquare != n || ofTriangle < 0 || ofSquare < 0 || !ok {
			t.Error("TriangleSquarePlaces", k, ofTriangle, ofSquare, ok, n)
		}
	}
	if len(triangleSquares) != mostPairs+1 {
		t.Error("not all numbers", len(triangleSquares))
	}
}

// TestTriangleSquaresAreAll checks that no triangular square is left out, and that both chapters
// tell the same places.
func TestTriangleSquaresAreAll(t *testing.T) {
	k := 0
	for _, n := range inBoth(piledNumbers(3, mostTested), piledNumbers(4, mostTested)) {
		got, ok := impl.TriangleSquare(k)
		wantInt(t, "TriangleSquare", k, 0, got, ok, n, true)
		ofTriangle, ofSquare, ok := impl.PlacesShared(3, 4, n)
		wantOfTriangle, wantOfSquare, wantOk := impl.TriangleSquarePlaces(k)
		wantPair(t, "PlacesShared", n, ofTriangle, ofSquare, ok, wantOfTriangle, wantOfSquare, wantOk)
		k++
	}
	if k < 9 {
		t.Error("few triangular squares", k)
	}
}

func TestTwiceTriangle(t *testing.T) {
	for k, want := range twiceTriangles {
		twice, half, ok := impl.TwiceTriangle(k)
		wantPair(t, "TwiceTriangle", k, twice, half, ok, want, halfTriangles[k], true)
		if triangle(twice) != 2*triangle(half) {
			t.Error("twice", k, twice, half)
		}
	}
	// No one is left out: all twice triangular numbers that are triangular, too.
	k := 0
	numbers := piledNumbers(3, mostTested)
	doubled := slices.Clone(numbers)
	for i := range doubled {
		doubled[i] *= 2
	}
	for _, n := range inBoth(numbers, doubled) {
		want, _ := slices.BinarySearch(numbers, n)
		half, _ := slices.BinarySearch(numbers, n/2)
		twice, gotHalf, ok := impl.TwiceTriangle(k)
		wantPair(t, "TwiceTriangle", k, twice, gotHalf, ok, want, half, true)
		k++
	}
	if k < 8 || len(twiceTriangles) != mostPairs+1 {
		t.Error("few triangles", k, len(twiceTriangles))
	}
}

func TestNearRight(t *testing.T) {
	for k, want := range twiceTriangles {
		sides, ok := impl.NearRight(k)
		wantList(t, "NearRight", k, 0, sides, ok, []int{want, want + 1, longSides[k]}, true)
		if sides[0]*sides[0]+sides[1]*sides[1] != sides[2]*sides[2] {
			t.Error("not right", k, sides)
		}
	}
	// No one is left out: all shorter sides up to a million.
	k, longest := 0, 0
	for short := 0; short <= 1000000; short++ {
		square := short*short + (short+1)*(short+1)
		for longest*longest < square {
			longest++
		}
		if longest*longest == square {
			sides, ok := impl.NearRight(k)
			wantList(t, "NearRight", k, 0, sides, ok, []int{short, short + 1, longest}, true)
			k++
		}
	}
	if k != 9 {
		t.Error("right triangles", k)
	}
}

func TestPairsFail(t *testing.T) {
	for _, k := range badPairs {
		x, y, ok := impl.TwicePair(k)
		wantPair(t, "TwicePair", k, x, y, ok, 0, 0, false)
		n, ok := impl.TriangleSquare(k)
		wantInt(t, "TriangleSquare", k, 0, n, ok, 0, false)
		ofTriangle, ofSquare, ok := impl.TriangleSquarePlaces(k)
		wantPair(t, "TriangleSquarePlaces", k, ofTriangle, ofSquare, ok, 0, 0, false)
		twice, half, ok := impl.TwiceTriangle(k)
		wantPair(t, "TwiceTriangle", k, twice, half, ok, 0, 0, false)
		sides, ok := impl.NearRight(k)
		wantList(t, "NearRight", k, 0, sides, ok, nil, false)
	}
}

func TestHexagonsAre(t *testing.T) {
	for place := 1; place <= mostHexagons; place++ {
		got, ok := impl.HexagonsAre(place)
		wantInt(t, "HexagonsAre", place, 0, got, ok, 2*place-1, true)
		hexagonal, _ := impl.PolygonNumber(6, place)
		triangular, ok := impl.PolygonNumber(3, got)
		wantInt(t, "PolygonNumber", 3, got, triangular, ok, hexagonal, true)
	}
	for _, place := range []int{-mostHexagons, -2, -1, 0, mostHexagons + 1, mostHexagons + 2, mostPlace} {
		got, ok := impl.HexagonsAre(place)
		wantInt(t, "HexagonsAre", place, 0, got, ok, 0, false)
	}
}

func TestSquareOfOdd(t *testing.T) {
	want := 1
	for k := 0; k <= mostPlace; k++ {
		square, place, ok := impl.SquareOfOdd(k)
		wantPair(t, "SquareOfOdd", k, square, place, ok, want, k, true)
		triangular, ok := impl.PolygonNumber(3, place)
		wantInt(t, "PolygonNumber", 3, place, triangular, ok, (square-1)/8, true)
		want += 8 * (k + 1)
	}
	for k, want := range map[int]int{0: 1, 1: 9, 2: 25, 3: 49, mostPlace: 40000400001} {
		square, place, ok := impl.SquareOfOdd(k)
		wantPair(t, "SquareOfOdd", k, square, place, ok, want, k, true)
	}
	for _, k := range []int{-mostPlace, -2, -1, mostPlace + 1, mostPlace + 2, mostTested} {
		square, place, ok := impl.SquareOfOdd(k)
		wantPair(t, "SquareOfOdd", k, square, place, ok, 0, 0, false)
	}
}
