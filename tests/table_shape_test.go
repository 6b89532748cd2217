package tests

import (
	"math"
	"math/big"
	"slices"
	"testing"

	"loop.example/g01250/impl"
)

func checkShapeOfList(t *testing.T, list []int, sides int, place int, found bool) {
	t.Helper()
	gotSides, gotPlace, ok := impl.ShapeOfList(list)
	if gotSides != sides || gotPlace != place || ok != found {
		t.Fatal("ShapeOfList", list, gotSides, gotPlace, ok, sides, place, found)
	}
}

func checkNoShape(t *testing.T, list []int) {
	t.Helper()
	checkShapeOfList(t, list, 0, 0, false)
}

// shapesOfList tries all sides and places, and returns those of which the list is.
func shapesOfList(list []int, most int) [][2]int {
	var shapes [][2]int
	forAllSides(func(sides int) {
		numbers := piledNumbers(sides, most)
		for place := 0; place+len(list) <= len(numbers); place++ {
			if slices.Equal(numbers[place:place+len(list)], list) {
				shapes = append(shapes, [2]int{sides, place})
			}
		}
	})
	return shapes
}

// TestShapeOfList has all lists of polygonal numbers up to the greatest one that a list can have.
func TestShapeOfList(t *testing.T) {
	forAllSides(func(sides int) {
		numbers := piledNumbers(sides, greatestEntry)
		for place := range numbers {
			for length := 1; length <= mostInList+1 && place+length <= len(numbers); length++ {
				list := numbers[place : place+length]
				if isIn(length, 3, mostInList) && list[length-1] <= greatestEntry {
					checkShapeOfList(t, list, sides, place, true)
					checkNoShape(t, backward(list))
					checkNoShape(t, changedSign(list))
				} else {
					checkNoShape(t, list)
				}
			}
		}
	})
}

// TestShapeOfListLeast has the least sides and the least places.
func TestShapeOfListLeast(t *testing.T) {
	checkShapeOfList(t, []int{0, 1, 3}, 3, 0, true)
	checkShapeOfList(t, []int{1, 3, 6}, 3, 1, true)
	checkShapeOfList(t, []int{0, 1, 24}, 24, 0, true)
	checkShapeOfList(t, []int{1, 24, 69}, 24, 1, true)
	checkShapeOfList(t, []int{0, 1, 4, 9, 16, 25, 36, 49, 64, 81, 100, 121}, 4, 0, true)
	checkShapeOfList(t, []int{996004, 998001, 1000000}, 4, 998, true)
}

// TestShapeOfListFails has lists of 2 and 25 sides, those with places less than 0, and those of
// which one number is another one.
func TestShapeOfListFails(t *testing.T) {
	for _, list := range [][]int{
		{0, 1, 2}, {1, 2, 3}, {5, 5, 5}, {0, 0, 0}, {0, 1, 25}, {1, 25, 73}, {0, 1, 1}, {1, 0, 0},
		{0, 0, 1}, {1, 0, 0, 1, 3}, {1, 0, 1}, {1, 0, 1, 4}, {4, 1, 0, 1, 4}, {2, 0, 1}, {2, 0, 1, 5}, {3, 1, 0},
		{0, 1, 3, 7}, {0, 1, 4, 9, 15}, {10, 15, 22}, {11, 15, 21}, {2, 4, 7}, {-1, 0, 2}, {7, 10, 14},
		{-3, -1, 0}, {0, -1, -3}, {0, 1}, {10, 15}, {0}, {1}, {3},
		{0, 1, greatestEntry}, {-greatestEntry, greatestEntry, -greatestEntry}, {greatestEntry, -greatestEntry, greatestEntry},
		{998001, 1000000, 1002001},
	} {
		checkNoShape(t, list)
	}
	for _, list := range badLists() {
		checkNoShape(t, list)
	}
	for index := range mostInList {
		list := slices.Clone(piledNumbers(5, greatestEntry)[4 : 4+mostInList])
		list[index]++
		checkNoShape(t, list)
	}
}

// TestShapeOfListAll tries all lists of three or four small numbers.
func TestShapeOfListAll(t *testing.T) {
	const most = 40
	found := 0
	for a := -3; a <= most; a++ {
		for b := -3; b <= most; b++ {
			for c := -3; c <= most; c++ {
				list := []int{a, b, c}
				shapes := shapesOfList(list, most)
				if len(shapes) == 0 {
					checkNoShape(t, list)
					continue
				}
				checkShapeOfList(t, list, shapes[0][0], shapes[0][1], true)
				found++
			}
		}
	}
	if found < 40 {
		t.Error("too few lists", found)
	}
}

func TestChooseOf(t *testing.T) {
	for n := range greatestChosenOf + 1 {
		for k := range n + 20 {
			want := new(big.Int).Binomial(int64(n), int64(k)).Int64()
			ways, ok := impl.ChooseOf(n, k)
			wantInt(t, "ChooseOf", n, k, ways, ok, int(want), true)
		}
		for _, k := range []int{1000, 1 << 32, math.MaxInt - 1, math.MaxInt} {
			ways, ok := impl.ChooseOf(n, k)
			wantInt(t, "ChooseOf", n, k, ways, ok, 0, true)
		}
		for _, k := range []int{math.MinInt, -60, -2, -1} {
			ways, ok := impl.ChooseOf(n, k)
			wantInt(t, "ChooseOf", n, k, ways, ok, 0, false)
		}
	}
	ways, ok := impl.ChooseOf(60, 30)
	wantInt(t, "ChooseOf", 60, 30, ways, ok, 118264581564861424, true)
	for _, n := range []int{math.MinInt, -60, -2, -1, greatestChosenOf + 1, greatestChosenOf + 2, 1 << 32, math.MaxInt} {
		for _, k := range []int{-1, 0, 1, 2, 30, 60, 61, math.MaxInt} {
			ways, ok := impl.ChooseOf(n, k)
			wantInt(t, "ChooseOf", n, k, ways, ok, 0, false)
		}
	}
}
