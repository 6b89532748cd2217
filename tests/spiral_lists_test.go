package tests

import (
	"math"
	"testing"

	"loop.example/g01250/impl"
)

// spiralNumbers are ordinary ones and great ones, and those at the ends of rings and corners.
func spiralNumbers() []int {
	var numbers []int
	for n := 0; n <= 1500; n++ {
		numbers = append(numbers, n)
	}
	for n := 997900; n <= 998100; n++ {
		numbers = append(numbers, n)
	}
	for n := 997; n <= mostSpiral; n += 997 {
		numbers = append(numbers, n)
	}
	for root := 2; root <= 999; root++ {
		// The squares and the products of two numbers one behind the other are the corners.
		corners := []int{root*root - 2, root*root - 1, root * root, root*root + 1, root*root + root - 1, root*root + root, root*root + root + 1}
		numbers = append(numbers, corners...)
	}
	return append(numbers, mostSpiral-2, mostSpiral-1, mostSpiral)
}

// spiralPairs are numbers to be held against each other: near ones, and ones of different rings.
func spiralPairs() [][2]int {
	var pairs [][2]int
	for a := 0; a <= 130; a++ {
		for b := 0; b <= 130; b++ {
			pairs = append(pairs, [2]int{a, b})
		}
	}
	numbers := spiralNumbers()
	for i, a := range numbers {
		for _, b := range []int{numbers[(7*i+1000)%len(numbers)], numbers[len(numbers)-1-i], 0, mostSpiral} {
			pairs = append(pairs, [2]int{a, b}, [2]int{b, a})
		}
	}
	return pairs
}

func badPairsOfNumbers() [][2]int {
	var pairs [][2]int
	for _, bad := range badSpiral {
		for _, n := range []int{0, 8, mostSpiral, bad} {
			pairs = append(pairs, [2]int{bad, n}, [2]int{n, bad})
		}
	}
	return pairs
}

func TestBesideNumbers(t *testing.T) {
	laid := squareSpiral()
	for _, n := range spiralNumbers() {
		x, y := laid.spots[n].X, laid.spots[n].Y
		want := []int{laid.at(x+1, y), laid.at(x, y+1), laid.at(x-1, y), laid.at(x, y-1)}
		numbers, ok := impl.BesideNumbers(n)
		wantList(t, "BesideNumbers", n, 0, numbers, ok, want, true)
	}
	for n, want := range map[int][]int{
		0:          {1, 3, 5, 7},
		1:          {10, 2, 0, 8},
		2:          {11, 13, 3, 1},
		8:          {9, 1, 7, 23},
		24:         {25, 9, 23, 47},
		mostSpiral: {999999, 1004003, 1004005, 1000001},
	} {
		numbers, ok := impl.BesideNumbers(n)
		wantList(t, "BesideNumbers", n, 0, numbers, ok, want, true)
	}
	for _, n := range badSpiral {
		numbers, ok := impl.BesideNumbers(n)
		wantList(t, "BesideNumbers", n, 0, numbers, ok, nil, false)
	}
}

func TestDistanceOf(t *testing.T) {
	spots := squareSpiral().spots
	for _, pair := range spiralPairs() {
		a, b := spots[pair[0]], spots[pair[1]]
		distance, ok := impl.DistanceOf(pair[0], pair[1])
		wantInt(t, "DistanceOf", pair[0], pair[1], distance, ok, size(a.X-b.X)+size(a.Y-b.Y), true)
	}
	for pair, want := range map[[2]int]int{{0, 0}: 0, {8, 9}: 1, {2, 6}: 4, {0, mostSpiral}: 1000, {mostSpiral, mostSpiral}: 0, {998000, mostSpiral}: 1998} {
		distance, ok := impl.DistanceOf(pair[0], pair[1])
		wantInt(t, "DistanceOf", pair[0], pair[1], distance, ok, want, true)
	}
	for _, pair := range badPairsOfNumbers() {
		distance, ok := impl.DistanceOf(pair[0], pair[1])
		wantInt(t, "DistanceOf", pair[0], pair[1], distance, ok, 0, false)
	}
}

func forAllSteps(check func(dx int, dy int)) {
	for dx := -1; dx <= 1; dx++ {
		for dy := -1; dy <= 1; dy++ {
			check(dx, dy)
		}
	}
}

func TestDiagonalOf(t *testing.T) {
	forAllSteps(func(dx int, dy int) {
		var want []int
		for count := 0; count <= mostDiagonal; count++ {
			numbers, ok := impl.DiagonalOf(dx, dy, count)
			wantList(t, "DiagonalOf", dx, dy, numbers, ok, want, true)
			want = append(want, squareSpiral().at(count*dx, count*dy))
		}
	})
	for step, want := range map[[2]int][]int{
		{0, 0}:   {0, 0, 0, 0},
		{1, 0}:   {0, 1, 10, 27},
		{0, 1}:   {0, 3, 14, 33},
		{-1, 1}:  {0, 4, 16, 36},
		{-1, -1}: {0, 6, 20, 42},
		{1, -1}:  {0, 8, 24, 48},
	} {
		numbers, ok := impl.DiagonalOf(step[0], step[1], 4)
		wantList(t, "DiagonalOf", step[0], step[1], numbers, ok, want, true)
	}
}

func TestDiagonalOfFails(t *testing.T) {
	forAllSteps(func(dx int, dy int) {
		for _, count := range []int{math.MinInt, -mostDiagonal, -1, mostDiagonal + 1, mostDiagonal + 2, math.MaxInt} {
			numbers, ok := impl.DiagonalOf(dx, dy, count)
			wantList(t, "DiagonalOf", dx, dy, numbers, ok, nil, false)
		}
		for _, bad := range []int{math.MinInt, -2, 2, math.MaxInt} {
			for _, count := range []int{0, 1, 4, mostDiagonal} {
				numbers, ok := impl.DiagonalOf(bad, dy, count)
				wantList(t, "DiagonalOf", bad, dy, numbers, ok, nil, false)
				numbers, ok = impl.DiagonalOf(dx, bad, count)
				wantList(t, "DiagonalOf", dx, bad, numbers, ok, nil, false)
			}
		}
	})
}

func checkWindow(t *testing.T, spot impl.Spot, wide int, high int) {
	t.Helper()
	var want [][]int
	for row := range high {
		var numbers []int
		for column := range wide {
			numbers = append(numbers, squareSpiral().at(spot.X+column, spot.Y-row))
		}
		want = append(want, numbers)
	}
	rows, ok := impl.WindowOf(spot, wide, high)
	if !sameLists(rows, want) || !ok {
		t.Fatal("WindowOf", spot, wide, high, rows, ok, want)
	}
}

// TestWindowOf has windows of all sizes, among them those that reach over the bound of spots.
func TestWindowOf(t *testing.T) {
	for wide := 0; wide <= mostWindow; wide++ {
		for high := 0; high <= mostWindow; high++ {
			checkWindow(t, impl.Spot{X: -5, Y: 7}, wide, high)
		}
	}
	for _, x := range []int{-mostAcross, -mostAcross + 1, -20, -1, 0, 1, 33, mostAcross - 19, mostAcross - 18, mostAcross} {
		for _, y := range []int{-mostAcross, -mostAcross + 18, -mostAcross + 19, -33, -1, 0, 1, 20, mostAcross} {
			for _, sides := range [][2]int{{0, 0}, {0, 3}, {3, 0}, {1, 1}, {2, 1}, {1, 2}, {mostWindow, 1}, {1, mostWindow}, {mostWindow, mostWindow}} {
				checkWindow(t, impl.Spot{X: x, Y: y}, sides[0], sides[1])
			}
		}
	}
	rows, ok := impl.WindowOf(impl.Spot{X: -1, Y: 1}, 4, 3)
	wantLists(t, "WindowOf", 0, rows, ok, [][]int{{4, 3, 2, 11}, {5, 0, 1, 10}, {6, 7, 8, 9}}, true)
	rows, ok = impl.WindowOf(impl.Spot{X: mostAcross, Y: -mostAcross}, 2, 2)
	wantLists(t, "WindowOf", 0, rows, ok, [][]int{{641600, 641601}, {644807, 644808}}, true)
}

func TestWindowOfFails(t *testing.T) {
	sizes := []int{0, 1, 4, mostWindow}
	for _, spot := range badAcross {
		for _, wide := range sizes {
			for _, high := range sizes {
				rows, ok := impl.WindowOf(spot, wide, high)
				wantLists(t, "WindowOf", wide, rows, ok, nil, false)
			}
		}
	}
	for _, bad := range []int{math.MinInt, -mostWindow, -1, mostWindow + 1, mostWindow + 2, math.MaxInt} {
		for _, good := range sizes {
			rows, ok := impl.WindowOf(impl.Spot{X: 3, Y: -2}, bad, good)
			wantLists(t, "WindowOf", bad, rows, ok, nil, false)
			rows, ok = impl.WindowOf(impl.Spot{X: 3, Y: -2}, good, bad)
			wantLists(t, "WindowOf", bad, rows, ok, nil, false)
		}
	}
}
