package tests

import (
	"math"
	"testing"

	"loop.example/g01250/impl"
)

var spiralEdges = edgeInts(mostSpiral, mostRing, mostAcross, 1<<32, 1<<62)

// TestSpiralCallsOfAnySize calls every function of the chapter with numbers of any size: none
// panics or runs long, and each succeeds just for those that it is told to take.
func TestSpiralCallsOfAnySize(t *testing.T) {
	inTime(t, func() {
		for _, a := range spiralEdges {
			checkSpiralCallsOfOne(t, a)
			for _, b := range spiralEdges {
				checkSpiralCallsOfTwo(t, a, b)
				checkSpiralCallsOfSpot(t, impl.Spot{X: a, Y: b})
			}
		}
	})
}

func checkSpiralCallsOfOne(t *testing.T, n int) {
	isNumber := isIn(n, 0, mostSpiral)
	for name, call := range map[string]func(int) (impl.Spot, bool){
		"SpotOf":       impl.SpotOf,
		"StepFrom":     impl.StepFrom,
		"HexSpotOf":    impl.HexSpotOf,
		"TriangleSpot": impl.TriangleSpot,
		"ZigzagSpot":   impl.ZigzagSpot,
	} {
		if spot, ok := call(n); ok != isNumber || !ok && spot != (impl.Spot{}) {
			t.Error(name, n, spot, ok)
		}
	}
	for name, call := range map[string]func(int) ([]int, bool){
		"BesideNumbers": impl.BesideNumbers,
		"HexBeside":     impl.HexBeside,
	} {
		if numbers, ok := call(n); ok != isNumber || !ok && numbers != nil {
			t.Error(name, n, numbers, ok)
		}
	}
	ring, ok := impl.RingOf(n)
	checkSolidNumber(t, "RingOf", n, 0, ring, ok, isNumber)
	ring, ok = impl.HexRingOf(n)
	checkSolidNumber(t, "HexRingOf", n, 0, ring, ok, isNumber)
	least, greatest, ok := impl.RingNumbers(n)
	if ok != isIn(n, 0, mostRing) || !ok && (least != 0 || greatest != 0) {
		t.Error("RingNumbers", n, least, greatest, ok)
	}
}

func checkSpiralCallsOfTwo(t *testing.T, a int, b int) {
	areNumbers := isIn(a, 0, mostSpiral) && isIn(b, 0, mostSpiral)
	distance, ok := impl.DistanceOf(a, b)
	checkSolidNumber(t, "DistanceOf", a, b, distance, ok, areNumbers)
	distance, ok = impl.HexDistance(a, b)
	checkSolidNumber(t, "HexDistance", a, b, distance, ok, areNumbers)
}

func checkSpiralCallsOfSpot(t *testing.T, spot impl.Spot) {
	isSpot := isIn(spot.X, -mostAcross, mostAcross) && isIn(spot.Y, -mostAcross, mostAcross)
	for name, call := range map[string]struct {
		number func(impl.Spot) (int, bool)
		valid  bool
	}{
		"NumberAt":       {impl.NumberAt, isSpot},
		"HexNumberAt":    {impl.HexNumberAt, isSpot && isIn(spot.X+spot.Y, -mostAcross, mostAcross)},
		"TriangleNumber": {impl.TriangleNumber, isIn(spot.Y, 0, mostRow) && isIn(spot.X, 0, spot.Y)},
		"ZigzagNumber":   {impl.ZigzagNumber, isIn(spot.X, 0, mostRow) && isIn(spot.Y, 0, mostRow)},
	} {
		n, ok := call.number(spot)
		checkSolidNumber(t, name, spot.X, spot.Y, n, ok, call.valid)
	}
}

// TestSpiralListCallsOfAnySize does the same for the functions of three and four numbers.
func TestSpiralListCallsOfAnySize(t *testing.T) {
	edges := []int{math.MinInt, -mostAcross - 1, -mostAcross, -2, -1, 0, 1, 2, mostWindow, mostWindow + 1, mostAcross, mostAcross + 1, 1 << 62, math.MaxInt}
	inTime(t, func() {
		for _, a := range edges {
			for _, b := range edges {
				for _, c := range edges {
					checkDiagonalCall(t, a, b, c)
					for _, d := range edges {
						checkWindowCall(t, impl.Spot{X: a, Y: b}, c, d)
					}
				}
			}
		}
	})
}

func checkDiagonalCall(t *testing.T, dx int, dy int, count int) {
	valid := isIn(dx, -1, 1) && isIn(dy, -1, 1) && isIn(count, 0, mostDiagonal)
	numbers, ok := impl.DiagonalOf(dx, dy, count)
	if ok != valid || !ok && numbers != nil || ok && len(numbers) != count {
		t.Error("DiagonalOf", dx, dy, count, numbers, ok)
	}
}

func checkWindowCall(t *testing.T, spot impl.Spot, wide int, high int) {
	isSpot := isIn(spot.X, -mostAcross, mostAcross) && isIn(spot.Y, -mostAcross, mostAcross)
	valid := isSpot && isIn(wide, 0, mostWindow) && isIn(high, 0, mostWindow)
	rows, ok := impl.WindowOf(spot, wide, high)
	if ok != valid || !ok && rows != nil || ok && len(rows) != high {
		t.Error("WindowOf", spot, wide, high, rows, ok)
	}
}

// TestSpiralListsAreNew checks that a result that is changed changes no later one, and that the
// rows of one window share no memory.
func TestSpiralListsAreNew(t *testing.T) {
	checkListsAreNew(t, math.MaxInt, map[string]func() ([]int, bool){
		"BesideNumbers": func() ([]int, bool) { return impl.BesideNumbers(24) },
		"HexBeside":     func() ([]int, bool) { return impl.HexBeside(18) },
		"DiagonalOf":    func() ([]int, bool) { return impl.DiagonalOf(-1, 1, 30) },
	})
	checkTablesAreNew(t, map[string]func() ([][]int, bool){
		"WindowOf": func() ([][]int, bool) { return impl.WindowOf(impl.Spot{X: -2, Y: 3}, 5, 6) },
	})
}
