package tests

import (
	"math"
	"testing"

	"loop.example/g01250/impl"
)

var solidEdges = edgeInts(mostListedLayers, mostSplit, mostLayers, mostPlace, mostStacked, 1<<32, 1<<62)

// TestSolidCallsOfAnySize calls every function of the chapter with numbers of any size: none
// panics or runs long, and each succeeds just for those that it is told to take, or for fewer
// where it fails if there is none.
func TestSolidCallsOfAnySize(t *testing.T) {
	inTime(t, func() {
		for _, a := range solidEdges {
			checkSolidCallsOfOne(t, a)
			for _, b := range solidEdges {
				checkPyramidCalls(t, a, b)
				checkSimplexCalls(t, a, b)
				count, ok := impl.CountTetrahedra(a, b)
				checkSolidNumber(t, "CountTetrahedra", a, b, count, ok, isIn(a, 0, mostSplit) && isIn(b, 0, mostTetrahedra))
			}
		}
	})
}

func checkSolidNumber(t *testing.T, call string, a int, b int, got int, ok bool, valid bool) {
	t.Helper()
	if ok != valid || !ok && got != 0 || got < 0 {
		t.Error(call, a, b, got, ok)
	}
}

func checkSolidCallsOfOne(t *testing.T, n int) {
	calls := []struct {
		name  string
		call  func(int) (int, bool)
		least int
		most  int
	}{
		{"OctahedronNumber", impl.OctahedronNumber, 0, mostLayers},
		{"CubeNumber", impl.CubeNumber, 0, mostLayers},
		{"CentredCube", impl.CentredCube, 1, mostLayers},
		{"StarNumber", impl.StarNumber, 0, mostLayers},
		{"SumOfSquares", impl.SumOfSquares, 0, mostLayers},
		{"SumOfCubes", impl.SumOfCubes, 0, mostLayers},
		{"FewestTetrahedra", impl.FewestTetrahedra, 0, mostSplit},
	}
	for _, c := range calls {
		got, ok := c.call(n)
		checkSolidNumber(t, c.name, n, 0, got, ok, isIn(n, c.least, c.most))
	}
	list, ok := impl.FirstTetrahedra(n)
	if ok != isIn(n, 0, mostSplit) || !ok && list != nil {
		t.Error("FirstTetrahedra", n, list, ok)
	}
}

func checkPyramidCalls(t *testing.T, sides int, n int) {
	areSides := isIn(sides, 3, mostSides)
	number, ok := impl.PyramidNumber(sides, n)
	checkSolidNumber(t, "PyramidNumber", sides, n, number, ok, areSides && isIn(n, 0, mostLayers))
	is, isOk := impl.IsPyramidal(sides, n)
	if isOk != (areSides && isIn(n, 0, mostStacked)) || is && !isOk {
		t.Error("IsPyramidal", sides, n, is, isOk)
	}
	layers, ok := impl.LayersOfPyramid(sides, n)
	checkSolidNumber(t, "LayersOfPyramid", sides, n, layers, ok, is)
	list, ok := impl.LayerList(sides, n)
	if ok != (areSides && isIn(n, 0, mostListedLayers)) || !ok && list != nil {
		t.Error("LayerList", sides, n, list, ok)
	}
}

func checkSimplexCalls(t *testing.T, dimension int, n int) {
	isDimension := isIn(dimension, 1, mostDimensions)
	number, ok := impl.SimplexNumber(dimension, n)
	if ok && !(isDimension && isIn(n, 0, mostLayers)) || !ok && number != 0 || !isIn(number, 0, mostStacked) {
		t.Error("SimplexNumber", dimension, n, number, ok)
	}
	place, ok := impl.SimplexPlace(dimension, n)
	if ok && !(isDimension && isIn(n, 0, mostStacked)) || !ok && place != 0 || !isIn(place, 0, mostLayers) {
		t.Error("SimplexPlace", dimension, n, place, ok)
	}
}

func TestSolidCallsOfThreeNumbers(t *testing.T) {
	edges := []int{math.MinInt, math.MinInt + 1, -1 << 32, -mostLayers, -1, 0, 1, 2, 3, 4, 13, mostSides - 1, mostSides, mostSides + 1, 100, mostLayers - 1, mostLayers, mostLayers + 1, mostPlace, math.MaxInt32, 1 << 32, 1<<32 + 3, math.MaxInt - 1, math.MaxInt}
	inTime(t, func() {
		for _, a := range edges {
			for _, b := range edges {
				for _, c := range edges {
					frustum, ok := impl.FrustumNumber(a, b, c)
					checkSolidNumber(t, "FrustumNumber", b, c, frustum, ok, isIn(a, 3, mostSides) && isIn(b, 1, mostLayers) && isIn(c, 0, mostLayers))
					counts, ok := impl.Cannonballs(a, b, c)
					valid := isIn(a, 3, mostSides) && isIn(b, 3, mostSides) && isIn(c, 0, mostLayers)
					if ok != valid || !ok && counts != nil {
						t.Error("Cannonballs", a, b, c, counts, ok)
					}
				}
			}
		}
	})
}

// TestSolidListsAreNew checks that a result that is changed changes no later one.
func TestSolidListsAreNew(t *testing.T) {
	checkListsAreNew(t, math.MaxInt, map[string]func() ([]int, bool){
		"LayerList":       func() ([]int, bool) { return impl.LayerList(5, 20) },
		"Cannonballs":     func() ([]int, bool) { return impl.Cannonballs(3, 3, 40) },
		"FirstTetrahedra": func() ([]int, bool) { return impl.FirstTetrahedra(17) },
	})
}
