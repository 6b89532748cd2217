package tests

import (
	"math/big"
	"testing"

	"loop.example/g01250/impl"
)

const mostDimensions = 8

var badDimensions = []int{-8, -1, 0, mostDimensions + 1, mostDimensions + 2, 100}

// TestSolidsOfPyramids builds octahedra and stars of pyramids, and each cube of the one before
// and three squares around it, less the edges that two of these share, and the corner once more.
func TestSolidsOfPyramids(t *testing.T) {
	tetrahedra := piledPyramids(3, mostLayers)
	squares := piledPyramids(4, mostLayers)
	cube := 0
	for k := 1; k <= mostLayers; k++ {
		cubeBefore := cube
		cube += 3*k*k - 3*k + 1
		octahedron := squares[k] + squares[k-1]
		got, ok := impl.OctahedronNumber(k)
		wantInt(t, "OctahedronNumber", k, 0, got, ok, octahedron, true)
		got, ok = impl.StarNumber(k)
		wantInt(t, "StarNumber", k, 0, got, ok, octahedron+8*tetrahedra[k-1], true)
		got, ok = impl.CubeNumber(k)
		wantInt(t, "CubeNumber", k, 0, got, ok, cube, true)
		got, ok = impl.CentredCube(k)
		wantInt(t, "CentredCube", k, 0, got, ok, cube+cubeBefore, true)
	}
}

// TestSumsOfPowers adds squares and cubes. The sums of cubes grow beyond MaxStacked, which
// bounds arguments only.
func TestSumsOfPowers(t *testing.T) {
	squares, cubes := 0, 0
	for k := 0; k <= mostLayers; k++ {
		squares += k * k
		cubes += k * k * k
		got, ok := impl.SumOfSquares(k)
		wantInt(t, "SumOfSquares", k, 0, got, ok, squares, true)
		pyramid, ok := impl.PyramidNumber(4, k)
		wantInt(t, "PyramidNumber", 4, k, pyramid, ok, squares, true)
		got, ok = impl.SumOfCubes(k)
		wantInt(t, "SumOfCubes", k, 0, got, ok, cubes, true)
		triangle, ok := impl.PolygonNumber(3, k)
		wantInt(t, "PolygonNumber", 3, k, triangle*triangle, ok, cubes, true)
	}
	if cubes <= mostStacked {
		t.Error("no sum of cubes is greater than MaxStacked", cubes)
	}
}

// TestSolidsAtEdges has k = 0, k = 1 and the greatest k, and the k beside the limits.
func TestSolidsAtEdges(t *testing.T) {
	calls := []struct {
		name  string
		call  func(int) (int, bool)
		least int
		wants map[int]int
	}{
		{"OctahedronNumber", impl.OctahedronNumber, 0, map[int]int{0: 0, 1: 1, 4: 44, mostLayers: 5333334000}},
		{"CubeNumber", impl.CubeNumber, 0, map[int]int{0: 0, 1: 1, 2: 8, mostLayers: 8000000000}},
		{"CentredCube", impl.CentredCube, 1, map[int]int{1: 1, 2: 9, 3: 35, mostLayers: 15988005999}},
		{"StarNumber", impl.StarNumber, 0, map[int]int{0: 0, 1: 1, 4: 124, mostLayers: 15999998000}},
		{"SumOfSquares", impl.SumOfSquares, 0, map[int]int{0: 0, 1: 1, 2: 5, 24: 4900, mostLayers: 2668667000}},
		{"SumOfCubes", impl.SumOfCubes, 0, map[int]int{0: 0, 1: 1, 2: 9, 3: 36, 1413: 997983018081, 1414: 1000810164025, mostLayers: 4004001000000}},
	}
	for _, c := range calls {
		for k, want := range c.wants {
			got, ok := c.call(k)
			wantInt(t, c.name, k, 0, got, ok, want, true)
		}
		for _, k := range append([]int{c.least - 1}, badLayers...) {
			got, ok := c.call(k)
			wantInt(t, c.name, k, 0, got, ok, 0, false)
		}
	}
}

// choices returns the number of ways to choose a dimension of k + dimension - 1 things.
func choices(dimension int, k int) *big.Int {
	return new(big.Int).Binomial(int64(k+dimension-1), int64(dimension))
}

func forAllDimensions(check func(dimension int)) {
	for dimension := 1; dimension <= mostDimensions; dimension++ {
		check(dimension)
	}
}

// TestSimplexNumber has all simplices, those that are too great, or even too great for an int,
// among them. Those up to MaxStacked are found again.
func TestSimplexNumber(t *testing.T) {
	forAllDimensions(func(dimension int) {
		for k := 0; k <= mostLayers; k++ {
			exact := choices(dimension, k)
			fits := exact.Cmp(big.NewInt(mostStacked)) <= 0
			want := 0
			if fits {
				want = int(exact.Int64())
			}
			got, ok := impl.SimplexNumber(dimension, k)
			wantInt(t, "SimplexNumber", dimension, k, got, ok, want, fits)
			if fits {
				place, ok := impl.SimplexPlace(dimension, want)
				wantInt(t, "SimplexPlace", dimension, want, place, ok, k, true)
			}
		}
	})
}

// TestSimplicesThatAreKnown has those of few dimensions: k, triangular numbers and tetrahedra.
func TestSimplicesThatAreKnown(t *testing.T) {
	for k := 0; k <= mostLayers; k++ {
		triangle, _ := impl.PolygonNumber(3, k)
		tetrahedron, _ := impl.PyramidNumber(3, k)
		for i, want := range []int{k, triangle, tetrahedron} {
			got, ok := impl.SimplexNumber(i+1, k)
			wantInt(t, "SimplexNumber", i+1, k, got, ok, want, true)
		}
	}
	forAllDimensions(func(dimension int) {
		for k, want := range []int{0, 1, dimension + 1, (dimension + 1) * (dimension + 2) / 2} {
			got, ok := impl.SimplexNumber(dimension, k)
			wantInt(t, "SimplexNumber", dimension, k, got, ok, want, true)
		}
	})
}

func TestSimplexNumberFails(t *testing.T) {
	for _, dimension := range badDimensions {
		for _, k := range []int{0, 1, 2, mostLayers} {
			got, ok := impl.SimplexNumber(dimension, k)
			wantInt(t, "SimplexNumber", dimension, k, got, ok, 0, false)
		}
	}
	forAllDimensions(func(dimension int) {
		for _, k := range badLayers {
			got, ok := impl.SimplexNumber(dimension, k)
			wantInt(t, "SimplexNumber", dimension, k, got, ok, 0, false)
		}
	})
}

func TestSimplexPlace(t *testing.T) {
	forAllDimensions(func(dimension int) {
		places := map[int]int{}
		for k := 0; k <= mostLayers; k++ {
			if exact := choices(dimension, k); exact.Cmp(big.NewInt(mostStacked)) <= 0 {
				places[int(exact.Int64())] = k
			}
		}
		check := func(n int) {
			want, found := places[n]
			got, ok := impl.SimplexPlace(dimension, n)
			wantInt(t, "SimplexPlace", dimension, n, got, ok, want, found)
		}
		for n := 0; n <= 3000; n++ {
			check(n)
		}
		for n := range places {
			check(n + 1)
			check(max(n-1, 0))
		}
		check(mostStacked - 1)
		check(mostStacked)
	})
}

// TestSimplexPlaceFails has simplices of more than MaxLayers, and invalid arguments.
func TestSimplexPlaceFails(t *testing.T) {
	check := func(dimension int, n int) {
		t.Helper()
		got, ok := impl.SimplexPlace(dimension, n)
		wantInt(t, "SimplexPlace", dimension, n, got, ok, 0, false)
	}
	for dimension, n := range map[int]int{1: mostLayers, 2: 2001000, 3: 1335334000} {
		got, ok := impl.SimplexPlace(dimension, n)
		wantInt(t, "SimplexPlace", dimension, n, got, ok, mostLayers, true)
	}
	for dimension := 1; dimension <= 3; dimension++ {
		for k := mostLayers + 1; k <= mostLayers+100; k++ {
			check(dimension, int(choices(dimension, k).Int64()))
		}
	}
	for _, dimension := range badDimensions {
		for _, n := range []int{0, 1, 3, 10, mostStacked} {
			check(dimension, n)
		}
	}
	forAllDimensions(func(dimension int) {
		for _, n := range badStacked {
			check(dimension, n)
		}
	})
}
