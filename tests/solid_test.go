package tests

import (
	"slices"
	"testing"

	"loop.example/g01250/impl"
)

// The numbers are stated here once more, so that a changed limit is found.
const (
	mostLayers       = 2000
	mostStacked      = 1000000000000
	mostSplit        = 1500
	mostListedLayers = 200
)

var badLayers = []int{-mostLayers, -2, -1, mostLayers + 1, mostLayers + 2, 100000}

var badStacked = []int{-mostStacked, -10, -4, -1, mostStacked + 1, mostStacked + 2}

// addedUp returns 0 and behind it the sums of the first 1, 2, .. numbers.
func addedUp(numbers []int) []int {
	sums := []int{0}
	for _, number := range numbers {
		sums = append(sums, sums[len(sums)-1]+number)
	}
	return sums
}

// piledLayers returns the dots of so many layers, each the one before and a gnomon that grows
// by sides - 2.
func piledLayers(sides int, layers int) []int {
	var dots []int
	for above, gnomon := 0, 1; len(dots) < layers; gnomon += sides - 2 {
		above += gnomon
		dots = append(dots, above)
	}
	return dots
}

// piledPyramids returns the pyramids of 0, 1, .., layers layers.
func piledPyramids(sides int, layers int) []int {
	return addedUp(piledLayers(sides, layers))
}

// stackedPyramids returns all pyramids of up to MaxStacked dots.
func stackedPyramids(sides int) []int {
	pyramids := piledPyramids(sides, 20000)
	beyond, found := slices.BinarySearch(pyramids, mostStacked)
	if found {
		beyond++
	}
	return pyramids[:beyond]
}

func wantBool(t *testing.T, call string, a int, b int, got bool, ok bool, want bool, wantOk bool) {
	t.Helper()
	if got != want || ok != wantOk {
		t.Fatalf("%s of %d and %d is %v, %v, not %v, %v", call, a, b, got, ok, want, wantOk)
	}
}

func TestSolidLimits(t *testing.T) {
	if impl.MaxLayers != mostLayers || impl.MaxStacked != mostStacked || impl.MaxSplit != mostSplit {
		t.Error("limits", impl.MaxLayers, impl.MaxStacked, impl.MaxSplit)
	}
}

func TestSolidExample(t *testing.T) {
	number, ok := impl.PyramidNumber(4, 24)
	wantInt(t, "PyramidNumber", 4, 24, number, ok, 70*70, true)
	counts, ok := impl.Cannonballs(4, 4, 30)
	wantList(t, "Cannonballs", 4, 4, counts, ok, []int{1, 24}, true)
	for k, want := range []int{0, 1, 6, 19} {
		got, ok := impl.OctahedronNumber(k)
		wantInt(t, "OctahedronNumber", k, 0, got, ok, want, true)
	}
	for k, want := range []int{0, 1, 14, 51} {
		got, ok := impl.StarNumber(k)
		wantInt(t, "StarNumber", k, 0, got, ok, want, true)
	}
	fewest, ok := impl.FewestTetrahedra(17)
	wantInt(t, "FewestTetrahedra", 17, 0, fewest, ok, 5, true)
	layers, ok := impl.FirstTetrahedra(17)
	wantList(t, "FirstTetrahedra", 17, 0, layers, ok, []int{3, 2, 1, 1, 1}, true)
	for k, want := range []int{0, 1, 4, 10, 20} {
		got, ok := impl.PyramidNumber(3, k)
		wantInt(t, "PyramidNumber", 3, k, got, ok, want, true)
	}
}

func TestPyramidNumber(t *testing.T) {
	forAllSides(func(sides int) {
		for layers, want := range piledPyramids(sides, mostLayers) {
			got, ok := impl.PyramidNumber(sides, layers)
			wantInt(t, "PyramidNumber", sides, layers, got, ok, want, true)
		}
		for _, layers := range badLayers {
			got, ok := impl.PyramidNumber(sides, layers)
			wantInt(t, "PyramidNumber", sides, layers, got, ok, 0, false)
		}
	})
	for sides, want := range map[int]int{3: 1335334000, 4: 2668667000, 24: 29335327000} {
		got, ok := impl.PyramidNumber(sides, mostLayers)
		wantInt(t, "PyramidNumber", sides, mostLayers, got, ok, want, true)
	}
	for _, sides := range badSides {
		for _, layers := range []int{0, 1, 24, mostLayers} {
			got, ok := impl.PyramidNumber(sides, layers)
			wantInt(t, "PyramidNumber", sides, layers, got, ok, 0, false)
		}
	}
}

func checkPyramidal(t *testing.T, sides int, n int, wantLayers int, pyramidal bool) {
	t.Helper()
	layers, ok := impl.LayersOfPyramid(sides, n)
	wantInt(t, "LayersOfPyramid", sides, n, layers, ok, wantLayers, pyramidal)
	is, ok := impl.IsPyramidal(sides, n)
	wantBool(t, "IsPyramidal", sides, n, is, ok, pyramidal, true)
}

// TestLayersOfPyramid has every pyramid of up to MaxStacked dots, those of more than MaxLayers
// layers among them, and the numbers beside it, which are none.
func TestLayersOfPyramid(t *testing.T) {
	forAllSides(func(sides int) {
		pyramids := stackedPyramids(sides)
		if len(pyramids) < 2*mostLayers {
			t.Fatal("few pyramids", sides, len(pyramids))
		}
		for layers, n := range pyramids {
			checkPyramidal(t, sides, n, layers, true)
			if layers >= 2 {
				checkPyramidal(t, sides, n-1, 0, false)
				checkPyramidal(t, sides, n+1, 0, false)
			}
		}
		_, pyramidal := slices.BinarySearch(pyramids, mostStacked)
		if pyramidal {
			t.Fatal("MaxStacked is pyramidal", sides)
		}
		checkPyramidal(t, sides, mostStacked-1, 0, false)
		checkPyramidal(t, sides, mostStacked, 0, false)
	})
}

func TestLayersOfSmallNumbers(t *testing.T) {
	forAllSides(func(sides int) {
		pyramids := piledPyramids(sides, 30)
		for n := 0; n <= 3000; n++ {
			layers, pyramidal := slices.BinarySearch(pyramids, n)
			if !pyramidal {
				layers = 0
			}
			checkPyramidal(t, sides, n, layers, pyramidal)
		}
	})
}

func TestLayersOfPyramidFails(t *testing.T) {
	check := func(sides int, n int) {
		layers, ok := impl.LayersOfPyramid(sides, n)
		wantInt(t, "LayersOfPyramid", sides, n, layers, ok, 0, false)
		is, ok := impl.IsPyramidal(sides, n)
		wantBool(t, "IsPyramidal", sides, n, is, ok, false, false)
	}
	for _, sides := range badSides {
		for _, n := range []int{0, 1, 4, 10, mostStacked} {
			check(sides, n)
		}
	}
	forAllSides(func(sides int) {
		for _, n := range badStacked {
			check(sides, n)
		}
		// The first pyramid that is too great.
		layers := len(stackedPyramids(sides))
		check(sides, piledPyramids(sides, layers)[layers])
	})
}

func TestLayerList(t *testing.T) {
	forAllSides(func(sides int) {
		for layers := 0; layers <= mostListedLayers; layers++ {
			got, ok := impl.LayerList(sides, layers)
			wantList(t, "LayerList", sides, layers, got, ok, piledLayers(sides, layers), true)
			if cap(got) > len(got) {
				t.Fatal("room behind the layers", sides, layers, cap(got))
			}
		}
		for _, layers := range []int{-mostListedLayers, -2, -1, mostListedLayers + 1, mostListedLayers + 2, mostLayers} {
			got, ok := impl.LayerList(sides, layers)
			wantList(t, "LayerList", sides, layers, got, ok, nil, false)
		}
	})
	for _, sides := range badSides {
		for _, layers := range []int{0, 1, mostListedLayers} {
			got, ok := impl.LayerList(sides, layers)
			wantList(t, "LayerList", sides, layers, got, ok, nil, false)
		}
	}
}

// TestToldBothWays checks the promise: pyramids are the sums of their layers, and the layers
// are found again.
func TestToldBothWays(t *testing.T) {
	forAllSides(func(sides int) {
		sum := 0
		for layers := 1; layers <= mostLayers; layers++ {
			dots, ok := impl.PolygonNumber(sides, layers)
			sum += dots
			number, numberOk := impl.PyramidNumber(sides, layers)
			again, againOk := impl.LayersOfPyramid(sides, number)
			if number != sum || again != layers || !ok || !numberOk || !againOk {
				t.Fatal("pyramid", sides, layers, number, sum, again)
			}
			if layers <= mostListedLayers {
				list, ok := impl.LayerList(sides, layers)
				if sums := addedUp(list); sums[len(sums)-1] != number || !ok {
					t.Fatal("layers", sides, layers, list, number)
				}
			}
		}
	})
}

func checkFrustum(t *testing.T, sides int, from int, to int, want int) {
	t.Helper()
	got, ok := impl.FrustumNumber(sides, from, to)
	if got != want || !ok {
		t.Fatal("FrustumNumber", sides, from, to, got, ok, want)
	}
}

func TestFrustumNumber(t *testing.T) {
	places := []int{1, 2, 3, 4, 10, 199, 200, 201, 999, 1000, mostLayers - 1, mostLayers}
	forAllSides(func(sides int) {
		pyramids := piledPyramids(sides, mostLayers)
		for _, from := range places {
			for _, to := range append([]int{0}, places...) {
				want := 0
				if to >= from {
					want = pyramids[to] - pyramids[from-1]
				}
				checkFrustum(t, sides, from, to, want)
			}
		}
		for from := 1; from <= 20; from++ {
			for to := 0; to <= 20; to++ {
				want := 0
				for place := from; place <= to; place++ {
					dots, _ := impl.PolygonNumber(sides, place)
					want += dots
				}
				checkFrustum(t, sides, from, to, want)
			}
		}
	})
	checkFrustum(t, 4, 3, 4, 9+16)
	checkFrustum(t, 3, mostLayers, mostLayers, 2001000)
	checkFrustum(t, 3, mostLayers, 0, 0)
}

func TestFrustumNumberFails(t *testing.T) {
	check := func(sides int, from int, to int) {
		if got, ok := impl.FrustumNumber(sides, from, to); got != 0 || ok {
			t.Fatal("FrustumNumber", sides, from, to, got, ok)
		}
	}
	forAllSides(func(sides int) {
		for _, other := range []int{0, 1, 2, 24, mostLayers} {
			check(sides, 0, other)
			for _, bad := range badLayers {
				check(sides, bad, other)
				check(sides, max(other, 1), bad)
				check(sides, bad, bad)
			}
		}
	})
	for _, sides := range badSides {
		check(sides, 1, 0)
		check(sides, 1, 3)
		check(sides, 3, 1)
		check(sides, mostLayers, mostLayers)
	}
}

// sharedIndices returns the indices, from 1 on, of the numbers of the first list that are in the
// second one, too. Both lists are increasing.
func sharedIndices(list []int, other []int) []int {
	var indices []int
	at := 0
	for i, n := range list {
		for at < len(other)-1 && other[at] < n {
			at++
		}
		if i > 0 && other[at] == n {
			indices = append(indices, i)
		}
	}
	return indices
}

func TestCannonballs(t *testing.T) {
	forAllSides(func(b int) {
		numbers := piledNumbers(b, 30000000000)
		forAllSides(func(a int) {
			want := sharedIndices(piledPyramids(a, mostLayers), numbers)
			for _, layers := range []int{0, 1, 2, 30, mostLayers} {
				beyond, found := slices.BinarySearch(want, layers)
				if found {
					beyond++
				}
				got, ok := impl.Cannonballs(a, b, layers)
				wantList(t, "Cannonballs", a, b, got, ok, want[:beyond], true)
			}
		})
	})
}

// TestCannonballsThatAreKnown has the few pyramids that are triangular or square, just met by
// the number of layers and just missed.
func TestCannonballsThatAreKnown(t *testing.T) {
	for shapes, want := range map[[2]int][]int{
		{3, 3}: {1, 3, 8, 20, 34},
		{3, 4}: {1, 2, 48},
		{4, 3}: {1, 5, 6, 85},
		{4, 4}: {1, 24},
	} {
		for i, layers := range want {
			got, ok := impl.Cannonballs(shapes[0], shapes[1], layers)
			wantList(t, "Cannonballs", shapes[0], shapes[1], got, ok, want[:i+1], true)
			got, ok = impl.Cannonballs(shapes[0], shapes[1], layers-1)
			wantList(t, "Cannonballs", shapes[0], shapes[1], got, ok, want[:i], true)
		}
		got, ok := impl.Cannonballs(shapes[0], shapes[1], mostLayers)
		wantList(t, "Cannonballs", shapes[0], shapes[1], got, ok, want, true)
	}
}

func TestCannonballsFails(t *testing.T) {
	check := func(a int, b int, layers int) {
		if got, ok := impl.Cannonballs(a, b, layers); got != nil || ok {
			t.Fatal("Cannonballs", a, b, layers, got, ok)
		}
	}
	for _, bad := range badSides {
		for _, layers := range []int{0, 1, 30} {
			check(bad, 4, layers)
			check(4, bad, layers)
			check(bad, bad, layers)
		}
	}
	forAllSides(func(sides int) {
		for _, layers := range badLayers {
			check(sides, 4, layers)
			check(4, sides, layers)
		}
	})
}
