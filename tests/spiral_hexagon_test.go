package tests

import (
	"math"
	"sync"
	"testing"

	"loop.example/g01250/impl"
)

var hexagonSteps = [][2]int{{1, 0}, {0, 1}, {-1, 1}, {-1, 0}, {0, -1}, {1, -1}}

var hexagonSpiral = sync.OnceValue(func() *laidSpiral {
	laid := &laidSpiral{spots: []impl.Spot{{}}}
	for ring := 1; ring <= reach; ring++ {
		laid.walk(1, 0, 1)
		laid.walk(0, 1, ring-1)
		for _, step := range [][2]int{{-1, 1}, {-1, 0}, {0, -1}, {1, -1}, {1, 0}} {
			laid.walk(step[0], step[1], ring)
		}
	}
	return laid
})

// hexagonNumbers are ordinary ones and great ones, and those at the ends of rings and corners.
func hexagonNumbers() []int {
	var numbers []int
	for n := 0; n <= 1500; n++ {
		numbers = append(numbers, n)
	}
	for n := 991; n <= mostSpiral; n += 991 {
		numbers = append(numbers, n)
	}
	for ring := 1; ring <= 576; ring++ {
		for corner := range 6 {
			n := 3*ring*(ring-1) + (corner+1)*ring
			numbers = append(numbers, n-1, n, n+1)
		}
	}
	return append(numbers, mostSpiral-2, mostSpiral-1, mostSpiral)
}

func TestHexSpotOf(t *testing.T) {
	for n, want := range hexagonSpiral().spots[:mostSpiral+1] {
		spot, ok := impl.HexSpotOf(n)
		wantSpot(t, "HexSpotOf", n, spot, ok, want, true)
	}
	for n, want := range []impl.Spot{{}, {X: 1}, {Y: 1}, {X: -1, Y: 1}, {X: -1}, {Y: -1}, {X: 1, Y: -1}, {X: 2, Y: -1}, {X: 2}} {
		spot, ok := impl.HexSpotOf(n)
		wantSpot(t, "HexSpotOf", n, spot, ok, want, true)
	}
	for _, n := range badSpiral {
		spot, ok := impl.HexSpotOf(n)
		wantSpot(t, "HexSpotOf", n, spot, ok, impl.Spot{}, false)
	}
}

// TestHexStepsGoOnByOne checks the promise: each number is beside the one before it, and so the
// first one of a ring beside the last one of the ring before.
func TestHexStepsGoOnByOne(t *testing.T) {
	before, _ := impl.HexSpotOf(0)
	for n := 1; n <= mostSpiral; n++ {
		spot, ok := impl.HexSpotOf(n)
		beside := false
		for _, step := range hexagonSteps {
			beside = beside || spot == impl.Spot{X: before.X + step[0], Y: before.Y + step[1]}
		}
		if !beside || !ok {
			t.Fatal("HexSpotOf", n, spot, ok, before)
		}
		before = spot
	}
}

func isHexagonSpot(x int, y int) bool {
	return size(x) <= mostAcross && size(y) <= mostAcross && size(x+y) <= mostAcross
}

// TestHexSpotsAndNumbersAreInverse checks the promise for the hexagon spiral: all spots in the
// square around it are looked at, and just those succeed that are allowed.
func TestHexSpotsAndNumbersAreInverse(t *testing.T) {
	for x := -mostAcross - 1; x <= mostAcross+1; x++ {
		for y := -mostAcross - 1; y <= mostAcross+1; y++ {
			want, valid := 0, isHexagonSpot(x, y)
			if valid {
				want = hexagonSpiral().at(x, y)
			}
			n, ok := impl.HexNumberAt(impl.Spot{X: x, Y: y})
			wantInt(t, "HexNumberAt", x, y, n, ok, want, valid)
		}
	}
	last := 3 * mostAcross * (mostAcross + 1)
	for n := 0; n <= last; n++ {
		spot, _ := impl.HexSpotOf(n)
		back, ok := impl.HexNumberAt(spot)
		wantInt(t, "HexNumberAt", spot.X, spot.Y, back, ok, n, true)
	}
	spot, _ := impl.HexSpotOf(last + 1)
	n, ok := impl.HexNumberAt(spot)
	wantInt(t, "HexNumberAt", spot.X, spot.Y, n, ok, 0, false)
}

func TestHexNumberAt(t *testing.T) {
	for spot, want := range map[impl.Spot]int{
		{}:                              0,
		{X: mostAcross}:                 479200,
		{Y: mostAcross}:                 479600,
		{X: -mostAcross, Y: mostAcross}: 480000,
		{X: -mostAcross}:                480400,
		{Y: -mostAcross}:                480800,
		{X: mostAcross, Y: -mostAcross}: 481200,
		{X: 200, Y: 200}:                479400,
		{X: -200, Y: -200}:              480600,
	} {
		n, ok := impl.HexNumberAt(spot)
		wantInt(t, "HexNumberAt", spot.X, spot.Y, n, ok, want, true)
	}
	tooGreat := []impl.Spot{{X: 1, Y: mostAcross}, {X: mostAcross, Y: 1}, {X: 200, Y: 201}, {X: -200, Y: -201}, {X: -mostAcross, Y: -1}, {X: mostAcross, Y: mostAcross}}
	for _, spot := range append(tooGreat, badAcross...) {
		n, ok := impl.HexNumberAt(spot)
		wantInt(t, "HexNumberAt", spot.X, spot.Y, n, ok, 0, false)
	}
}

// TestHexRingOf counts the ring of each number by walking 6 r numbers for the ring r.
func TestHexRingOf(t *testing.T) {
	want, last := 0, 0
	for n := 0; n <= mostSpiral; n++ {
		if n > last {
			want++
			last += 6 * want
		}
		ring, ok := impl.HexRingOf(n)
		wantInt(t, "HexRingOf", n, 0, ring, ok, want, true)
	}
	for n, want := range map[int]int{0: 0, 1: 1, 6: 1, 7: 2, 18: 2, 19: 3, 748500: 499, 748501: 500, 997056: 576, 997057: 577, mostSpiral: 577} {
		ring, ok := impl.HexRingOf(n)
		wantInt(t, "HexRingOf", n, 0, ring, ok, want, true)
	}
	for _, n := range badSpiral {
		ring, ok := impl.HexRingOf(n)
		wantInt(t, "HexRingOf", n, 0, ring, ok, 0, false)
	}
}

func TestHexBeside(t *testing.T) {
	laid := hexagonSpiral()
	for _, n := range hexagonNumbers() {
		var want []int
		for _, step := range hexagonSteps {
			want = append(want, laid.at(laid.spots[n].X+step[0], laid.spots[n].Y+step[1]))
		}
		numbers, ok := impl.HexBeside(n)
		wantList(t, "HexBeside", n, 0, numbers, ok, want, true)
	}
	for n, want := range map[int][]int{
		0: {1, 2, 3, 4, 5, 6},
		1: {8, 9, 2, 0, 6, 7},
		6: {7, 1, 0, 5, 17, 18},
		7: {20, 8, 1, 6, 18, 19},
	} {
		numbers, ok := impl.HexBeside(n)
		wantList(t, "HexBeside", n, 0, numbers, ok, want, true)
	}
	for _, n := range badSpiral {
		numbers, ok := impl.HexBeside(n)
		wantList(t, "HexBeside", n, 0, numbers, ok, nil, false)
	}
}

// hexagonSteppedFrom returns the fewest steps from a spot to all those up to so many steps away.
func hexagonSteppedFrom(from impl.Spot, most int) map[impl.Spot]int {
	fewest := map[impl.Spot]int{from: 0}
	last := []impl.Spot{from}
	for steps := 1; steps <= most; steps++ {
		var next []impl.Spot
		for _, spot := range last {
			for _, step := range hexagonSteps {
				beside := impl.Spot{X: spot.X + step[0], Y: spot.Y + step[1]}
				if _, found := fewest[beside]; !found {
					fewest[beside] = steps
					next = append(next, beside)
				}
			}
		}
		last = next
	}
	return fewest
}

func TestHexDistance(t *testing.T) {
	laid := hexagonSpiral()
	for _, a := range []int{0, 1, 6, 7, 18, 19, 37, 100, 271, 5000, 750000, 990000} {
		for spot, want := range hexagonSteppedFrom(laid.spots[a], 12) {
			if b := laid.at(spot.X, spot.Y); b <= mostSpiral {
				distance, ok := impl.HexDistance(a, b)
				wantInt(t, "HexDistance", a, b, distance, ok, want, true)
			}
		}
	}
	for _, pair := range badPairsOfNumbers() {
		distance, ok := impl.HexDistance(pair[0], pair[1])
		wantInt(t, "HexDistance", pair[0], pair[1], distance, ok, 0, false)
	}
}

// TestHexDistanceFar tells the steps by signs: of a step of each axis those of unlike signs make
// one.
func TestHexDistanceFar(t *testing.T) {
	spots := hexagonSpiral().spots
	for _, pair := range spiralPairs() {
		dx, dy := spots[pair[1]].X-spots[pair[0]].X, spots[pair[1]].Y-spots[pair[0]].Y
		want := size(dx) + size(dy)
		if dx < 0 != (dy < 0) {
			want -= min(size(dx), size(dy))
		}
		distance, ok := impl.HexDistance(pair[0], pair[1])
		wantInt(t, "HexDistance", pair[0], pair[1], distance, ok, want, true)
	}
	for pair, want := range map[[2]int]int{{0, 0}: 0, {6, 7}: 1, {18, 19}: 1, {0, mostSpiral}: 577, {1, 4}: 2, {mostSpiral, mostSpiral}: 0} {
		distance, ok := impl.HexDistance(pair[0], pair[1])
		wantInt(t, "HexDistance", pair[0], pair[1], distance, ok, want, true)
	}
	if distance, ok := impl.HexDistance(0, math.MaxInt); distance != 0 || ok {
		t.Error("HexDistance", distance, ok)
	}
}
