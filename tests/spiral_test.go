package tests

import (
	"math"
	"sync"
	"testing"

	"loop.example/g01250/impl"
)

// The numbers are stated here once more, so that a changed limit is found.
const (
	mostSpiral   = 1000000
	mostAcross   = 400
	mostRing     = 499
	mostDiagonal = 400
	mostWindow   = 20
)

// reach is the greatest size of x and y of the spots that the tests look at: the numbers beside
// MaxSpiral are among them in each spiral.
const reach = 600

var badSpiral = []int{math.MinInt, -mostSpiral, -8, -1, mostSpiral + 1, mostSpiral + 2, math.MaxInt}

// badAcross has spots with x or y out of bounds, or both.
var badAcross = []impl.Spot{
	{X: -mostAcross - 1}, {X: mostAcross + 1}, {Y: -mostAcross - 1}, {Y: mostAcross + 1},
	{X: mostAcross, Y: mostAcross + 1}, {X: mostAcross + 1, Y: -mostAcross}, {X: -mostAcross - 1, Y: -mostAcross - 1},
	{X: math.MinInt}, {Y: math.MinInt}, {X: math.MaxInt}, {Y: math.MaxInt},
	{X: math.MinInt, Y: math.MinInt}, {X: math.MaxInt, Y: math.MaxInt}, {X: math.MinInt, Y: math.MaxInt},
}

// laidSpiral has the spots of a spiral that was walked, in the order of their numbers, and the
// numbers at all spots up to reach.
type laidSpiral struct {
	spots   []impl.Spot
	numbers [2*reach + 1][2*reach + 1]int
}

func (l *laidSpiral) walk(dx int, dy int, steps int) {
	at := l.spots[len(l.spots)-1]
	for range steps {
		at = impl.Spot{X: at.X + dx, Y: at.Y + dy}
		if size(at.X) <= reach && size(at.Y) <= reach {
			l.numbers[at.X+reach][at.Y+reach] = len(l.spots)
		}
		l.spots = append(l.spots, at)
	}
}

func (l *laidSpiral) at(x int, y int) int {
	return l.numbers[x+reach][y+reach]
}

// squareSpiral goes a step to the east, one to the north, two to the west, two to the south,
// three to the east, and so on.
var squareSpiral = sync.OnceValue(func() *laidSpiral {
	laid := &laidSpiral{spots: []impl.Spot{{}}}
	step := 1
	for length := 1; length <= 2*reach; length++ {
		laid.walk(step, 0, length)
		laid.walk(0, step, length)
		step = -step
	}
	return laid
})

func size(n int) int {
	if n < 0 {
		return -n
	}
	return n
}

func wantSpot(t *testing.T, call string, n int, got impl.Spot, ok bool, want impl.Spot, wantOk bool) {
	t.Helper()
	if got != want || ok != wantOk {
		t.Fatalf("%s of %d is %v, %v, not %v, %v", call, n, got, ok, want, wantOk)
	}
}

func TestSpiralLimits(t *testing.T) {
	if impl.MaxSpiral != mostSpiral {
		t.Error("limit", impl.MaxSpiral)
	}
}

func TestSpiralExample(t *testing.T) {
	for n, want := range []impl.Spot{{}, {X: 1}, {X: 1, Y: 1}, {Y: 1}, {X: -1, Y: 1}} {
		spot, ok := impl.SpotOf(n)
		wantSpot(t, "SpotOf", n, spot, ok, want, true)
	}
	least, greatest, ok := impl.RingNumbers(1)
	wantPair(t, "RingNumbers", 1, least, greatest, ok, 1, 8, true)
	spot, ok := impl.SpotOf(8)
	wantSpot(t, "SpotOf", 8, spot, ok, impl.Spot{X: 1, Y: -1}, true)
	numbers, ok := impl.DiagonalOf(1, 1, 4)
	wantList(t, "DiagonalOf", 1, 1, numbers, ok, []int{0, 2, 12, 30}, true)
	for n, want := range map[int]impl.Spot{1: {X: 1}, 6: {X: 1, Y: -1}} {
		spot, ok := impl.HexSpotOf(n)
		wantSpot(t, "HexSpotOf", n, spot, ok, want, true)
	}
	spot, ok = impl.TriangleSpot(4)
	wantSpot(t, "TriangleSpot", 4, spot, ok, impl.Spot{X: 1, Y: 2}, true)
	for n, want := range []impl.Spot{{}, {Y: 1}, {X: 1}, {X: 2}, {X: 1, Y: 1}, {Y: 2}} {
		spot, ok := impl.ZigzagSpot(n)
		wantSpot(t, "ZigzagSpot", n, spot, ok, want, true)
	}
}

func TestSpotOf(t *testing.T) {
	for n, want := range squareSpiral().spots[:mostSpiral+1] {
		spot, ok := impl.SpotOf(n)
		wantSpot(t, "SpotOf", n, spot, ok, want, true)
	}
	for n, want := range map[int]impl.Spot{
		9:              {X: 2, Y: -1},
		12:             {X: 2, Y: 2},
		16:             {X: -2, Y: 2},
		20:             {X: -2, Y: -2},
		24:             {X: 2, Y: -2},
		998000:         {X: 499, Y: -499},
		998001:         {X: 500, Y: -499},
		mostSpiral - 1: {X: -499, Y: 500},
		mostSpiral:     {X: -500, Y: 500},
	} {
		spot, ok := impl.SpotOf(n)
		wantSpot(t, "SpotOf", n, spot, ok, want, true)
	}
	for _, n := range badSpiral {
		spot, ok := impl.SpotOf(n)
		wantSpot(t, "SpotOf", n, spot, ok, impl.Spot{}, false)
	}
}

// TestSpotsAndNumbersAreInverse checks the promise for the spiral: at all spots that are allowed,
// and for all numbers that have such spots.
func TestSpotsAndNumbersAreInverse(t *testing.T) {
	for x := -mostAcross; x <= mostAcross; x++ {
		for y := -mostAcross; y <= mostAcross; y++ {
			n, ok := impl.NumberAt(impl.Spot{X: x, Y: y})
			wantInt(t, "NumberAt", x, y, n, ok, squareSpiral().at(x, y), true)
			spot, ok := impl.SpotOf(n)
			wantSpot(t, "SpotOf", n, spot, ok, impl.Spot{X: x, Y: y}, true)
		}
	}
	across := 2*mostAcross + 1
	for n := range across * across {
		spot, _ := impl.SpotOf(n)
		back, ok := impl.NumberAt(spot)
		wantInt(t, "NumberAt", spot.X, spot.Y, back, ok, n, true)
	}
	spot, _ := impl.SpotOf(across * across)
	n, ok := impl.NumberAt(spot)
	wantInt(t, "NumberAt", spot.X, spot.Y, n, ok, 0, false)
}

func TestNumberAt(t *testing.T) {
	for spot, want := range map[impl.Spot]int{
		{}:                              0,
		{X: mostAcross}:                 638800,
		{Y: mostAcross}:                 639600,
		{X: -mostAcross}:                640400,
		{Y: -mostAcross}:                641200,
		{X: mostAcross, Y: -mostAcross}: 641600,
		{X: mostAcross, Y: mostAcross}:  639200,
	} {
		n, ok := impl.NumberAt(spot)
		wantInt(t, "NumberAt", spot.X, spot.Y, n, ok, want, true)
	}
	for _, spot := range badAcross {
		n, ok := impl.NumberAt(spot)
		wantInt(t, "NumberAt", spot.X, spot.Y, n, ok, 0, false)
	}
}

func TestRings(t *testing.T) {
	ends := map[int][2]int{}
	for n, spot := range squareSpiral().spots[:mostSpiral+1] {
		want := max(size(spot.X), size(spot.Y))
		ring, ok := impl.RingOf(n)
		wantInt(t, "RingOf", n, 0, ring, ok, want, true)
		if _, begun := ends[want]; !begun {
			ends[want] = [2]int{n, n}
		}
		ends[want] = [2]int{ends[want][0], n}
	}
	for ring := 0; ring <= mostRing; ring++ {
		least, greatest, ok := impl.RingNumbers(ring)
		wantPair(t, "RingNumbers", ring, least, greatest, ok, ends[ring][0], ends[ring][1], true)
	}
}

func TestRingEnds(t *testing.T) {
	for ring, want := range map[int][2]int{0: {0, 0}, 1: {1, 8}, 2: {9, 24}, mostRing: {994009, 998000}} {
		least, greatest, ok := impl.RingNumbers(ring)
		wantPair(t, "RingNumbers", ring, least, greatest, ok, want[0], want[1], true)
	}
	for n, want := range map[int]int{0: 0, 1: 1, 8: 1, 9: 2, 24: 2, 25: 3, 998000: 499, 998001: 500, mostSpiral: 500} {
		ring, ok := impl.RingOf(n)
		wantInt(t, "RingOf", n, 0, ring, ok, want, true)
	}
	for _, n := range badSpiral {
		ring, ok := impl.RingOf(n)
		wantInt(t, "RingOf", n, 0, ring, ok, 0, false)
	}
	for _, ring := range []int{math.MinInt, -mostRing, -1, mostRing + 1, mostRing + 2, math.MaxInt} {
		least, greatest, ok := impl.RingNumbers(ring)
		wantPair(t, "RingNumbers", ring, least, greatest, ok, 0, 0, false)
	}
}

// TestStepFrom checks the promise: steps go on by one, and lead to the spot of the next number.
func TestStepFrom(t *testing.T) {
	spots := squareSpiral().spots
	for n := 0; n <= mostSpiral; n++ {
		want := impl.Spot{X: spots[n+1].X - spots[n].X, Y: spots[n+1].Y - spots[n].Y}
		step, ok := impl.StepFrom(n)
		wantSpot(t, "StepFrom", n, step, ok, want, true)
		wantInt(t, "the size of StepFrom", n, 0, size(step.X)+size(step.Y), ok, 1, true)
	}
	east, north, west, south := impl.Spot{X: 1}, impl.Spot{Y: 1}, impl.Spot{X: -1}, impl.Spot{Y: -1}
	for n, want := range []impl.Spot{east, north, west, west, south, south, east, east, east, north, north, north, west} {
		step, ok := impl.StepFrom(n)
		wantSpot(t, "StepFrom", n, step, ok, want, true)
	}
	step, ok := impl.StepFrom(mostSpiral)
	wantSpot(t, "StepFrom", mostSpiral, step, ok, south, true)
	for _, n := range badSpiral {
		step, ok := impl.StepFrom(n)
		wantSpot(t, "StepFrom", n, step, ok, impl.Spot{}, false)
	}
}
