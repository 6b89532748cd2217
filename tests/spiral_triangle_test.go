package tests

import (
	"math"
	"testing"

	"loop.example/g01250/impl"
)

const mostRow = 400

// triangleSpots are those of the rows one behind the other, up to that of MaxSpiral.
func triangleSpots() []impl.Spot {
	var spots []impl.Spot
	for row := 0; len(spots) <= mostSpiral; row++ {
		for x := 0; x <= row; x++ {
			spots = append(spots, impl.Spot{X: x, Y: row})
		}
	}
	return spots[:mostSpiral+1]
}

// zigzagSpots goes along the lines: on odd ones x grows, on even ones y.
func zigzagSpots() []impl.Spot {
	var spots []impl.Spot
	for line := 0; len(spots) <= mostSpiral; line++ {
		for gone := 0; gone <= line; gone++ {
			spot := impl.Spot{X: line - gone, Y: gone}
			if line%2 == 1 {
				spot = impl.Spot{X: gone, Y: line - gone}
			}
			spots = append(spots, spot)
		}
	}
	return spots[:mostSpiral+1]
}

// TestTriangle checks the promise for the triangle: spots and numbers are inverse, up to the
// greatest row whose spots are allowed.
func TestTriangle(t *testing.T) {
	for n, want := range triangleSpots() {
		spot, ok := impl.TriangleSpot(n)
		wantSpot(t, "TriangleSpot", n, spot, ok, want, true)
		wantNumber, valid := n, want.Y <= mostRow
		if !valid {
			wantNumber = 0
		}
		back, ok := impl.TriangleNumber(spot)
		wantInt(t, "TriangleNumber", spot.X, spot.Y, back, ok, wantNumber, valid)
	}
	for n, want := range map[int]impl.Spot{0: {}, 1: {Y: 1}, 2: {X: 1, Y: 1}, 3: {Y: 2}, 80200: {Y: mostRow}, 80600: {X: mostRow, Y: mostRow}, mostSpiral: {X: 1009, Y: 1413}} {
		spot, ok := impl.TriangleSpot(n)
		wantSpot(t, "TriangleSpot", n, spot, ok, want, true)
	}
}

func TestTriangleFails(t *testing.T) {
	for _, n := range badSpiral {
		spot, ok := impl.TriangleSpot(n)
		wantSpot(t, "TriangleSpot", n, spot, ok, impl.Spot{}, false)
	}
	for row := -2; row <= mostRow+2; row++ {
		for x := -2; x <= mostRow+3; x++ {
			if x < 0 || x > row || row > mostRow {
				n, ok := impl.TriangleNumber(impl.Spot{X: x, Y: row})
				wantInt(t, "TriangleNumber", x, row, n, ok, 0, false)
			}
		}
	}
	for _, spot := range badAcross {
		n, ok := impl.TriangleNumber(spot)
		wantInt(t, "TriangleNumber", spot.X, spot.Y, n, ok, 0, false)
	}
}

// TestZigzag checks the promise for the zigzag: spots and numbers are inverse where these are
// allowed, and each line is walked on from the one before.
func TestZigzag(t *testing.T) {
	for n, want := range zigzagSpots() {
		spot, ok := impl.ZigzagSpot(n)
		wantSpot(t, "ZigzagSpot", n, spot, ok, want, true)
		wantNumber, valid := n, want.X <= mostRow && want.Y <= mostRow
		if !valid {
			wantNumber = 0
		}
		back, ok := impl.ZigzagNumber(spot)
		wantInt(t, "ZigzagNumber", spot.X, spot.Y, back, ok, wantNumber, valid)
	}
	for n, want := range map[int]impl.Spot{
		6:          {Y: 3},
		9:          {X: 3},
		10:         {X: 4},
		14:         {Y: 4},
		80200:      {X: mostRow},
		80600:      {Y: mostRow},
		320800:     {X: mostRow, Y: mostRow},
		mostSpiral: {X: 1009, Y: 404},
	} {
		spot, ok := impl.ZigzagSpot(n)
		wantSpot(t, "ZigzagSpot", n, spot, ok, want, true)
	}
}

func TestZigzagStepsGoOn(t *testing.T) {
	before, _ := impl.ZigzagSpot(0)
	for n := 1; n <= mostSpiral; n++ {
		spot, ok := impl.ZigzagSpot(n)
		dx, dy := spot.X-before.X, spot.Y-before.Y
		// A step along a line keeps x and y together the same, and one to the next line changes
		// just one of them.
		along := size(dx) == 1 && dx == -dy
		onward := dx+dy == 1 && dx*dy == 0
		if !along && !onward || !ok {
			t.Fatal("ZigzagSpot", n, spot, ok, before)
		}
		before = spot
	}
}

func TestZigzagFails(t *testing.T) {
	for _, n := range badSpiral {
		spot, ok := impl.ZigzagSpot(n)
		wantSpot(t, "ZigzagSpot", n, spot, ok, impl.Spot{}, false)
	}
	for _, bad := range []int{math.MinInt, -mostRow, -1, mostRow + 1, mostRow + 2, math.MaxInt} {
		for _, good := range []int{0, 1, 7, mostRow, bad} {
			n, ok := impl.ZigzagNumber(impl.Spot{X: bad, Y: good})
			wantInt(t, "ZigzagNumber", bad, good, n, ok, 0, false)
			n, ok = impl.ZigzagNumber(impl.Spot{X: good, Y: bad})
			wantInt(t, "ZigzagNumber", good, bad, n, ok, 0, false)
		}
	}
}
