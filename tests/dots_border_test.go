package tests

import (
	"slices"
	"strings"
	"testing"

	"loop.example/g01250/impl"
)

// borderText is told as the document does: the dots of the first and last rows and columns, and
// those beside a place without a dot.
func borderText(text string) string {
	rows := rowsOf(text)
	wide, high := len(rows[0]), len(rows)
	return drawText(wide, high, func(column int, row int) bool {
		if rows[row][column] != 'o' {
			return false
		}
		if column == 0 || row == 0 || column == wide-1 || row == high-1 {
			return true
		}
		return rows[row][column-1] == '.' || rows[row][column+1] == '.' || rows[row-1][column] == '.' || rows[row+1][column] == '.'
	})
}

// lessText is the picture without the dots of another one.
func lessText(text string, taken string) string {
	left := []byte(text)
	for i := range left {
		if taken[i] == 'o' {
			left[i] = '.'
		}
	}
	return string(left)
}

// layersOfText counts the dots by how many steps they are from the nearest place without one, the
// places around the picture among those: each border that is taken brings it a step nearer.
func layersOfText(text string) []int {
	rows := rowsOf(text)
	var layers []int
	for row := range rows {
		for column := range rows[row] {
			steps := stepsToNoDot(rows, column, row)
			for len(layers) < steps {
				layers = append(layers, 0)
			}
			if steps > 0 {
				layers[steps-1]++
			}
		}
	}
	return layers
}

func stepsToNoDot(rows []string, column int, row int) int {
	for steps := 0; ; steps++ {
		for across := -steps; across <= steps; across++ {
			down := steps - size(across)
			if !dotAt(rows, column+across, row+down) || !dotAt(rows, column+across, row-down) {
				return steps
			}
		}
	}
}

func checkLayers(t *testing.T, text string, want []int, wantOk bool) {
	t.Helper()
	got, ok := impl.LayersOfPicture(text)
	if !slices.Equal(got, want) || ok != wantOk {
		t.Fatalf("LayersOfPicture of %q is %d, %v, not %d, %v", text, got, ok, want, wantOk)
	}
}

func TestBorderDots(t *testing.T) {
	checkOfText(t, "BorderDots", impl.BorderDots, map[string]string{
		"o": "o", ".": ".", "../..": "../..", "ooo": "ooo", "o/o/o": "o/o/o", "oo/oo": "oo/oo",
		"ooo/ooo/ooo":                   "ooo/o.o/ooo",
		".../.o./...":                   ".../.o./...",
		".oo/ooo/oo.":                   ".oo/o.o/oo.",
		".o./ooo/.o.":                   ".o./o.o/.o.",
		"ooooo/ooooo/oo.oo/ooooo/ooooo": "ooooo/o.o.o/oo.oo/o.o.o/ooooo",
		"oooo/oooo/oooo/ooo.":           "oooo/o..o/o..o/ooo.",
		filledText(24, 2, "o"):          filledText(24, 2, "o"),
	})
	for _, text := range allPictures() {
		got, ok := impl.BorderDots(text)
		wantText(t, "BorderDots", text, got, ok, borderText(text), true)
	}
	checkBadPictures(t, "BorderDots", impl.BorderDots)
}

func TestTakeBorder(t *testing.T) {
	checkOfText(t, "TakeBorder", impl.TakeBorder, map[string]string{
		"o": ".", ".": ".", "../..": "../..", "ooo": "...", "o/o/o": "././.", "oo/oo": "../..",
		"ooo/ooo/ooo":                   ".../.o./...",
		".../.o./...":                   ".../.../...",
		".o./ooo/.o.":                   ".../.o./...",
		"ooooo/ooooo/oo.oo/ooooo/ooooo": "...../.o.o./...../.o.o./.....",
		"oooo/oooo/oooo/ooo.":           "..../.oo./.oo./....",
		filledText(24, 2, "o"):          filledText(24, 2, "."),
	})
	for _, text := range allPictures() {
		got, ok := impl.TakeBorder(text)
		wantText(t, "TakeBorder", text, got, ok, lessText(text, borderText(text)), true)
	}
	checkBadPictures(t, "TakeBorder", impl.TakeBorder)
}

// TestBordersShareDots checks that each dot is either in the border or in what is left, and that
// each picture with dots has some in the border.
func TestBordersShareDots(t *testing.T) {
	for _, text := range allPictures() {
		border, _ := impl.BorderDots(text)
		left, _ := impl.TakeBorder(text)
		if shared := sharedDots(t, strings.ReplaceAll(text, "o", "."), []string{border, left}); shared != text {
			t.Fatalf("%q has the border %q and besides %q", text, border, left)
		}
		if dotsIn(t, border)+dotsIn(t, left) != dotsIn(t, text) || dotsIn(t, text) > 0 && dotsIn(t, border) == 0 {
			t.Fatalf("%q has the border %q", text, border)
		}
	}
}

func TestLayersOfPicture(t *testing.T) {
	for text, want := range map[string][]int{
		"o": {1}, ".": nil, "../..": nil, "ooo": {3}, "o/o": {2}, "o.o": {2}, "ooo/ooo/ooo": {8, 1}, "ooo/o.o/ooo": {8},
		".o./ooo/.o.": {4, 1}, ".oo/ooo/oo.": {6, 1}, "o../oo./ooo": {6}, "oooo/oooo/oooo": {10, 2}, "oooo/oooo/oooo/ooo.": {11, 4},
		"ooooo/ooooo/oo.oo/ooooo/ooooo": {20, 4},
		".../.o./...":                   {1},
		filledText(24, 1, "o"):          {24},
		filledText(1, 24, "o"):          {24},
		filledText(24, 2, "o"):          {48},
		filledText(3, 24, "o"):          {50, 22},
		filledText(24, 24, "."):         nil,
	} {
		checkLayers(t, text, want, true)
	}
	for _, text := range allPictures() {
		checkLayers(t, text, layersOfText(text), true)
	}
	for _, text := range badPictures() {
		checkLayers(t, text, nil, false)
	}
}

// TestLayersShareDots checks that layers are the dots of the borders that are taken one by one, and
// together all of them.
func TestLayersShareDots(t *testing.T) {
	for _, text := range allPictures() {
		layers, ok := impl.LayersOfPicture(text)
		sum := 0
		left := text
		for _, layer := range layers {
			border, _ := impl.BorderDots(left)
			if layer < 1 || dotsIn(t, border) != layer {
				t.Fatalf("LayersOfPicture of %q is %d", text, layers)
			}
			sum += layer
			left, _ = impl.TakeBorder(left)
		}
		if sum != dotsIn(t, text) || dotsIn(t, left) != 0 || !ok {
			t.Fatalf("LayersOfPicture of %q is %d, %v", text, layers, ok)
		}
	}
}

// ringsAround is how many dots the layers of a picture have that shrinks to a dot or to a few.
func ringsAround(first int, step int, least int) []int {
	var layers []int
	for dots := first; dots > 0; dots -= step {
		layers = append(layers, dots)
	}
	if least > 0 {
		layers = append(layers, least)
	}
	return layers
}

// TestLayersOfDrawnPictures has layers that chapter 1 tells: a centred number has its polygons
// around a dot, a square has every second one in it, and a triangle every third one.
func TestLayersOfDrawnPictures(t *testing.T) {
	for k := 1; k <= mostDots; k++ {
		square, _ := impl.SquarePicture(k)
		checkLayers(t, square, ringsAround(4*(k-1), 8, k%2), true)
		gnomon, _ := impl.GnomonPicture(k)
		checkLayers(t, gnomon, []int{2*k - 1}, true)
		triangular, _ := impl.TrianglePicture(k)
		least := 0
		if k%3 == 1 {
			least = 1
		}
		checkLayers(t, triangular, ringsAround(3*(k-1), 9, least), true)
	}
	for k := 1; k <= mostMiddled; k++ {
		diamond, _ := impl.DiamondPicture(k)
		checkLayers(t, diamond, ringsAround(4*(k-1), 4, 1), true)
		hexagon, _ := impl.HexagonPicture(k)
		checkLayers(t, hexagon, ringsAround(6*(k-1), 6, 1), true)
	}
}

// TestLayersOfTurnedPictures checks that turning and mirroring changes no layer.
func TestLayersOfTurnedPictures(t *testing.T) {
	for _, text := range greatPictures() {
		want, _ := impl.LayersOfPicture(text)
		checkLayers(t, turnedText(text), want, true)
		checkLayers(t, mirroredText(text), want, true)
	}
}
