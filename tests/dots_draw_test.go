package tests

import (
	"math"
	"strings"
	"testing"

	"loop.example/g01250/impl"
)

// signs is a row that has so many places without a dot, dots, and places without a dot behind them.
func signs(before int, dots int, behind int) string {
	return strings.Repeat(".", before) + strings.Repeat("o", dots) + strings.Repeat(".", behind)
}

// checkDrawn checks the pictures of all k up to most against their rows, and against the numbers of
// dots that chapter 1 tells, and that there are none for other k.
func checkDrawn(t *testing.T, call string, draw func(int) (string, bool), most int, rowsOfK func(k int) []string, dotsOfK func(k int) (int, bool)) {
	t.Helper()
	for k := 1; k <= most; k++ {
		text, ok := draw(k)
		wantText(t, call, k, text, ok, strings.Join(rowsOfK(k), "/"), true)
		if want, told := dotsOfK(k); dotsIn(t, text) != want || !told {
			t.Fatal(call, k, dotsIn(t, text), want, told)
		}
	}
	for _, k := range []int{math.MinInt, -most, -13, -2, -1, 0, most + 1, most + 2, mostDots + 1, mostDots + 2, 1 << 32, 1<<32 + 1, math.MaxInt} {
		text, ok := draw(k)
		wantText(t, call, k, text, ok, "", false)
	}
}

func checkDrawnTexts(t *testing.T, call string, draw func(int) (string, bool), texts map[int]string) {
	t.Helper()
	for k, want := range texts {
		text, ok := draw(k)
		wantText(t, call, k, text, ok, want, true)
	}
}

func TestTrianglePicture(t *testing.T) {
	checkDrawnTexts(t, "TrianglePicture", impl.TrianglePicture, map[int]string{1: "o", 2: "o./oo", 4: "o.../oo../ooo./oooo"})
	rows := func(k int) []string {
		var rows []string
		for dots := 1; dots <= k; dots++ {
			rows = append(rows, signs(0, dots, k-dots))
		}
		return rows
	}
	checkDrawn(t, "TrianglePicture", impl.TrianglePicture, mostDots, rows, func(k int) (int, bool) { return impl.PolygonNumber(3, k) })
}

func TestSquarePicture(t *testing.T) {
	checkDrawnTexts(t, "SquarePicture", impl.SquarePicture, map[int]string{1: "o", 2: "oo/oo", 3: "ooo/ooo/ooo"})
	rows := func(k int) []string { return rowsOf(filledText(k, k, "o")) }
	checkDrawn(t, "SquarePicture", impl.SquarePicture, mostDots, rows, func(k int) (int, bool) { return impl.PolygonNumber(4, k) })
}

func TestDiamondPicture(t *testing.T) {
	checkDrawnTexts(t, "DiamondPicture", impl.DiamondPicture, map[int]string{1: "o", 3: "..o../.ooo./ooooo/.ooo./..o.."})
	rows := func(k int) []string {
		var rows []string
		for row := 1 - k; row < k; row++ {
			rows = append(rows, signs(size(row), 2*(k-size(row))-1, size(row)))
		}
		return rows
	}
	checkDrawn(t, "DiamondPicture", impl.DiamondPicture, mostMiddled, rows, func(k int) (int, bool) { return impl.CentredNumber(4, k) })
}

func TestHexagonPicture(t *testing.T) {
	checkDrawnTexts(t, "HexagonPicture", impl.HexagonPicture, map[int]string{1: "o", 3: "..ooo/.oooo/ooooo/oooo./ooo.."})
	rows := func(k int) []string {
		var rows []string
		for row := 1 - k; row < k; row++ {
			rows = append(rows, signs(max(0, -row), 2*k-1-size(row), max(0, row)))
		}
		return rows
	}
	checkDrawn(t, "HexagonPicture", impl.HexagonPicture, mostMiddled, rows, func(k int) (int, bool) { return impl.CentredNumber(6, k) })
}

func TestGnomonPicture(t *testing.T) {
	checkDrawnTexts(t, "GnomonPicture", impl.GnomonPicture, map[int]string{1: "o", 2: ".o/oo", 4: "...o/...o/...o/oooo"})
	rows := func(k int) []string {
		var rows []string
		for range k - 1 {
			rows = append(rows, signs(k-1, 1, 0))
		}
		return append(rows, signs(0, k, 0))
	}
	checkDrawn(t, "GnomonPicture", impl.GnomonPicture, mostDots, rows, func(k int) (int, bool) { return impl.GnomonOf(4, k) })
}

// TestMiddles checks that diamonds and hexagons have their middle dot at the same row and column,
// and are the same to all sides of it.
func TestMiddles(t *testing.T) {
	for k := 1; k <= mostMiddled; k++ {
		for name, draw := range map[string]func(int) (string, bool){"DiamondPicture": impl.DiamondPicture, "HexagonPicture": impl.HexagonPicture} {
			text, _ := draw(k)
			wide, high, ok := impl.SizeOfPicture(text)
			if wide != 2*k-1 || high != 2*k-1 || !ok {
				t.Fatal(name, k, wide, high, ok)
			}
			// The text of a picture with a middle, from the end on, is that of the picture turned by a half.
			middle := len(text) / 2
			if text[middle] != 'o' || strings.Count(text[:middle], "o") != strings.Count(text[middle+1:], "o") {
				t.Fatal(name, k, text)
			}
			for i := range text {
				if text[i] != text[len(text)-1-i] {
					t.Fatal(name, k, text)
				}
			}
		}
	}
}
