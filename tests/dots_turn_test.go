package tests

import (
	"slices"
	"strings"
	"testing"

	"loop.example/g01250/impl"
)

// turnedText has its rows from the columns, each read from below.
func turnedText(text string) string {
	rows := rowsOf(text)
	var turned []string
	for column := range rows[0] {
		var row strings.Builder
		for i := len(rows) - 1; i >= 0; i-- {
			row.WriteByte(rows[i][column])
		}
		turned = append(turned, row.String())
	}
	return strings.Join(turned, "/")
}

func mirroredText(text string) string {
	rows := rowsOf(text)
	for i, row := range rows {
		signs := []byte(row)
		slices.Reverse(signs)
		rows[i] = string(signs)
	}
	return strings.Join(rows, "/")
}

// eightTexts are told by the places: rows and columns are exchanged or not, and each of them is
// counted from either end.
func eightTexts(text string) []string {
	rows := rowsOf(text)
	wide, high := len(rows[0]), len(rows)
	at := func(column int, row int) bool { return rows[row][column] == 'o' }
	var texts []string
	for ends := range 4 {
		ended := func(column int, row int) bool {
			if ends&1 == 1 {
				column = wide - 1 - column
			}
			if ends&2 == 2 {
				row = high - 1 - row
			}
			return at(column, row)
		}
		exchanged := func(column int, row int) bool { return ended(row, column) }
		texts = append(texts, drawText(wide, high, ended), drawText(high, wide, exchanged))
	}
	return texts
}

func checkOfText(t *testing.T, call string, made func(string) (string, bool), texts map[string]string) {
	t.Helper()
	for text, want := range texts {
		got, ok := made(text)
		wantText(t, call, text, got, ok, want, true)
	}
}

func TestTurnPicture(t *testing.T) {
	checkOfText(t, "TurnPicture", impl.TurnPicture, map[string]string{
		"o": "o", ".": ".", "o.": "o/.", "o/.": ".o", "oo./...": ".o/.o/..", "o../oo./ooo": "ooo/oo./o..",
		".o./ooo/.o.": ".o./ooo/.o.", ".oo/ooo/oo.": "oo./ooo/.oo",
		filledText(24, 1, "."): filledText(1, 24, "."), filledText(24, 23, "o"): filledText(23, 24, "o"), filledText(24, 24, "o"): filledText(24, 24, "o"),
	})
	for _, text := range allPictures() {
		got, ok := impl.TurnPicture(text)
		wantText(t, "TurnPicture", text, got, ok, turnedText(text), true)
		for range 3 {
			got, ok = impl.TurnPicture(got)
		}
		wantText(t, "TurnPicture four times", text, got, ok, text, true)
	}
	checkBadPictures(t, "TurnPicture", impl.TurnPicture)
}

func TestMirrorPicture(t *testing.T) {
	checkOfText(t, "MirrorPicture", impl.MirrorPicture, map[string]string{
		"o": "o", ".": ".", "o.": ".o", "o/.": "o/.", "oo./...": ".oo/...", "o../oo./ooo": "..o/.oo/ooo",
		".o./ooo/.o.": ".o./ooo/.o.", ".oo/ooo/oo.": "oo./ooo/.oo", "o.o/...": "o.o/...",
		filledText(24, 1, "."): filledText(24, 1, "."), "o" + strings.Repeat(".", 23): strings.Repeat(".", 23) + "o",
	})
	for _, text := range allPictures() {
		got, ok := impl.MirrorPicture(text)
		wantText(t, "MirrorPicture", text, got, ok, mirroredText(text), true)
		got, ok = impl.MirrorPicture(got)
		wantText(t, "MirrorPicture twice", text, got, ok, text, true)
	}
	checkBadPictures(t, "MirrorPicture", impl.MirrorPicture)
}

// TestPicturesThatStayTheSame has pictures that turning and mirroring leaves as they are.
func TestPicturesThatStayTheSame(t *testing.T) {
	texts := []string{"o", ".", "ooo/o.o/ooo", "o..o/..../..../o..o", ".oo./o..o/o..o/.oo."}
	for k := 1; k <= mostDots; k++ {
		texts = append(texts, filledText(k, k, "o"), filledText(k, k, "."))
	}
	for k := 1; k <= mostMiddled; k++ {
		diamond, _ := impl.DiamondPicture(k)
		texts = append(texts, diamond)
	}
	for _, text := range texts {
		for name, made := range map[string]func(string) (string, bool){"TurnPicture": impl.TurnPicture, "MirrorPicture": impl.MirrorPicture, "LeastPicture": impl.LeastPicture} {
			got, ok := made(text)
			wantText(t, name, text, got, ok, text, true)
		}
	}
}

func TestLeastPicture(t *testing.T) {
	checkOfText(t, "LeastPicture", impl.LeastPicture, map[string]string{
		"o": "o", ".": ".", "o.": "./o", "o/.": "./o", ".o": "./o", "oo": "o/o", "...": "...", "./.": "..", "oo./...": ".../.oo",
		"o../oo./ooo": "..o/.oo/ooo", ".oo/ooo/oo.": ".oo/ooo/oo.", "oo./ooo/.oo": ".oo/ooo/oo.", "...o/...o/...o/oooo": "...o/...o/...o/oooo",
		filledText(1, 24, "."): filledText(24, 1, "."), filledText(24, 23, "o"): filledText(23, 24, "o"), filledText(23, 24, "."): filledText(24, 23, "."),
	})
	for _, text := range allPictures() {
		got, ok := impl.LeastPicture(text)
		wantText(t, "LeastPicture", text, got, ok, slices.Min(eightTexts(text)), true)
	}
	checkBadPictures(t, "LeastPicture", impl.LeastPicture)
}

// TestLeastOfEightPictures checks that pictures that turning and mirroring make of each other have
// the same least one.
func TestLeastOfEightPictures(t *testing.T) {
	for _, text := range greatPictures() {
		least, _ := impl.LeastPicture(text)
		for _, other := range eightTexts(text) {
			got, ok := impl.LeastPicture(other)
			wantText(t, "LeastPicture", other, got, ok, least, true)
		}
	}
}
