package tests

import (
	"slices"
	"strings"
	"testing"

	"loop.example/g01250/impl"
)

// dotAt tells of places outside of the picture that there is no dot.
func dotAt(rows []string, column int, row int) bool {
	return isIn(row, 0, len(rows)-1) && isIn(column, 0, len(rows[0])-1) && rows[row][column] == 'o'
}

// firstPlaces tells the number of the first place of each dot's piece: each dot takes the least
// number of those beside it, again and again, until none changes.
func firstPlaces(rows []string) [][]int {
	firsts := make([][]int, len(rows))
	for row := range rows {
		for column := range rows[row] {
			firsts[row] = append(firsts[row], row*len(rows[0])+column)
		}
	}
	for changed := true; changed; {
		changed = false
		for row := range rows {
			for column := range rows[row] {
				for _, by := range [][2]int{{1, 0}, {-1, 0}, {0, 1}, {0, -1}} {
					besideColumn, besideRow := column+by[0], row+by[1]
					if dotAt(rows, column, row) && dotAt(rows, besideColumn, besideRow) && firsts[besideRow][besideColumn] < firsts[row][column] {
						firsts[row][column] = firsts[besideRow][besideColumn]
						changed = true
					}
				}
			}
		}
	}
	return firsts
}

func piecesOfText(text string) []string {
	rows := rowsOf(text)
	wide, high := len(rows[0]), len(rows)
	firsts := firstPlaces(rows)
	var pieces []string
	for place := range wide * high {
		if firsts[place/wide][place%wide] != place || !dotAt(rows, place%wide, place/wide) {
			continue
		}
		pieces = append(pieces, drawText(wide, high, func(column int, row int) bool {
			return dotAt(rows, column, row) && firsts[row][column] == place
		}))
	}
	return pieces
}

func checkPieces(t *testing.T, text string, want []string, wantOk bool) {
	t.Helper()
	got, ok := impl.PiecesOfPicture(text)
	if !slices.Equal(got, want) || ok != wantOk {
		t.Fatalf("PiecesOfPicture of %q is %q, %v, not %q, %v", text, got, ok, want, wantOk)
	}
}

func TestPiecesOfPicture(t *testing.T) {
	for text, want := range map[string][]string{
		"o": {"o"}, ".": nil, "../..": nil, "oo": {"oo"}, "o.o": {"o..", "..o"}, "o/./o": {"o/./.", "././o"},
		".o/o.":                         {".o/..", "../o."},
		"o./.o":                         {"o./..", "../.o"},
		"o.o/o.o/ooo":                   {"o.o/o.o/ooo"},
		"ooo/o.o/o.o":                   {"ooo/o.o/o.o"},
		"..o/o.o":                       {"..o/..o", ".../o.."},
		"ooooo/o...o/o.o.o/o...o/ooooo": {"ooooo/o...o/o...o/o...o/ooooo", "...../...../..o../...../....."},
		".o.o/oooo":                     {".o.o/oooo"},
		".o./o.o/.o.":                   {".o./.../...", ".../o../...", ".../..o/...", ".../.../.o."},
	} {
		checkPieces(t, text, want, true)
	}
	for _, text := range allPictures() {
		checkPieces(t, text, piecesOfText(text), true)
	}
	for _, text := range badPictures() {
		checkPieces(t, text, nil, false)
	}
}

// TestPiecesAlone has drawn pictures, each of which is one piece, and pictures of as many pieces as
// there can be.
func TestPiecesAlone(t *testing.T) {
	for k := 1; k <= mostDots; k++ {
		for _, draw := range []func(int) (string, bool){impl.TrianglePicture, impl.SquarePicture, impl.GnomonPicture, impl.DiamondPicture, impl.HexagonPicture} {
			if text, ok := draw(k); ok {
				checkPieces(t, text, []string{text}, true)
			}
		}
		checkPieces(t, filledText(k, k, "."), nil, true)
		checkPieces(t, filledText(k, 1, "o"), []string{filledText(k, 1, "o")}, true)
		checkPieces(t, filledText(1, k, "o"), []string{filledText(1, k, "o")}, true)
	}
	for parity := range 2 {
		text := drawText(mostDots, mostDots, func(column int, row int) bool { return (column+row)%2 == parity })
		pieces, ok := impl.PiecesOfPicture(text)
		wantInt(t, "pieces", parity, 0, len(pieces), ok, mostDots*mostDots/2, true)
	}
}

// sharedDots is the picture of the dots of all pictures of one size. It fails the test if two of
// them have the same dot.
func sharedDots(t *testing.T, empty string, pictures []string) string {
	t.Helper()
	all := []byte(empty)
	for _, picture := range pictures {
		if len(picture) != len(all) {
			t.Fatalf("%q is of another size than %q", picture, empty)
		}
		for i := range all {
			if picture[i] == 'o' && all[i] == 'o' {
				t.Fatalf("a dot of %q is in another one of %q, too", picture, pictures)
			}
			if picture[i] == 'o' {
				all[i] = 'o'
			}
		}
	}
	return string(all)
}

// TestPiecesShareDots checks that each dot is in one piece, that pieces are those of themselves
// alone, and that they are in the order of their first dots.
func TestPiecesShareDots(t *testing.T) {
	for _, text := range allPictures() {
		pieces, ok := impl.PiecesOfPicture(text)
		empty := strings.ReplaceAll(text, "o", ".")
		if shared := sharedDots(t, empty, pieces); shared != text || !ok {
			t.Fatalf("PiecesOfPicture of %q is %q, %v", text, pieces, ok)
		}
		for i, piece := range pieces {
			if i > 0 && strings.Index(pieces[i-1], "o") >= strings.Index(piece, "o") {
				t.Fatalf("PiecesOfPicture of %q has %q before %q", text, pieces[i-1], piece)
			}
			if len(pieces) < 20 || i%50 == 0 {
				checkPieces(t, piece, []string{piece}, true)
			}
		}
	}
}

// TestPiecesInside has frames inside of frames, which have no dot beside one of another frame.
func TestPiecesInside(t *testing.T) {
	for side := 1; side <= mostDots; side++ {
		edge := func(column int, row int) int { return min(column, row, side-1-column, side-1-row) }
		text := drawText(side, side, func(column int, row int) bool { return edge(column, row)%2 == 0 })
		var frames []string
		for depth := 0; 2*depth < side; depth += 2 {
			frames = append(frames, drawText(side, side, func(column int, row int) bool { return edge(column, row) == depth }))
		}
		checkPieces(t, text, frames, true)
	}
}

// TestPiecesOfTurnedPictures checks that turning and mirroring changes no piece but its place.
func TestPiecesOfTurnedPictures(t *testing.T) {
	for _, text := range greatPictures() {
		pieces, _ := impl.PiecesOfPicture(text)
		for name, change := range map[string]func(string) string{"turned": turnedText, "mirrored": mirroredText} {
			var want []string
			for _, piece := range pieces {
				want = append(want, change(piece))
			}
			got, _ := impl.PiecesOfPicture(change(text))
			slices.Sort(want)
			slices.Sort(got)
			if !slices.Equal(got, want) {
				t.Fatalf("PiecesOfPicture of %q, %s, is %q, not %q", text, name, got, want)
			}
		}
	}
}
