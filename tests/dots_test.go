package tests

import (
	"math"
	"regexp"
	"strings"
	"sync"
	"testing"

	"loop.example/g01250/impl"
)

// The numbers are stated here once more, so that a changed limit is found.
const (
	mostDots    = 24
	mostMiddled = 12
)

var signsOfPicture = regexp.MustCompile(`\A[o.]+(/[o.]+)*\z`)

// drawText returns the text of a picture with dots where there should be some.
func drawText(wide int, high int, isDot func(column int, row int) bool) string {
	var rows []string
	for row := range high {
		var signs strings.Builder
		for column := range wide {
			if isDot(column, row) {
				signs.WriteString("o")
			} else {
				signs.WriteString(".")
			}
		}
		rows = append(rows, signs.String())
	}
	return strings.Join(rows, "/")
}

func filledText(wide int, high int, sign string) string {
	rows := strings.Repeat(strings.Repeat(sign, wide)+"/", high)
	return strings.TrimSuffix(rows, "/")
}

func rowsOf(text string) []string {
	return strings.Split(text, "/")
}

// isPictureText tells by the text as the document does, without reading a picture from it.
func isPictureText(text string) bool {
	if len(text) > mostDots*(mostDots+1) || !signsOfPicture.MatchString(text) {
		return false
	}
	rows := rowsOf(text)
	for _, row := range rows {
		if len(row) != len(rows[0]) {
			return false
		}
	}
	return len(rows[0]) <= mostDots && len(rows) <= mostDots
}

// smallPictures are all of few signs.
func smallPictures() []string {
	var pictures []string
	for wide := 1; wide <= 9; wide++ {
		for high := 1; high <= 9; high++ {
			if wide*high > 9 && wide*high != 12 || max(wide, high) > 4 && wide*high == 12 {
				continue
			}
			for dots := range 1 << (wide * high) {
				isDot := func(column int, row int) bool { return dots>>(row*wide+column)&1 == 1 }
				pictures = append(pictures, drawText(wide, high, isDot))
			}
		}
	}
	return pictures
}

var sizesOfPictures = [][2]int{{1, 24}, {24, 1}, {2, 24}, {24, 2}, {5, 7}, {7, 5}, {8, 8}, {13, 12}, {12, 13}, {23, 24}, {24, 23}, {23, 23}, {24, 24}}

// shapedPictures have pieces that touch at corners alone, pieces inside of others, long ones, and
// borders around places without a dot.
func shapedPictures(wide int, high int) []string {
	edge := func(column int, row int) int { return min(column, row, wide-1-column, high-1-row) }
	var pictures []string
	for _, isDot := range []func(column int, row int) bool{
		func(column int, row int) bool { return (column+row)%2 == 0 },
		func(column int, row int) bool { return (column+row)%2 == 1 },
		func(column int, row int) bool { return edge(column, row)%2 == 0 },
		func(column int, row int) bool { return edge(column, row)%2 == 1 },
		func(column int, row int) bool { return edge(column, row)%4 != 1 },
		func(column int, row int) bool { return edge(column, row) > 0 },
		func(column int, row int) bool { return column != wide/2 || row != high/2 },
		func(column int, row int) bool { return column == wide/2 && row == high/2 },
		func(column int, row int) bool { return column%7 != 3 || row%5 != 2 },
		func(column int, row int) bool { return column == row },
		func(column int, row int) bool { return column != row },
		func(column int, row int) bool { return row%2 == 0 || column == (wide-1)*(row/2%2) },
		func(column int, row int) bool { return column%2 == 0 || row == (high-1)*(column/2%2) },
		func(column int, row int) bool { return column%2 == 0 || row == high-1 },
		func(column int, row int) bool { return column == wide-1 || row == 0 },
		func(column int, row int) bool { return column*column+row*row < wide*high },
	} {
		pictures = append(pictures, drawText(wide, high, isDot))
	}
	return append(pictures, filledText(wide, high, "o"), filledText(wide, high, "."))
}

// strewnPictures have few and many dots without any order. They are the same in each run.
func strewnPictures(wide int, high int) []string {
	state := wide*100 + high
	var pictures []string
	for sixteenths := 1; sixteenths < 16; sixteenths++ {
		pictures = append(pictures, drawText(wide, high, func(int, int) bool {
			state = (state*1103515245 + 12345) % (1 << 31)
			return state>>16%16 < sixteenths
		}))
	}
	return pictures
}

// greatPictures are shaped and strewn ones of different sizes.
var greatPictures = sync.OnceValue(func() []string {
	var pictures []string
	for _, size := range sizesOfPictures {
		pictures = append(pictures, shapedPictures(size[0], size[1])...)
		pictures = append(pictures, strewnPictures(size[0], size[1])...)
	}
	return pictures
})

var allPictures = sync.OnceValue(func() []string {
	return append(smallPictures(), greatPictures()...)
})

// badPictures are texts that are none: an empty one, rows that are empty or of different lengths,
// other signs, signs of more than one byte, and too many rows or signs.
func badPictures() []string {
	return []string{
		"", "/", "//", "o/", "/o", "./", "/.", "o//o", "//o", "o//", "o/o/", "/o/o", "oo/", "/oo", ".../.../",
		"oo/o", "o/oo", ".../..", "../...", "o/o/oo", "oo/o/o", "oo/oo/o", "ooo/o/ooo", "o/ooo/o", "o.o/o",
		"x", "O", "0", "Q", " ", "-", ",", "\\", "\n", "\x00", "\xff", "o o", " o", "o ", "o\n", "\no", "o\\o", "o|o", "o,o", "o;o", "o\x00", "oO/oo", "oo/o0", "..,/...", "o\r\no", "o/o\n", "p", "n", "-/-",
		"ö", "öö", "ö/oo", "oo/ö", "o/ö", "●", "o●/oooo", "ооо", "о", "o\u0301", "\u3002", "\uff0e/...", "o\u2215o", "o\uff0fo", "\ufeffo", "\xc3\xb6/oo", "o\xc3/oo", "\xed\xa0\x80",
		filledText(25, 1, "o"), filledText(1, 25, "o"), filledText(25, 1, "."), filledText(1, 25, "."), filledText(25, 25, "o"), filledText(24, 25, "."), filledText(25, 24, "."), filledText(26, 3, "o"), filledText(3, 26, "o"),
		filledText(24, 24, "o") + "/", "/" + filledText(24, 24, "o"), filledText(24, 24, "o") + "o", filledText(24, 24, ".") + "x", filledText(24, 24, "o") + "/" + filledText(24, 1, "o"), filledText(24, 23, "o") + "/" + filledText(23, 1, "o"), filledText(24, 23, "o") + "/" + filledText(23, 1, "o") + "x",
		"3:8", "o.o/...\x00", strings.Repeat("/", 23), strings.Repeat("/", 24), strings.Repeat("o/", 24),
	}
}

func wantText(t *testing.T, call string, of any, got string, ok bool, want string, wantOk bool) {
	t.Helper()
	if got != want || ok != wantOk {
		t.Fatalf("%s of %#v is %q, %v, not %q, %v", call, of, got, ok, want, wantOk)
	}
}

// checkBadPictures checks that a call that makes a text of a picture fails for texts that are none.
func checkBadPictures(t *testing.T, call string, made func(string) (string, bool)) {
	t.Helper()
	for _, text := range badPictures() {
		got, ok := made(text)
		wantText(t, call, text, got, ok, "", false)
	}
}

// dotsIn returns how many dots a picture has, and fails the test if it is none.
func dotsIn(t *testing.T, text string) int {
	t.Helper()
	count, ok := impl.CountDots(text)
	if !ok || count != strings.Count(text, "o") || !isPictureText(text) {
		t.Fatalf("CountDots of %q is %d, %v", text, count, ok)
	}
	return count
}

func TestDotsLimits(t *testing.T) {
	if impl.MaxDots != mostDots {
		t.Error("limit", impl.MaxDots)
	}
}

func TestDotsExample(t *testing.T) {
	triangle, ok := impl.TrianglePicture(3)
	wantText(t, "TrianglePicture", 3, triangle, ok, "o../oo./ooo", true)
	diamond, ok := impl.DiamondPicture(2)
	wantText(t, "DiamondPicture", 2, diamond, ok, ".o./ooo/.o.", true)
	hexagon, ok := impl.HexagonPicture(2)
	wantText(t, "HexagonPicture", 2, hexagon, ok, ".oo/ooo/oo.", true)
	turned, ok := impl.TurnPicture(triangle)
	wantText(t, "TurnPicture", triangle, turned, ok, "ooo/oo./o..", true)
	square, ok := impl.SquarePicture(5)
	wantText(t, "SquarePicture", 5, square, ok, "ooooo/ooooo/ooooo/ooooo/ooooo", true)
	layers, ok := impl.LayersOfPicture(square)
	wantList(t, "LayersOfPicture", 5, 0, layers, ok, []int{16, 8, 1}, true)
	other, ok := impl.OtherDots(triangle)
	wantText(t, "OtherDots", triangle, other, ok, ".oo/..o/...", true)
	lesser, _ := impl.TrianglePicture(2)
	if dotsIn(t, other) != 3 || dotsIn(t, lesser) != 3 {
		t.Error("CountDots", other, lesser)
	}
}

func TestIsPicture(t *testing.T) {
	for _, text := range allPictures() {
		if !impl.IsPicture(text) || !isPictureText(text) {
			t.Fatalf("IsPicture of %q", text)
		}
	}
	for _, text := range badPictures() {
		if impl.IsPicture(text) || isPictureText(text) {
			t.Fatalf("IsPicture of %q", text)
		}
	}
}

// TestIsPictureOfShortTexts looks at all texts of a few bytes with the signs of pictures and others.
func TestIsPictureOfShortTexts(t *testing.T) {
	texts := []string{""}
	for range 7 {
		var longer []string
		for _, text := range texts {
			if impl.IsPicture(text) != isPictureText(text) {
				t.Fatalf("IsPicture of %q", text)
			}
			for _, sign := range []string{"o", ".", "/", "\n", "\xb6"} {
				longer = append(longer, text+sign)
			}
		}
		texts = longer
	}
}

// TestSizesOfPictures has a picture of each size, and those that are too great by one sign or row.
func TestSizesOfPictures(t *testing.T) {
	for wide := 1; wide <= mostDots+1; wide++ {
		for high := 1; high <= mostDots+1; high++ {
			valid := max(wide, high) <= mostDots
			for _, sign := range []string{"o", "."} {
				text := filledText(wide, high, sign)
				gotWide, gotHigh, ok := impl.SizeOfPicture(text)
				if ok != valid || ok && (gotWide != wide || gotHigh != high) || !ok && (gotWide != 0 || gotHigh != 0) {
					t.Fatal("SizeOfPicture", wide, high, gotWide, gotHigh, ok)
				}
				if impl.IsPicture(text) != valid {
					t.Fatal("IsPicture", wide, high)
				}
			}
		}
	}
	for _, text := range badPictures() {
		if wide, high, ok := impl.SizeOfPicture(text); wide != 0 || high != 0 || ok {
			t.Fatalf("SizeOfPicture of %q is %d, %d, %v", text, wide, high, ok)
		}
	}
}

func TestSizeOfPicture(t *testing.T) {
	for text, want := range map[string][2]int{"o": {1, 1}, ".": {1, 1}, "o.o": {3, 1}, "o/./o": {1, 3}, "..../oooo": {4, 2}} {
		wide, high, ok := impl.SizeOfPicture(text)
		wantPair(t, "SizeOfPicture", len(text), wide, high, ok, want[0], want[1], true)
	}
	for _, text := range allPictures() {
		rows := rowsOf(text)
		wide, high, ok := impl.SizeOfPicture(text)
		wantPair(t, "SizeOfPicture", len(text), wide, high, ok, len(rows[0]), len(rows), true)
	}
}

func TestCountDots(t *testing.T) {
	for text, want := range map[string]int{"o": 1, ".": 0, "o.o": 2, "o/./o": 2, "..../oooo": 4, "../..": 0, filledText(24, 24, "o"): 576, filledText(24, 24, "."): 0, filledText(24, 1, "o"): 24, filledText(1, 24, "o"): 24} {
		count, ok := impl.CountDots(text)
		wantInt(t, "CountDots", len(text), 0, count, ok, want, true)
	}
	for _, text := range allPictures() {
		dotsIn(t, text)
	}
	for _, text := range badPictures() {
		count, ok := impl.CountDots(text)
		wantInt(t, "CountDots", len(text), math.MaxInt, count, ok, 0, false)
	}
}
