package tests

import (
	"strings"
	"testing"

	"loop.example/g01250/impl"
)

func otherText(text string) string {
	return strings.NewReplacer("o", ".", ".", "o").Replace(text)
}

// besideText joins the rows of two pictures that have as many.
func besideText(p string, q string) string {
	left, right := rowsOf(p), rowsOf(q)
	for i := range left {
		left[i] += right[i]
	}
	return strings.Join(left, "/")
}

func checkJoined(t *testing.T, call string, join func(string, string) (string, bool), p string, q string, want string, wantOk bool) {
	t.Helper()
	got, ok := join(p, q)
	wantText(t, call, [2]string{p, q}, got, ok, want, wantOk)
}

func checkBeside(t *testing.T, p string, q string, want string, wantOk bool) {
	t.Helper()
	checkJoined(t, "BesidePicture", impl.BesidePicture, p, q, want, wantOk)
}

func checkBelow(t *testing.T, p string, q string, want string, wantOk bool) {
	t.Helper()
	checkJoined(t, "BelowPicture", impl.BelowPicture, p, q, want, wantOk)
}

// picturesToJoin are of sizes that fit together and that do not.
func picturesToJoin() []string {
	pictures := []string{".oo./o..o", "o/o/.", "./o/./o", "o.o/.o."}
	for _, size := range [][2]int{{1, 1}, {1, 2}, {2, 1}, {1, 24}, {24, 1}, {2, 24}, {24, 2}, {11, 13}, {13, 11}, {12, 12}, {12, 13}, {13, 12}, {13, 13}, {23, 24}, {24, 23}, {24, 24}, {23, 1}, {1, 23}} {
		pictures = append(pictures, shapedPictures(size[0], size[1])[:3]...)
		pictures = append(pictures, strewnPictures(size[0], size[1])[7], filledText(size[0], size[1], "."))
	}
	return pictures
}

func TestOtherDots(t *testing.T) {
	checkOfText(t, "OtherDots", impl.OtherDots, map[string]string{
		"o": ".", ".": "o", "o.": ".o", "o/.": "./o", "oo./...": "..o/ooo", ".o./ooo/.o.": "o.o/.../o.o",
		filledText(24, 24, "o"): filledText(24, 24, "."), filledText(24, 24, "."): filledText(24, 24, "o"), filledText(24, 1, "o"): filledText(24, 1, "."),
	})
	for _, text := range allPictures() {
		got, ok := impl.OtherDots(text)
		wantText(t, "OtherDots", text, got, ok, otherText(text), true)
		if dotsIn(t, got)+dotsIn(t, text) != strings.Count(text, "o")+strings.Count(text, ".") {
			t.Fatal("OtherDots", text, got)
		}
		got, ok = impl.OtherDots(got)
		wantText(t, "OtherDots twice", text, got, ok, text, true)
	}
	checkBadPictures(t, "OtherDots", impl.OtherDots)
}

// TestOtherDotsOfTriangles checks that a square is a triangle and the one before.
func TestOtherDotsOfTriangles(t *testing.T) {
	for k := 2; k <= mostDots; k++ {
		text, _ := impl.TrianglePicture(k)
		others, ok := impl.OtherDots(text)
		if dotsIn(t, others) != triangle(k-1) || dotsIn(t, text) != triangle(k) || !ok {
			t.Error("OtherDots", k, others, ok)
		}
	}
}

func TestBesidePicture(t *testing.T) {
	checkBeside(t, "o", ".", "o.", true)
	checkBeside(t, ".", "o", ".o", true)
	checkBeside(t, "o./oo", "oo./o..", "o.oo./ooo..", true)
	checkBeside(t, "o/./o", ".o/oo/..", "o.o/.oo/o..", true)
	checkBeside(t, "../..", "./.", ".../...", true)
	checkBeside(t, "o", "o/o", "", false)
	checkBeside(t, "o/o", "o", "", false)
	checkBeside(t, "oo", "o/o", "", false)
	for _, p := range picturesToJoin() {
		for _, q := range picturesToJoin() {
			left, right := rowsOf(p), rowsOf(q)
			if len(left) == len(right) && len(left[0])+len(right[0]) <= mostDots {
				checkBeside(t, p, q, besideText(p, q), true)
			} else {
				checkBeside(t, p, q, "", false)
			}
		}
	}
}

func TestBelowPicture(t *testing.T) {
	checkBelow(t, "o", ".", "o/.", true)
	checkBelow(t, ".", "o", "./o", true)
	checkBelow(t, "o./oo", "../.o/o.", "o./oo/../.o/o.", true)
	checkBelow(t, "o.o", "oo./...", "o.o/oo./...", true)
	checkBelow(t, "../..", "..", "../../..", true)
	checkBelow(t, "o", "oo", "", false)
	checkBelow(t, "oo", "o", "", false)
	checkBelow(t, "oo", "o/o", "", false)
	for _, p := range picturesToJoin() {
		for _, q := range picturesToJoin() {
			upper, lower := rowsOf(p), rowsOf(q)
			if len(upper[0]) == len(lower[0]) && len(upper)+len(lower) <= mostDots {
				checkBelow(t, p, q, p+"/"+q, true)
			} else {
				checkBelow(t, p, q, "", false)
			}
		}
	}
}

// TestJoinedUpToLimit has all widths and heights that are just as great as allowed together, or
// greater by one.
func TestJoinedUpToLimit(t *testing.T) {
	for n := 1; n <= mostDots; n++ {
		for _, across := range []int{1, 7, mostDots} {
			rest := mostDots - n
			if rest > 0 {
				checkBeside(t, filledText(n, across, "o"), filledText(rest, across, "."), besideText(filledText(n, across, "o"), filledText(rest, across, ".")), true)
				checkBelow(t, filledText(across, n, "o"), filledText(across, rest, "."), filledText(across, n, "o")+"/"+filledText(across, rest, "."), true)
			}
			checkBeside(t, filledText(n, across, "o"), filledText(rest+1, across, "."), "", false)
			checkBelow(t, filledText(across, n, "o"), filledText(across, rest+1, "."), "", false)
		}
	}
}

func TestJoinedBadPictures(t *testing.T) {
	for _, bad := range badPictures() {
		for _, good := range []string{"o", ".", "o./.o", "o/o", filledText(24, 24, "o")} {
			checkBeside(t, bad, good, "", false)
			checkBeside(t, good, bad, "", false)
			checkBelow(t, bad, good, "", false)
			checkBelow(t, good, bad, "", false)
		}
		for _, other := range badPictures() {
			checkBeside(t, bad, other, "", false)
			checkBelow(t, bad, other, "", false)
		}
	}
}

// TestJoinedParts checks that joined pictures have the dots of both, and that joining, turned,
// is joining.
func TestJoinedParts(t *testing.T) {
	for _, p := range smallPictures() {
		if len(p) > 7 {
			continue
		}
		q, _ := impl.OtherDots(p)
		beside, ok := impl.BesidePicture(p, q)
		below, alsoOk := impl.BelowPicture(turnedText(p), turnedText(q))
		if turnedText(beside) != below || !ok || !alsoOk {
			t.Fatal(p, q, beside, ok, below, alsoOk)
		}
		if dotsIn(t, beside) != dotsIn(t, p)+dotsIn(t, q) {
			t.Fatal("BesidePicture", p, q, beside)
		}
	}
}
