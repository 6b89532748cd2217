package tests

import (
	"math"
	"slices"
	"strings"
	"testing"

	"loop.example/g01250/impl"
)

// goodAndBadTexts are pictures, texts that are none, and texts that are much longer than one.
func goodAndBadTexts() []string {
	pictures := []string{"o", ".", "o/.", ".oo./o..o/o..o/.oo.", filledText(24, 24, "o"), filledText(24, 24, "."), filledText(24, 1, "o"), filledText(1, 24, ".")}
	return slices.Concat(pictures, badPictures(), longTexts())
}

// anyTexts are those and texts of any bytes, and a picture that is cut or has a byte that is changed.
func anyTexts() []string {
	texts := goodAndBadTexts()
	for first := range 256 {
		texts = append(texts, string([]byte{byte(first)}), "o"+string([]byte{byte(first)})+"o")
	}
	great := shapedPictures(24, 24)[0]
	for end := 0; end < len(great); end += 7 {
		texts = append(texts, great[:end], great[end:])
		texts = append(texts, great[:end]+"x"+great[end+1:], great[:end]+"/"+great[end+1:])
	}
	return texts
}

func longTexts() []string {
	const length = 1 << 21
	var texts []string
	for _, part := range []string{"o", ".", "/", "o/", "/o", "o./.o/", "ö", "\xff", "\x00", "x"} {
		texts = append(texts, strings.Repeat(part, length/len(part)))
	}
	row := filledText(24, 1, "o") + "/"
	return append(texts, strings.Repeat(row, length/len(row)), strings.Repeat(row, 23)+strings.Repeat("o", length), strings.Repeat("o", length)+"/o", "o/"+strings.Repeat("o", length))
}

// shortened keeps the report of a failed test readable.
func shortened(text string) string {
	return text[:min(len(text), mostDots*(mostDots+2))]
}

// TestDotsCallsOfAnyNumber calls the functions that draw a picture with numbers of any size: none
// panics or runs long, and each succeeds just for those that it is told to take.
func TestDotsCallsOfAnyNumber(t *testing.T) {
	inTime(t, func() {
		for _, k := range edgeInts(mostDots, mostMiddled, 1<<32, 1<<62) {
			for name, call := range map[string]func(int) (string, bool){
				"TrianglePicture": impl.TrianglePicture,
				"SquarePicture":   impl.SquarePicture,
				"GnomonPicture":   impl.GnomonPicture,
			} {
				checkAnyDrawing(t, name, k, call, mostDots)
			}
			checkAnyDrawing(t, "DiamondPicture", k, impl.DiamondPicture, mostMiddled)
			checkAnyDrawing(t, "HexagonPicture", k, impl.HexagonPicture, mostMiddled)
		}
	})
}

func checkAnyDrawing(t *testing.T, name string, k int, call func(int) (string, bool), most int) {
	text, ok := call(k)
	if ok != isIn(k, 1, most) || ok != isPictureText(text) || !ok && text != "" {
		t.Error(name, k, shortened(text), ok)
	}
}

// TestDotsCallsOfAnyText calls the other functions with texts of any bytes: none panics or runs
// long, and each succeeds just for pictures.
func TestDotsCallsOfAnyText(t *testing.T) {
	texts := anyTexts()
	inTime(t, func() {
		for _, text := range texts {
			checkDotsCalls(t, text)
		}
	})
}

func checkDotsCalls(t *testing.T, text string) {
	isPicture := isPictureText(text)
	if got := impl.IsPicture(text); got != isPicture {
		t.Errorf("IsPicture of %q is %v", shortened(text), got)
	}
	for name, call := range map[string]func(string) (string, bool){
		"TurnPicture":   impl.TurnPicture,
		"MirrorPicture": impl.MirrorPicture,
		"OtherDots":     impl.OtherDots,
		"BorderDots":    impl.BorderDots,
		"TakeBorder":    impl.TakeBorder,
		"LeastPicture":  impl.LeastPicture,
	} {
		if made, ok := call(text); ok != isPicture || ok != isPictureText(made) || !ok && made != "" {
			t.Errorf("%s of %q is %q, %v", name, shortened(text), shortened(made), ok)
		}
	}
	if count, ok := impl.CountDots(text); ok != isPicture || !ok && count != 0 {
		t.Errorf("CountDots of %q is %d, %v", shortened(text), count, ok)
	}
	if wide, high, ok := impl.SizeOfPicture(text); ok != isPicture || !ok && (wide != 0 || high != 0) {
		t.Errorf("SizeOfPicture of %q is %d, %d, %v", shortened(text), wide, high, ok)
	}
	if pieces, ok := impl.PiecesOfPicture(text); ok != isPicture || !ok && pieces != nil {
		t.Errorf("PiecesOfPicture of %q is %d texts, %v", shortened(text), len(pieces), ok)
	}
	if layers, ok := impl.LayersOfPicture(text); ok != isPicture || !ok && layers != nil {
		t.Errorf("LayersOfPicture of %q is %d, %v", shortened(text), layers, ok)
	}
}

// TestDotsCallsOfAnyPair joins any texts: those that are no pictures can't be joined.
func TestDotsCallsOfAnyPair(t *testing.T) {
	texts := goodAndBadTexts()
	var arePictures []bool
	for _, text := range texts {
		arePictures = append(arePictures, isPictureText(text))
	}
	inTime(t, func() {
		for i, p := range texts {
			for j, q := range texts {
				checkJoinCalls(t, p, q, arePictures[i] && arePictures[j])
			}
		}
	})
}

func checkJoinCalls(t *testing.T, p string, q string, arePictures bool) {
	for name, call := range map[string]func(string, string) (string, bool){
		"BesidePicture": impl.BesidePicture,
		"BelowPicture":  impl.BelowPicture,
	} {
		joined, ok := call(p, q)
		if ok && !arePictures || ok != isPictureText(joined) || !ok && joined != "" {
			t.Errorf("%s of %q and %q is %q, %v", name, shortened(p), shortened(q), shortened(joined), ok)
		}
	}
}

// TestDotsListsAreNew checks that a result that is changed changes no later one.
func TestDotsListsAreNew(t *testing.T) {
	text := ".o.o/oo.o/..../oooo"
	checkListsAreNew(t, "spoilt", map[string]func() ([]string, bool){
		"PiecesOfPicture": func() ([]string, bool) { return impl.PiecesOfPicture(text) },
	})
	checkListsAreNew(t, math.MaxInt, map[string]func() ([]int, bool){
		"LayersOfPicture": func() ([]int, bool) { return impl.LayersOfPicture(text) },
	})
}

// FuzzDotsCalls checks the calls of each text that the fuzzer makes of the given ones.
func FuzzDotsCalls(f *testing.F) {
	for _, text := range badPictures() {
		f.Add(text)
	}
	for _, text := range []string{"o", "o./.o", ".oo./o..o/o..o/.oo.", filledText(24, 24, "o")} {
		f.Add(text)
	}
	f.Fuzz(func(t *testing.T, text string) {
		checkDotsCalls(t, text)
		checkJoinCalls(t, text, text, isPictureText(text))
	})
}
