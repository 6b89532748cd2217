package tests

import (
	"strings"
	"testing"

	"loop.example/g01250/impl"
)

// step is a line on a desk, its reply, and the desk behind it: the same one if it is not told.
type step struct {
	sides   int
	picture string
	line    string
	reply   string
	after   impl.Desk
}

func (s step) check(t *testing.T) {
	t.Helper()
	desk := impl.Desk{Sides: s.sides, Picture: s.picture}
	if s.after == (impl.Desk{}) {
		s.after = desk
	}
	checkLine(t, desk, s.line, s.after, s.reply, true)
}

// becomes is for lines whose reply is the picture behind them.
func becomes(picture string, line string, after string) step {
	return step{sides: 7, picture: picture, line: line, reply: after, after: impl.Desk{Sides: 7, Picture: after}}
}

func asked(sides int, line string, reply string) step {
	return step{sides: sides, picture: "oo/.o", line: line, reply: reply}
}

func shown(picture string, line string, reply string) step {
	return step{sides: 24, picture: picture, line: line, reply: reply}
}

func checkSteps(t *testing.T, steps []step) {
	t.Helper()
	for _, step := range steps {
		step.check(t)
	}
}

func TestLinesOfSides(t *testing.T) {
	for _, sides := range []int{3, 4, 5, 23, 24} {
		before := impl.Desk{Sides: 12, Picture: "o./.o"}
		checkLine(t, before, "sides "+replyOf(sides), impl.Desk{Sides: sides, Picture: "o./.o"}, replyOf(sides), true)
		checkLine(t, impl.Desk{Sides: sides, Picture: "."}, "sides "+replyOf(sides), impl.Desk{Sides: sides, Picture: "."}, replyOf(sides), true)
	}
	for _, line := range []string{"sides 0", "sides 1", "sides 2", "sides 25", "sides 100", "sides 999999"} {
		asked(4, line, "no").check(t)
	}
}

func TestLinesThatSetThePicture(t *testing.T) {
	checkSteps(t, []step{
		becomes("o", "picture .", "."), becomes("o", "picture o", "o"), becomes(".", "picture .", "."), becomes("o", "picture o.o/.o.", "o.o/.o."), becomes("oo/.o", "picture ../../..", "../../.."),
		becomes("o", "triangle 1", "o"), becomes("o", "triangle 3", "o../oo./ooo"), becomes("..", "triangle 2", "o./oo"),
		becomes("o", "square 1", "o"), becomes("o", "square 2", "oo/oo"), becomes(".", "square 24", filledText(24, 24, "o")),
		becomes("o", "hexagon 1", "o"), becomes("o", "hexagon 2", ".oo/ooo/oo."), becomes(".", "hexagon 3", "..ooo/.oooo/ooooo/oooo./ooo.."),
	})
	for _, size := range sizesOfPictures {
		text := filledText(size[0], size[1], ".")
		becomes("oo", "picture "+text, text).check(t)
	}
	for _, line := range []string{"triangle 0", "triangle 25", "triangle 999999", "square 0", "square 25", "square 999999", "hexagon 0", "hexagon 13", "hexagon 24", "hexagon 25", "hexagon 999999"} {
		asked(4, line, "no").check(t)
	}
	for word, most := range map[string]int{"triangle": 24, "square": 24, "hexagon": 12} {
		for k := 1; k <= most; k++ {
			text, ok := drawnBy(word, k)
			becomes("oo/.o", word+" "+replyOf(k), text).check(t)
			if !ok || !strings.Contains(text, "o") {
				t.Error(word, k, text, ok)
			}
		}
	}
}

func TestLinesThatChangeThePicture(t *testing.T) {
	checkSteps(t, []step{
		becomes("o../oo./ooo", "turn", "ooo/oo./o.."), becomes("o..", "turn", "o/./."), becomes("oo/.o", "turn", ".o/oo"), becomes(".", "turn", "."),
		becomes("o../oo./ooo", "mirror", "..o/.oo/ooo"), becomes("o..", "mirror", "..o"), becomes("o/.", "mirror", "o/."),
		becomes("o../oo./ooo", "other", ".oo/..o/..."), becomes("o", "other", "."), becomes("...", "other", "ooo"),
		becomes("ooo/ooo/ooo", "peel", ".../.o./..."), becomes(".../.o./...", "peel", ".../.../..."), becomes(".../.../...", "peel", ".../.../..."), becomes("o", "peel", "."),
	})
	for _, picture := range greatPictures() {
		for _, word := range []string{"turn", "mirror", "other", "peel"} {
			changed, _ := changedBy(word, picture)
			becomes(picture, word, changed).check(t)
		}
	}
}

func TestLinesThatShowThePicture(t *testing.T) {
	checkSteps(t, []step{
		shown("o", "show", "o"), shown(".", "show", "."), shown("o../oo./ooo", "show", "o../oo./ooo"),
		shown("o", "dots", "1"), shown(".", "dots", "0"), shown("o../oo./ooo", "dots", "6"), shown(filledText(24, 24, "o"), "dots", "576"), shown(filledText(24, 24, "."), "dots", "0"),
		shown("o", "layers", "1"), shown(".", "layers", "-"), shown("../..", "layers", "-"), shown(filledText(5, 5, "o"), "layers", "16,8,1"), shown("o../oo./ooo", "layers", "6"), shown(filledText(24, 24, "o"), "layers", "92,84,76,68,60,52,44,36,28,20,12,4"),
	})
}

func TestLinesOfShapes(t *testing.T) {
	checkSteps(t, []step{
		asked(3, "number 0", "0"), asked(3, "number 4", "10"), asked(4, "number 4", "16"), asked(24, "number 3", "69"), asked(3, "number 100000", "5000050000"), asked(24, "number 100000", "109999000000"), asked(3, "number 100001", "no"), asked(24, "number 999999", "no"),
		asked(3, "place 0", "0"), asked(3, "place 10", "4"), asked(3, "place 11", "no"), asked(4, "place 16", "4"), asked(5, "place 12", "3"), asked(24, "place 69", "3"), asked(24, "place 2", "no"), asked(3, "place 999999", "no"), asked(4, "place 998001", "999"),
		asked(5, "gnomon 3", "7"), asked(3, "gnomon 1", "1"), asked(24, "gnomon 100000", "2199979"), asked(3, "gnomon 0", "no"), asked(3, "gnomon 100001", "no"), asked(3, "gnomon 999999", "no"),
		asked(6, "centred 1", "1"), asked(6, "centred 2", "7"), asked(6, "centred 3", "19"), asked(24, "centred 100000", "119998800001"), asked(6, "centred 0", "no"), asked(6, "centred 100001", "no"),
	})
}

func TestLinesOfSumsAndSolids(t *testing.T) {
	checkSteps(t, []step{
		asked(3, "sum 12", "3,3"), asked(4, "sum 12", "2,2,2"), asked(3, "sum 0", "-"), asked(24, "sum 0", "-"), asked(3, "sum 1", "1"), asked(4, "sum 7", "2,1,1,1"), asked(4, "sum 2500", "50"), asked(24, "sum 24", "2"), asked(24, "sum 3", "1,1,1"), asked(3, "sum 3001", "no"), asked(3, "sum 999999", "no"),
		asked(3, "pyramid 0", "0"), asked(3, "pyramid 3", "10"), asked(4, "pyramid 24", "4900"), asked(24, "pyramid 1", "1"), asked(3, "pyramid 2000", "1335334000"), asked(3, "pyramid 2001", "no"), asked(3, "pyramid 999999", "no"),
	})
}

func TestLinesOfSharedAndApart(t *testing.T) {
	checkSteps(t, []step{
		asked(3, "shared 4 50", "0,1,36"), asked(4, "shared 3 50", "0,1,36"), asked(3, "shared 4 0", "0"), asked(3, "shared 4 35", "0,1"), asked(3, "shared 4 36", "0,1,36"), asked(3, "shared 5 210", "0,1,210"), asked(3, "shared 4 999999", "0,1,36,1225,41616"), asked(24, "shared 23 1", "0,1"),
		asked(3, "shared 3 50", "no"), asked(24, "shared 24 50", "no"), asked(3, "shared 2 50", "no"), asked(3, "shared 25 50", "no"), asked(3, "shared 0 50", "no"), asked(3, "shared 50 4", "no"), asked(3, "shared 999999 999999", "no"),
		asked(3, "apart 15", "2"), asked(24, "apart 15", "2"), asked(3, "apart 1", "1"), asked(3, "apart 2", "0"), asked(3, "apart 999998", "0"), asked(3, "apart 720720", "72"), asked(3, "apart 0", "no"),
	})
}

func TestLinesOfForms(t *testing.T) {
	twelve := strings.TrimSuffix(strings.Repeat("3,", 12), ",")
	checkSteps(t, []step{
		asked(3, "form 0,1,4,9", "0,1,2"), asked(3, "form 5,5,5", "5"), asked(3, "form 5", "5"), asked(3, "form 999999", "999999"), asked(3, "form 0", "-"), asked(3, "form 0,0,0", "-"), asked(3, "form 1,0", "1,-1"), asked(3, "form 9,4,1,0", "9,-5,2"), asked(3, "form 0,999999", "0,999999"), asked(3, "form 999999,0", "999999,-999999"), asked(3, "form 0,0,1,0", "0,0,1,-3"),
		asked(3, "form "+twelve, "3"), asked(3, "form 0,1,2,3,4,5,6,7,8,9,10,11", "0,1"), asked(3, "form 0,0,0,0,0,0,0,0,0,0,0,0", "-"), asked(3, "form 0,0,0,0,0,0,0,0,0,0,0,7", "0,0,0,0,0,0,0,0,0,0,0,7"),
		asked(3, "form "+twelve+",3", "no"), asked(3, "form "+strings.Repeat("0,", 1000)+"0", "no"), asked(3, "form 0,999999,0", "no"), asked(3, "form 0,500000,0", "0,500000,-1000000"), asked(3, "form 0,500001,0", "no"),
	})
}

func TestLinesOfPuzzles(t *testing.T) {
	checkSteps(t, []step{
		asked(3, "solve 40:0.3.0,0.4.0", "1,36"), asked(24, "solve 40:0.3.0,0.4.0,3.9.0", "36"), asked(3, "solve 5:", "1,2,3,4,5"), asked(3, "solve 1:", "1"), asked(3, "solve 1:1.3.0", "-"), asked(3, "solve 500:3.100.0", "-"), asked(3, "solve 500:2.100.99,2.50.49", "99,199,299,399,499"), asked(3, "solve 500:2.2.0,2.3.1,2.5.2,2.7.3,2.11.4,2.13.5", "-"), asked(3, "solve 500:0.3.0,0.3.0,0.3.0,0.4.0,0.4.0,0.4.0", "1,36"),
	})
	for _, text := range puzzleTexts {
		puzzle := puzzleOf(text)
		asked(9, "solve "+text, replyOf(fitting(puzzle.Most, puzzle.Clues...))).check(t)
	}
}

// TestLinesThatAreUnknown has lines that are none of the table: other words, in front of, behind and
// between which there can be empty ones, and too few and too many of them.
func TestLinesThatAreUnknown(t *testing.T) {
	for _, line := range []string{
		"", " ", "  ", "fly", "what", "no", "-", "0", "12", "o", "Sides 5", "SHOW", "shows", "sho", "show\t", "\tshow", "show\r", "sides\t5", "sides,5", "sides:5", "sides5", "side 5", "number4", "center 3", "centered 3", "diamond 3", "diamond 2", "gnomon", "gnomons 3", "ѕhow", "show\x00", "\x00", "\xff", "show\xff", "\u00a0show", "show\u00a0", "sides\u00a05", "turn\v", "dots\f",
	} {
		asked(4, line, "what").check(t)
	}
	words := map[rune]string{'N': "12", 'L': "0,1", 'P': "o.", 'S': "5:"}
	for first, kinds := range kindsOfWords {
		line := first
		for _, kind := range kinds {
			asked(5, line, "what").check(t)
			asked(5, line+" ", "what").check(t)
			line += " " + words[kind]
		}
		if _, reply, ok := impl.DeskLine(impl.Desk{Sides: 5, Picture: "oo/.o"}, line); reply == "what" || reply == "no" || !ok {
			t.Errorf("DeskLine of %q is %q, %v", line, reply, ok)
		}
		for _, other := range []string{line + " ", " " + line, line + "  ", "  " + line, line + " 4", line + " 0", line + " o", line + " show", line + " 4 4", strings.Replace(line, " ", "  ", 1) + " ", line + " " + line, line + ";", line + "\r", line + "\x00", strings.ToUpper(line[:1]) + line[1:]} {
			asked(5, other, "what").check(t)
		}
		if strings.Contains(line, " ") {
			asked(5, strings.Replace(line, " ", "  ", 1), "what").check(t)
			asked(5, strings.Replace(line, " ", "\t", 1), "what").check(t)
		}
	}
	asked(3, "shared 4  50", "what").check(t)
	asked(3, "shared  4 50", "what").check(t)
	asked(3, "shared 4,50", "what").check(t)
	asked(3, "form 0, 1", "what").check(t)
	asked(3, "form 0 1", "what").check(t)
	asked(3, "solve 40: 0.3.0", "what").check(t)
	asked(3, "picture o. .o", "what").check(t)
}

// badNumbers are words that are no numbers, or none in 0..999999, or have superfluous signs.
var badNumbers = []string{
	"", "-", "+", "-0", "+0", "-1", "+4", "-4", "00", "01", "04", "007", "0000004", "0999999", "1000000", "1000001", "4000000", "9999999", "10000000000", "4294967299", "9223372036854775807", "9223372036854775808", "18446744073709551616", "18446744073709551620", "-9223372036854775808", "-9223372036854775809", "340282366920938463463374607431768211460", strings.Repeat("9", 99), strings.Repeat("0", 99), "1" + strings.Repeat("0", 99),
	"x", "4x", "x4", "4.", ".4", "4.0", "4e0", "4e1", "1e3", "0x4", "0b1", "0o4", "1_0", "4,", ",4", "4,5", "4:", "four", "o", "0o", "o0", "\u0664", "\uff14", "4\u0301", "\xb4", "4\xff", "\xff4", "4\x00", "\x004", "4\t", "\t4", "4\r", "NaN", "inf",
}

// TestLinesWithBadNumbers has each number of each line bad, the other one good, bad or such that the
// call would fail.
func TestLinesWithBadNumbers(t *testing.T) {
	for first, kinds := range kindsOfWords {
		if kinds != "N" {
			continue
		}
		for _, word := range badNumbers {
			asked(5, first+" "+word, "what").check(t)
		}
	}
	for _, word := range badNumbers {
		for _, other := range []string{"4", "50", "0", "2", "5", "25", "999999", word} {
			asked(5, "shared "+word+" "+other, "what").check(t)
			asked(5, "shared "+other+" "+word, "what").check(t)
		}
	}
}

// TestLinesWithBadLists has one number of a list bad, for which also a list that is too long is none.
func TestLinesWithBadLists(t *testing.T) {
	for _, word := range badNumbers {
		if word == "4,5" {
			continue
		}
		for _, list := range []string{word, word + ",1", "1," + word, "1," + word + ",1", "0,0,0,0,0,0,0,0,0,0,0," + word, "0,0,0,0,0,0,0,0,0,0,0,0,0," + word, "0,999999,0," + word, word + "," + word} {
			asked(3, "form "+list, "what").check(t)
		}
	}
	for _, list := range []string{",", ",,", "1,,2", "1;2", "1.2", "1/2", "[1]", "1,2,", ",1,2", "1,-2", "-1,2", "1,2 ", "1, 2", "0,1000000", "5:"} {
		asked(3, "form "+list, "what").check(t)
	}
}

func TestLinesWithBadPictures(t *testing.T) {
	for _, picture := range badPictures() {
		if strings.Contains(picture, "\n") {
			checkLine(t, firstDesk, "picture "+picture, impl.Desk{}, "", false)
			continue
		}
		asked(3, "picture "+picture, "what").check(t)
	}
}

func TestLinesWithBadPuzzles(t *testing.T) {
	for _, text := range badPuzzleTexts() {
		if strings.Contains(text, "\n") {
			checkLine(t, firstDesk, "solve "+text, impl.Desk{}, "", false)
			continue
		}
		asked(3, "solve "+text, "what").check(t)
	}
	asked(3, "solve 500:0.3.0,0.3.0,0.3.0,0.3.0,0.3.0,0.3.0,0.3.0", "what").check(t)
	asked(3, "solve 501:", "what").check(t)
	asked(3, "solve 0:", "what").check(t)
	asked(3, "solve 40:0.2.0", "what").check(t)
}

func TestDeskLineFails(t *testing.T) {
	for _, sides := range badSides {
		for _, line := range []string{"show", "sides 5", "number 4", "apart 15", "fly", ""} {
			checkLine(t, impl.Desk{Sides: sides, Picture: "o"}, line, impl.Desk{}, "", false)
		}
	}
	for _, picture := range badPictures() {
		for _, line := range []string{"show", "sides 5", "picture o", "square 3", "turn", "number 4", "fly", ""} {
			checkLine(t, impl.Desk{Sides: 3, Picture: picture}, line, impl.Desk{}, "", false)
		}
	}
	checkLine(t, impl.Desk{}, "sides 5", impl.Desk{}, "", false)
	for _, line := range []string{"\n", "show\n", "\nshow", "show\nshow", "sides 5\n", "fly\n", "sides\n5", "number 4\r\n", " \n ", strings.Repeat("\n", mostScript), strings.Repeat("x", mostScript-1) + "\n"} {
		checkLine(t, firstDesk, line, impl.Desk{}, "", false)
	}
}

// TestLongLines has lines of just MaxScript bytes and of one more.
func TestLongLines(t *testing.T) {
	for _, line := range []string{"x", " ", "show ", "picture o./", "number 4", "form 0,", "solve 500:0.3.0,", "\x00", "\xff", "sides 5 ", "é", "1,", "form 1000000,"} {
		long := strings.Repeat(line, 2*mostScript)
		checkLine(t, firstDesk, long[:mostScript], firstDesk, "what", true)
		checkLine(t, firstDesk, long[:mostScript+1], impl.Desk{}, "", false)
		checkLine(t, firstDesk, long[:2*mostScript], impl.Desk{}, "", false)
	}
	// A list with so many numbers is one, but FormOf takes none so long.
	list := "form 1" + strings.Repeat(",1", (mostScript-6)/2)
	checkLine(t, firstDesk, list, firstDesk, "no", true)
	checkLine(t, firstDesk, list+",", impl.Desk{}, "", false)
	checkLine(t, firstDesk, list+",1", impl.Desk{}, "", false)
}
