package tests

import (
	"regexp"
	"strings"
	"testing"

	"loop.example/g01250/impl"
)

var signsOfPuzzle = regexp.MustCompile(`\AN:(N\.N\.N(,N\.N\.N)*)?\z`)

// No number of a puzzle has more than three digits. What has more becomes more than one number.
var signsOfNumber = regexp.MustCompile(`0|[1-9][0-9]{0,2}`)

// mostSigns is the length of the longest text of a puzzle: 500: and six clues such as 4.100.24.
const mostSigns = 4 + mostClues*8 + mostClues - 1

// isPuzzleText tells by the text as the document does.
func isPuzzleText(text string) bool {
	if len(text) > mostSigns || strings.Contains(text, "N") || !signsOfPuzzle.MatchString(signsOfNumber.ReplaceAllString(text, "N")) {
		return false
	}
	return isTold(puzzleOf(text))
}

func checkParsed(t *testing.T, text string, want impl.Puzzle, wantOk bool) {
	t.Helper()
	got, ok := impl.ParsePuzzle(text)
	if !samePuzzle(got, want) || ok != wantOk {
		t.Fatalf("ParsePuzzle of %.999q is %s, %v, not %s, %v", text, textOf(got), ok, textOf(want), wantOk)
	}
}

// checkAnyPuzzleText checks that just the texts of puzzles are parsed.
func checkAnyPuzzleText(t *testing.T, text string) {
	t.Helper()
	if !isPuzzleText(text) {
		checkParsed(t, text, impl.Puzzle{}, false)
		return
	}
	checkParsed(t, text, puzzleOf(text), true)
	again, ok := impl.PuzzleText(puzzleOf(text))
	wantText(t, "PuzzleText", text, again, ok, text, true)
}

func TestPuzzleText(t *testing.T) {
	for text, puzzle := range map[string]impl.Puzzle{
		"1:":                          {Most: 1},
		"500:":                        {Most: 500, Clues: []impl.Clue{}},
		"40:0.3.0,0.4.0":              {Most: 40, Clues: []impl.Clue{{Kind: 0, A: 3}, {Kind: 0, A: 4}}},
		"500:4.100.24":                {Most: 500, Clues: []impl.Clue{{Kind: 4, A: 100, B: 24}}},
		"10:2.100.99,3.0.0":           {Most: 10, Clues: []impl.Clue{{Kind: 2, A: 100, B: 99}, {Kind: 3}}},
		"100:5.24.0,1.24.0,4.0.3":     {Most: 100, Clues: []impl.Clue{{Kind: 5, A: 24}, {Kind: 1, A: 24}, {Kind: 4, B: 3}}},
		"7:2.2.0,2.2.1,2.10.9,3.10.0": {Most: 7, Clues: []impl.Clue{{Kind: 2, A: 2}, {Kind: 2, A: 2, B: 1}, {Kind: 2, A: 10, B: 9}, {Kind: 3, A: 10}}},
	} {
		got, ok := impl.PuzzleText(puzzle)
		wantText(t, "PuzzleText", puzzle, got, ok, text, true)
		checkParsed(t, text, puzzle, true)
	}
	for _, puzzle := range manyPuzzles() {
		got, ok := impl.PuzzleText(puzzle)
		wantText(t, "PuzzleText", puzzle, got, ok, textOf(puzzle), true)
		checkParsed(t, got, puzzle, true)
	}
	for _, clue := range allClues() {
		puzzle := impl.Puzzle{Most: mostGuess, Clues: []impl.Clue{clue, clue, clue, clue, clue, clue}}
		got, ok := impl.PuzzleText(puzzle)
		wantText(t, "PuzzleText", puzzle, got, ok, textOf(puzzle), true)
		checkParsed(t, got, puzzle, true)
	}
	for most := 1; most <= mostGuess; most++ {
		got, ok := impl.PuzzleText(impl.Puzzle{Most: most})
		wantText(t, "PuzzleText", most, got, ok, textOf(impl.Puzzle{Most: most}), true)
		checkParsed(t, got, impl.Puzzle{Most: most}, true)
	}
}

// TestPuzzleTextFails has puzzles that are none, and the texts that they would have.
func TestPuzzleTextFails(t *testing.T) {
	for _, puzzle := range badPuzzles() {
		got, ok := impl.PuzzleText(puzzle)
		wantText(t, "PuzzleText", puzzle, got, ok, "", false)
		checkParsed(t, textOf(puzzle), impl.Puzzle{}, false)
	}
}

// badPuzzleTexts have superfluous zeros, signs and blanks, and missing, superfluous and other parts.
func badPuzzleTexts() []string {
	texts := []string{
		"", ":", "::", ",", ".", "40", "40.", "40,", "40;", ":0.3.0", "40::", "40:0.3.0:", "40::0.3.0", ":40:", "40:40:", "40:0.3.0:40", "40;0.3.0", "40.0.3.0", "40,0.3.0", "40 0.3.0", "400.3.0",
		"40:,", "40:,0.3.0", "40:0.3.0,", "40:0.3.0,,0.4.0", "40:0.3.0;0.4.0", "40:0.3.0 0.4.0", "40:0.3.00.4.0", "40:0.3.0.0.4.0", "40:,,", "40:,,,,,", "40:,,,,,,", "40:0.3.0,,,,,",
		"40:0", "40:0.3", "40:0.", "40:0..", "40:..", "40:...", "40:.", "40:.3.0", "40:0.3.", "40:0..0", "40:0.3.0.", "40:.0.3.0", "40:0.3.0.0", "40:0.3,0", "40:0,3,0", "40:0:3:0", "40:03.0", "40:3.9,0.4.0", "40:4.0.3.0", "40:30",
		"040:", "00:", "0040:0.3.0", "40:00.3.0", "40:0.03.0", "40:0.3.00", "40:3.00.0", "40:3.09.0", "40:2.2.01", "01:", "1:0.3.0,0.4.00",
		"+40:", "-40:", "-0:", "40:+0.3.0", "40:-0.3.0", "40:0.+3.0", "40:0.3.+0", "40:0.3.-0", "40:0.-3.0", "40:2.2.+1", "40:2.2.-1", "40:-1.3.0", "40:3.-1.0", "40:3.-0.0",
		" 40:", "40 :", "40: ", "40: 0.3.0", "40:0.3.0 ", "40:0 .3.0", "40:0. 3.0", "40:0.3.0, 0.4.0", "40:0.3.0 ,0.4.0", "40:\n", "40:0.3.0\n", "\n40:", "40:\t0.3.0", "40:0.3.0\r\n", "\ufeff40:", "40:0.3.0\x00", "\x0040:",
		"a:", "40:a.3.0", "40:0.a.0", "40:0.3.a", "40:0.3.0,a", "40:a", "4a:", "40:0.3.0a", "0x28:", "4_0:", "40:0.0x3.0", "40:3.1_0.0", "4e1:", "40:3.1e1.0", "40:0.3.0.", "40.0:", "\xff", "40:\xff", "40:0.3.\xff", "4\u0660:", "\u0664\u0660:", "40\uff1a", "40:0\u20243\u20240",
		"0:", "501:", "1000:", "9223372036854775807:", "9223372036854775808:", "18446744073709551656:", "40:18446744073709551616.3.0", "40:0.18446744073709551619.0", "40:0.3.18446744073709551616", "-18446744073709551576:",
		"40:6.3.0", "40:0.2.0", "40:0.25.0", "40:0.3.1", "40:1.2.0", "40:1.25.0", "40:1.3.3", "40:2.1.0", "40:2.101.0", "40:2.2.2", "40:2.100.100", "40:3.101.0", "40:3.9.1", "40:4.101.3", "40:4.4.2", "40:4.4.25", "40:4.4.0", "40:5.2.0", "40:5.25.0", "40:5.3.1",
		"40:0.3.0,0.3.0,0.3.0,0.3.0,0.3.0,0.3.0,0.3.0", "40:0.3.0,0.3.0,0.3.0,0.3.0,0.3.0,0.3.0,", "40:,0.3.0,0.3.0,0.3.0,0.3.0,0.3.0,0.3.0", "40:0.3.0,0.3.0,0.3.0,0.3.0,0.3.0,0.2.0", "501:0.3.0,0.3.0,0.3.0,0.3.0,0.3.0,0.3.0", "3:8", "o../oo./ooo",
	}
	return texts
}

func TestParsePuzzleFails(t *testing.T) {
	for _, text := range badPuzzleTexts() {
		checkParsed(t, text, impl.Puzzle{}, false)
	}
}

// TestParsePuzzleOfChangedTexts takes a byte out of the text of a puzzle, puts one in, or puts one in
// its place, and changes and repeats its parts.
func TestParsePuzzleOfChangedTexts(t *testing.T) {
	for _, text := range append(puzzleTexts, badPuzzleTexts()[:60]...) {
		for place := range len(text) + 1 {
			before, behind := text[:place], text[place:]
			checkAnyPuzzleText(t, before)
			checkAnyPuzzleText(t, behind)
			checkAnyPuzzleText(t, behind+before)
			checkAnyPuzzleText(t, text+behind)
			for _, sign := range "0123456789:.,-+ N\x00" {
				checkAnyPuzzleText(t, before+string(sign)+behind)
				if behind != "" {
					checkAnyPuzzleText(t, before+behind[1:])
					checkAnyPuzzleText(t, before+string(sign)+behind[1:])
				}
			}
		}
	}
}

// TestParsePuzzleOfShortTexts looks at all texts of a few bytes with the signs of puzzles.
func TestParsePuzzleOfShortTexts(t *testing.T) {
	texts := []string{"", "7:", "7:0.3.0", "7:3"}
	for range 6 {
		var longer []string
		for _, text := range texts {
			checkAnyPuzzleText(t, text)
			for _, sign := range []string{"0", "1", "4", ":", ".", ",", "-"} {
				longer = append(longer, text+sign)
			}
		}
		texts = longer
	}
}

// FuzzParsePuzzle checks the texts that the fuzzer makes of the given ones.
func FuzzParsePuzzle(f *testing.F) {
	for _, text := range append(puzzleTexts, badPuzzleTexts()...) {
		f.Add(text)
	}
	f.Fuzz(checkAnyPuzzleText)
}
