package tests

import (
	"slices"
	"testing"

	"loop.example/g01250/impl"
)

// fitting has the numbers up to most that fit all clues.
func fitting(most int, clues ...impl.Clue) []int {
	var numbers []int
	for n := 1; n <= most; n++ {
		isUnfit := func(clue impl.Clue) bool { return !isFit(clue, n) }
		if !slices.ContainsFunc(clues, isUnfit) {
			numbers = append(numbers, n)
		}
	}
	return numbers
}

// checkNumbersOf checks what a call tells of each of the puzzles, and that it fails for those that
// are none.
func checkNumbersOf(t *testing.T, call string, told func(impl.Puzzle) ([]int, bool), tell func(impl.Puzzle) []int) {
	t.Helper()
	for _, puzzle := range manyPuzzles() {
		got, ok := told(puzzle)
		wantNumbers(t, call, textOf(puzzle), got, ok, tell(puzzle), true)
	}
	for _, puzzle := range badPuzzles() {
		got, ok := told(puzzle)
		wantNumbers(t, call, textOf(puzzle), got, ok, nil, false)
	}
}

// checkTextsOf checks what it tells of the puzzles of some texts.
func checkTextsOf(t *testing.T, call string, told func(impl.Puzzle) ([]int, bool), texts map[string][]int) {
	t.Helper()
	for text, want := range texts {
		got, ok := told(puzzleOf(text))
		wantNumbers(t, call, text, got, ok, want, true)
	}
}

func TestSolutions(t *testing.T) {
	checkTextsOf(t, "Solutions", impl.Solutions, map[string][]int{
		"1:": {1}, "3:": {1, 2, 3}, "1:0.24.0": {1}, "1:1.3.0": nil, "2:5.24.0": {2},
		"40:0.3.0": {1, 3, 6, 10, 15, 21, 28, 36}, "40:0.3.0,1.3.0": nil, "40:0.4.0,0.4.0": {1, 4, 9, 16, 25, 36},
		"36:0.3.0,0.4.0": {1, 36}, "35:0.3.0,0.4.0": {1}, "40:3.9.0": {9, 18, 27, 36}, "499:3.22.0": {499}, "498:3.22.0": nil,
		"500:2.2.0,2.3.0,2.5.0,2.7.0": {210, 420}, "419:2.2.0,2.3.0,2.5.0,2.7.0": {210}, "500:2.2.0,2.2.1": nil, "500:2.100.0": {100, 200, 300, 400, 500},
		"120:4.100.3": {100, 101, 103, 106, 110, 115}, "99:4.100.3": nil, "500:2.100.99,4.100.3": nil, "40:5.3.0,0.3.0": {6, 21, 36},
	})
	checkNumbersOf(t, "Solutions", impl.Solutions, func(puzzle impl.Puzzle) []int { return fitting(puzzle.Most, puzzle.Clues...) })
}

// TestSolutionsWithoutClues checks that all numbers are solutions where no clue is told.
func TestSolutionsWithoutClues(t *testing.T) {
	var all []int
	for most := 1; most <= mostGuess; most++ {
		all = append(all, most)
		for _, clues := range [][]impl.Clue{nil, {}} {
			got, ok := impl.Solutions(impl.Puzzle{Most: most, Clues: clues})
			wantNumbers(t, "Solutions", most, got, ok, all, true)
		}
	}
}

// TestSolutionsFitAllClues checks the promise, and that no other number fits them all.
func TestSolutionsFitAllClues(t *testing.T) {
	for _, puzzle := range manyPuzzles() {
		solutions, ok := impl.Solutions(puzzle)
		for n := 1; n <= puzzle.Most; n++ {
			fitsAll := ok
			for _, clue := range puzzle.Clues {
				fits, ok := impl.DoesFit(clue, n)
				fitsAll = fitsAll && fits && ok
			}
			if fitsAll != slices.Contains(solutions, n) {
				t.Fatal("Solutions", textOf(puzzle), n, solutions, ok)
			}
		}
	}
}

func TestCountSolutions(t *testing.T) {
	for text, want := range map[string]int{"1:": 1, "500:": 500, "40:0.3.0,0.4.0": 2, "500:3.100.0": 0, "500:3.22.0": 1, "500:2.2.0": 250} {
		count, ok := impl.CountSolutions(puzzleOf(text))
		wantNumber(t, "CountSolutions", text, count, ok, want, true)
	}
	for _, puzzle := range manyPuzzles() {
		count, ok := impl.CountSolutions(puzzle)
		wantNumber(t, "CountSolutions", textOf(puzzle), count, ok, len(fitting(puzzle.Most, puzzle.Clues...)), true)
	}
	for _, puzzle := range badPuzzles() {
		count, ok := impl.CountSolutions(puzzle)
		wantNumber(t, "CountSolutions", textOf(puzzle), count, ok, 0, false)
	}
}

func TestIsSolved(t *testing.T) {
	for text, want := range map[string]bool{"1:": true, "2:": false, "500:": false, "1:1.3.0": false, "40:0.3.0,0.4.0": false, "35:0.3.0,0.4.0": true, "500:3.22.0": true, "500:3.100.0": false, "500:2.2.0,2.3.0,2.5.0,2.7.0": false} {
		solved, ok := impl.IsSolved(puzzleOf(text))
		wantSolved(t, text, solved, ok, want, true)
	}
	counts := map[int]int{}
	for _, puzzle := range manyPuzzles() {
		count := len(fitting(puzzle.Most, puzzle.Clues...))
		solved, ok := impl.IsSolved(puzzle)
		wantSolved(t, textOf(puzzle), solved, ok, count == 1, true)
		counts[min(count, 2)]++
	}
	if min(counts[0], counts[1], counts[2]) < 100 {
		t.Error("too few puzzles of a kind", counts)
	}
	for _, puzzle := range badPuzzles() {
		solved, ok := impl.IsSolved(puzzle)
		wantSolved(t, textOf(puzzle), solved, ok, false, false)
	}
}

// indicesWithout tells the needless clues by the solutions without each.
func indicesWithout(puzzle impl.Puzzle) []int {
	var indices []int
	for k := range puzzle.Clues {
		others := slices.Delete(slices.Clone(puzzle.Clues), k, k+1)
		if slices.Equal(fitting(puzzle.Most, others...), fitting(puzzle.Most, puzzle.Clues...)) {
			indices = append(indices, k)
		}
	}
	return indices
}

// TestNeedlessClues has clues that are needless only one alone, also where there are no solutions.
func TestNeedlessClues(t *testing.T) {
	checkTextsOf(t, "NeedlessClues", impl.NeedlessClues, map[string][]int{
		"1:": nil, "500:": nil, "40:0.3.0": nil, "40:0.3.0,0.4.0": nil, "1:0.3.0": {0}, "1:0.3.0,0.4.0": {0, 1}, "1:0.3.0,0.4.0,5.3.0": {0, 1}, "1:0.3.0,5.3.0,0.4.0": {0, 2},
		"40:0.3.0,0.4.0,3.9.0": {1}, "40:3.9.0,0.4.0,0.3.0": {1}, "40:0.4.0,0.3.0,3.9.0": {0}, "40:0.3.0,3.9.0,0.4.0": {2},
		"40:0.4.0,0.4.0": {0, 1}, "40:0.4.0,0.3.0,0.4.0": {0, 2}, "40:3.9.0,3.9.0,0.3.0,0.3.0": {0, 1, 2, 3},
		"40:0.3.0,1.3.0": nil, "40:0.3.0,1.3.0,3.50.0": {0, 1, 2}, "500:3.0.0": nil, "500:3.0.0,3.100.0": {0, 1}, "99:4.100.3,3.0.0,2.2.0": {0, 1, 2},
		"500:3.22.0,2.2.1": {1}, "500:2.2.1,3.22.0": {0}, "420:2.4.0,2.6.0,2.10.0,2.12.0,2.5.0,2.7.0": {0, 1, 2, 3, 4},
	})
	checkNumbersOf(t, "NeedlessClues", impl.NeedlessClues, indicesWithout)
}

// leftBy tells what is left by taking out, clue by clue, the numbers that do not fit.
func leftBy(puzzle impl.Puzzle) []int {
	left := fitting(puzzle.Most)
	counts := []int{len(left)}
	for _, clue := range puzzle.Clues {
		left = slices.DeleteFunc(left, func(n int) bool { return !isFit(clue, n) })
		counts = append(counts, len(left))
	}
	return counts
}

func TestLeftByClues(t *testing.T) {
	checkTextsOf(t, "LeftByClues", impl.LeftByClues, map[string][]int{
		"1:": {1}, "500:": {500}, "40:0.3.0,0.4.0,3.9.0": {40, 8, 2, 1}, "40:3.9.0,0.4.0,0.3.0": {40, 4, 2, 1}, "40:0.4.0,0.4.0": {40, 6, 6},
		"40:0.3.0,1.3.0,2.2.0": {40, 8, 0, 0}, "500:2.2.0,2.3.0,2.5.0,2.7.0": {500, 250, 83, 16, 2}, "1:1.3.0": {1, 0},
		"500:2.2.0,2.4.0,2.8.0,2.16.0,2.32.0,2.64.0": {500, 250, 125, 62, 31, 15, 7},
	})
	checkNumbersOf(t, "LeftByClues", impl.LeftByClues, leftBy)
}

// TestLeftByCluesEnds checks that the last number is that of all solutions.
func TestLeftByCluesEnds(t *testing.T) {
	for _, puzzle := range manyPuzzles() {
		count, _ := impl.CountSolutions(puzzle)
		left, ok := impl.LeftByClues(puzzle)
		if !ok || len(left) != len(puzzle.Clues)+1 || left[0] != puzzle.Most || left[len(left)-1] != count {
			t.Fatal("LeftByClues", textOf(puzzle), left, ok, count)
		}
	}
}

// TestBestClue has several clues that the same fewest numbers fit.
func TestBestClue(t *testing.T) {
	for text, want := range map[string]int{
		"1:0.3.0": 0, "500:1.3.0": 0, "40:0.3.0,0.4.0": 1, "40:0.4.0,0.3.0": 0, "40:0.3.0,0.4.0,3.9.0": 2, "40:3.9.0,0.4.0,0.3.0": 0,
		"40:0.4.0,0.4.0": 0, "40:0.3.0,0.4.0,0.4.0": 1, "1:0.3.0,0.4.0": 0, "500:2.2.1,2.2.0": 0, "500:2.7.3,2.2.1,2.8.3,2.8.4": 2, "500:3.0.0,3.100.0": 0, "500:2.2.0,3.100.0,3.0.0": 1,
		"1:0.3.0,1.3.0": 1, "500:1.3.0,1.4.0,1.5.0,1.6.0,1.7.0,3.22.0": 5, "500:1.3.0,1.3.0,1.3.0,1.3.0,1.3.0,1.3.0": 0,
	} {
		best, ok := impl.BestClue(puzzleOf(text))
		wantNumber(t, "BestClue", text, best, ok, want, true)
	}
	for _, puzzle := range manyPuzzles() {
		var counts []int
		for _, clue := range puzzle.Clues {
			counts = append(counts, len(fitting(puzzle.Most, clue)))
		}
		best, ok := impl.BestClue(puzzle)
		if len(counts) == 0 {
			wantNumber(t, "BestClue", textOf(puzzle), best, ok, 0, false)
			continue
		}
		wantNumber(t, "BestClue", textOf(puzzle), best, ok, slices.Index(counts, slices.Min(counts)), true)
	}
	for _, puzzle := range badPuzzles() {
		best, ok := impl.BestClue(puzzle)
		wantNumber(t, "BestClue", textOf(puzzle), best, ok, 0, false)
	}
}
