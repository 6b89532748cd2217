package tests

import (
	"math"
	"slices"
	"testing"

	"loop.example/g01250/impl"
)

var cluesToAdd = []impl.Clue{{Kind: 0, A: 3}, {Kind: 1, A: 24}, {Kind: 2, A: 2}, {Kind: 2, A: 100, B: 99}, {Kind: 3, A: 0}, {Kind: 3, A: 100}, {Kind: 4, A: 0, B: 3}, {Kind: 4, A: 100, B: 24}, {Kind: 5, A: 4}}

func checkDrop(t *testing.T, puzzle impl.Puzzle, k int, want impl.Puzzle, wantOk bool) {
	t.Helper()
	got, ok := impl.DropClue(puzzle, k)
	wantPuzzle(t, "DropClue", textOf(puzzle), got, ok, want, wantOk)
}

func checkAdd(t *testing.T, puzzle impl.Puzzle, clue impl.Clue, want impl.Puzzle, wantOk bool) {
	t.Helper()
	got, ok := impl.AddClue(puzzle, clue)
	wantPuzzle(t, "AddClue", textOf(puzzle), got, ok, want, wantOk)
}

func TestDropClue(t *testing.T) {
	six := puzzleOf("500:2.2.0,2.3.1,2.5.2,2.7.3,2.11.4,2.13.5")
	checkDrop(t, six, 0, puzzleOf("500:2.3.1,2.5.2,2.7.3,2.11.4,2.13.5"), true)
	checkDrop(t, six, 2, puzzleOf("500:2.2.0,2.3.1,2.7.3,2.11.4,2.13.5"), true)
	checkDrop(t, six, 5, puzzleOf("500:2.2.0,2.3.1,2.5.2,2.7.3,2.11.4"), true)
	checkDrop(t, puzzleOf("1:0.3.0"), 0, puzzleOf("1:"), true)
	checkDrop(t, puzzleOf("40:0.4.0,0.3.0,0.4.0"), 2, puzzleOf("40:0.4.0,0.3.0"), true)
	for _, puzzle := range manyPuzzles() {
		for k := range puzzle.Clues {
			clues := slices.Delete(slices.Clone(puzzle.Clues), k, k+1)
			checkDrop(t, puzzle, k, impl.Puzzle{Most: puzzle.Most, Clues: clues}, true)
		}
	}
}

// TestDropClueFails has indices that are those of no clue, and puzzles that are none.
func TestDropClueFails(t *testing.T) {
	for _, puzzle := range manyPuzzles() {
		for _, k := range []int{math.MinInt, -2, -1, len(puzzle.Clues), len(puzzle.Clues) + 1, mostClues, math.MaxInt} {
			checkDrop(t, puzzle, k, impl.Puzzle{}, false)
		}
	}
	for _, puzzle := range badPuzzles() {
		for k := -1; k <= mostClues+1; k++ {
			checkDrop(t, puzzle, k, impl.Puzzle{}, false)
		}
	}
}

func TestAddClue(t *testing.T) {
	checkAdd(t, puzzleOf("1:"), impl.Clue{Kind: 0, A: 3}, puzzleOf("1:0.3.0"), true)
	checkAdd(t, puzzleOf("40:0.3.0"), impl.Clue{Kind: 0, A: 3}, puzzleOf("40:0.3.0,0.3.0"), true)
	checkAdd(t, puzzleOf("500:2.2.0,2.3.1,2.5.2,2.7.3,2.11.4"), impl.Clue{Kind: 2, A: 13, B: 5}, puzzleOf("500:2.2.0,2.3.1,2.5.2,2.7.3,2.11.4,2.13.5"), true)
	for _, puzzle := range manyPuzzles() {
		for _, clue := range cluesToAdd {
			if len(puzzle.Clues) == mostClues {
				checkAdd(t, puzzle, clue, impl.Puzzle{}, false)
				continue
			}
			want := impl.Puzzle{Most: puzzle.Most, Clues: append(slices.Clone(puzzle.Clues), clue)}
			checkAdd(t, puzzle, clue, want, true)
			checkDrop(t, want, len(puzzle.Clues), puzzle, true)
		}
	}
	for _, clue := range allClues() {
		checkAdd(t, impl.Puzzle{Most: 40}, clue, impl.Puzzle{Most: 40, Clues: []impl.Clue{clue}}, true)
	}
}

func TestAddClueFails(t *testing.T) {
	for _, clue := range badClues() {
		for _, text := range []string{"1:", "40:0.3.0,0.4.0", "500:2.2.0,2.3.1,2.5.2,2.7.3,2.11.4", "500:2.2.0,2.3.1,2.5.2,2.7.3,2.11.4,2.13.5"} {
			checkAdd(t, puzzleOf(text), clue, impl.Puzzle{}, false)
		}
	}
	for _, puzzle := range badPuzzles() {
		for _, clue := range append(cluesToAdd, impl.Clue{Kind: -1}) {
			checkAdd(t, puzzle, clue, impl.Puzzle{}, false)
		}
	}
}

// takenOut tells the harder puzzle by the solutions of what is left.
func takenOut(puzzle impl.Puzzle) impl.Puzzle {
	kept := []impl.Clue{}
	for k, clue := range puzzle.Clues {
		others := slices.Concat(kept, puzzle.Clues[k+1:])
		if len(fitting(puzzle.Most, others...)) != 1 {
			kept = append(kept, clue)
		}
	}
	return impl.Puzzle{Most: puzzle.Most, Clues: kept}
}

func checkHarder(t *testing.T, puzzle impl.Puzzle, want impl.Puzzle, wantOk bool) {
	t.Helper()
	got, ok := impl.HarderPuzzle(puzzle)
	wantPuzzle(t, "HarderPuzzle", textOf(puzzle), got, ok, want, wantOk)
}

// TestHarderPuzzle has puzzles from which no clue, all but one and all of them can be taken out.
func TestHarderPuzzle(t *testing.T) {
	for text, want := range map[string]string{
		"1:": "1:", "1:0.3.0": "1:", "1:0.3.0,0.4.0,0.5.0,0.6.0,0.7.0,0.8.0": "1:", "2:5.3.0": "2:5.3.0", "40:0.3.0,3.9.0": "40:0.3.0,3.9.0",
		"40:0.3.0,0.4.0,3.9.0": "40:0.3.0,3.9.0", "40:3.9.0,0.4.0,0.3.0": "40:3.9.0,0.3.0", "40:0.4.0,0.3.0,3.9.0": "40:0.3.0,3.9.0", "40:3.9.0,0.3.0,0.4.0": "40:3.9.0,0.3.0",
		"40:3.9.0,3.9.0,0.3.0,0.3.0": "40:3.9.0,0.3.0", "500:3.22.0": "500:3.22.0", "500:3.22.0,3.22.0": "500:3.22.0", "500:3.22.0,2.2.1": "500:3.22.0", "500:2.2.1,3.22.0": "500:3.22.0",
		"500:1.3.0,1.4.0,3.22.0,1.5.0,1.6.0,2.2.1": "500:3.22.0", "500:3.22.0,1.3.0,1.4.0,1.5.0,1.6.0,2.2.1": "500:3.22.0", "500:1.3.0,1.4.0,1.5.0,1.6.0,2.2.1,3.22.0": "500:3.22.0",
		"419:2.2.0,2.3.0,2.5.0,2.7.0": "419:2.2.0,2.3.0,2.5.0,2.7.0", "419:2.6.0,2.2.0,2.3.0,2.5.0,2.7.0": "419:2.2.0,2.3.0,2.5.0,2.7.0", "420:2.4.0,2.6.0,2.10.0,2.12.0,2.5.0,2.7.0": "420:2.12.0,2.5.0,2.7.0",
	} {
		checkHarder(t, puzzleOf(text), puzzleOf(want), true)
	}
	solved := 0
	for _, puzzle := range manyPuzzles() {
		if len(fitting(puzzle.Most, puzzle.Clues...)) != 1 {
			checkHarder(t, puzzle, impl.Puzzle{}, false)
			continue
		}
		checkHarder(t, puzzle, takenOut(puzzle), true)
		solved++
	}
	if solved < 400 {
		t.Error("too few solved puzzles", solved)
	}
	for _, puzzle := range badPuzzles() {
		checkHarder(t, puzzle, impl.Puzzle{}, false)
	}
}

// TestHarderPuzzleIsSolved checks that the solution stays the same, and that no clue that is left is
// needless.
func TestHarderPuzzleIsSolved(t *testing.T) {
	for _, puzzle := range manyPuzzles() {
		harder, ok := impl.HarderPuzzle(puzzle)
		if solved, _ := impl.IsSolved(puzzle); solved != ok {
			t.Fatal("HarderPuzzle", textOf(puzzle), ok)
		}
		if !ok {
			continue
		}
		want, _ := impl.Solutions(puzzle)
		solutions, ok := impl.Solutions(harder)
		wantNumbers(t, "Solutions of HarderPuzzle", textOf(puzzle), solutions, ok, want, true)
		needless, ok := impl.NeedlessClues(harder)
		wantNumbers(t, "NeedlessClues of HarderPuzzle", textOf(puzzle), needless, ok, nil, true)
	}
}
