package tests

import (
	"fmt"
	"math"
	"math/rand"
	"slices"
	"strings"
	"sync"
	"testing"

	"loop.example/g01250/impl"
)

// puzzleOf lets a test write a puzzle as its text. What is no number of one becomes 0.
func puzzleOf(text string) impl.Puzzle {
	most, parts, _ := strings.Cut(text, ":")
	var puzzle impl.Puzzle
	fmt.Sscan(most, &puzzle.Most)
	for _, part := range strings.FieldsFunc(parts, func(sign rune) bool { return sign == ',' }) {
		var clue impl.Clue
		fmt.Sscanf(part, "%d.%d.%d", &clue.Kind, &clue.A, &clue.B)
		puzzle.Clues = append(puzzle.Clues, clue)
	}
	return puzzle
}

// textOf writes what puzzleOf reads, also if it is of no puzzle.
func textOf(puzzle impl.Puzzle) string {
	var parts []string
	for _, clue := range puzzle.Clues {
		parts = append(parts, fmt.Sprintf("%d.%d.%d", clue.Kind, clue.A, clue.B))
	}
	return fmt.Sprintf("%d:%s", puzzle.Most, strings.Join(parts, ","))
}

// puzzleTexts are of puzzles with the edges that are named: without clues, with MaxClues clues, with
// the same clue twice, with no solution, with one and with many.
var puzzleTexts = []string{
	"1:", "2:", "499:", "500:",
	"40:0.3.0,0.4.0", "40:0.3.0,0.4.0,3.9.0", "40:3.9.0,0.4.0,0.3.0",
	"1:0.3.0", "1:0.24.0,0.3.0", "1:1.3.0", "1:5.3.0", "1:4.1.3", "1:4.0.24", "1:4.2.3", "2:5.24.0", "2:1.3.0",
	"40:0.3.0,1.3.0", "40:0.3.0,1.3.0,3.50.0", "500:3.0.0", "500:3.100.0", "500:2.2.0,2.2.1",
	"40:0.4.0,0.4.0", "40:0.4.0,0.3.0,0.4.0", "40:3.9.0,3.9.0,0.3.0,0.3.0", "40:1.3.0,0.4.0,1.3.0",
	"500:3.22.0", "500:3.22.0,2.2.1", "500:2.2.1,3.22.0", "499:3.22.0,3.22.0", "498:3.22.0", "500:2.100.99,4.100.3",
	"500:2.2.0,2.3.1,2.5.2,2.7.3,2.11.4,2.13.5", "500:2.2.0,2.3.0,2.5.0,2.7.0", "419:2.2.0,2.3.0,2.5.0,2.7.0", "420:2.4.0,2.6.0,2.10.0,2.12.0,2.5.0,2.7.0",
	"500:0.3.0,0.6.0,1.4.0,5.4.0", "500:0.3.0,0.3.0,0.3.0,0.3.0,0.3.0,0.3.0", "500:1.3.0,1.4.0,1.5.0,1.6.0,1.7.0,1.24.0", "500:5.3.0,5.4.0,5.5.0,5.6.0,5.7.0,5.8.0",
	"500:5.24.0,5.3.0", "100:4.100.3", "99:4.100.3", "500:4.0.3,4.1.3", "500:4.3.4,4.4.4,1.3.0", "55:0.3.0,5.3.0,2.10.5,3.10.0,4.45.4,1.4.0",
}

// drawnClue is of any kind. It is one that n fits if there is one of the kind that is drawn.
func drawnClue(random *rand.Rand, n int) impl.Clue {
	sides := 3 + random.Intn(mostSides-2)
	switch kind := random.Intn(mostKind + 2); kind {
	case 0, 1:
		if shapedUpToMost()[sides][n] {
			return impl.Clue{Kind: 0, A: sides}
		}
		return impl.Clue{Kind: 1, A: sides}
	case 2:
		modulus := 2 + random.Intn(mostTold-1)
		return impl.Clue{Kind: kind, A: modulus, B: n % modulus}
	case 3:
		return impl.Clue{Kind: kind, A: addedDigits(n)}
	case 4:
		numbers := piledNumbers(sides, n)
		return impl.Clue{Kind: kind, A: min(n-numbers[random.Intn(len(numbers)-1)], mostTold), B: sides}
	case 5:
		return impl.Clue{Kind: kind, A: sides}
	}
	return allClues()[random.Intn(len(allClues()))]
}

// manyPuzzles are those of the texts and ones that are the same in each run: of each number of clues,
// many with a number that they are about, and some with a clue again.
var manyPuzzles = sync.OnceValue(func() []impl.Puzzle {
	var puzzles []impl.Puzzle
	for _, text := range puzzleTexts {
		puzzles = append(puzzles, puzzleOf(text))
	}
	random := rand.New(rand.NewSource(9))
	for _, most := range []int{1, 2, 3, 9, 10, 40, 99, 100, 101, 250, mostGuess - 1, mostGuess} {
		for count := range mostClues + 1 {
			for range 25 {
				n := 1 + random.Intn(most)
				puzzle := impl.Puzzle{Most: most}
				for range count {
					puzzle.Clues = append(puzzle.Clues, drawnClue(random, n))
				}
				if count > 1 && random.Intn(4) == 0 {
					puzzle.Clues[random.Intn(count)] = puzzle.Clues[random.Intn(count)]
				}
				puzzles = append(puzzles, puzzle)
			}
		}
	}
	return puzzles
})

// badPuzzles have a Most that is none, a clue more than MaxClues, or something that is no clue among
// their clues.
func badPuzzles() []impl.Puzzle {
	var puzzles []impl.Puzzle
	for _, most := range badGuesses {
		for _, text := range []string{":", ":0.3.0", ":0.3.0,0.4.0,3.9.0"} {
			puzzle := puzzleOf(text)
			puzzle.Most = most
			puzzles = append(puzzles, puzzle)
		}
	}
	for _, count := range []int{mostClues + 1, mostClues + 2, 100} {
		for _, most := range []int{1, 40, mostGuess} {
			puzzles = append(puzzles, impl.Puzzle{Most: most, Clues: slices.Repeat([]impl.Clue{{Kind: 0, A: 3}}, count)})
		}
	}
	for _, bad := range badClues() {
		for _, count := range []int{1, 2, mostClues} {
			for place := range count {
				clues := slices.Repeat([]impl.Clue{{Kind: 3, A: 9}}, count)
				clues[place] = bad
				puzzles = append(puzzles, impl.Puzzle{Most: 40, Clues: clues})
			}
		}
	}
	return puzzles
}

// isTold tells whether a puzzle, whose numbers may be any, is one.
func isTold(puzzle impl.Puzzle) bool {
	isNone := func(clue impl.Clue) bool { return !setOfClues()[clue] }
	return isIn(puzzle.Most, 1, mostGuess) && len(puzzle.Clues) <= mostClues && !slices.ContainsFunc(puzzle.Clues, isNone)
}

func samePuzzle(a impl.Puzzle, b impl.Puzzle) bool {
	return a.Most == b.Most && slices.Equal(a.Clues, b.Clues)
}

func wantPuzzle(t *testing.T, call string, of any, got impl.Puzzle, ok bool, want impl.Puzzle, wantOk bool) {
	t.Helper()
	if !samePuzzle(got, want) || ok != wantOk {
		t.Fatalf("%s of %v is %s, %v, not %s, %v", call, of, textOf(got), ok, textOf(want), wantOk)
	}
}

func wantSolved(t *testing.T, of any, got bool, ok bool, want bool, wantOk bool) {
	t.Helper()
	if got != want || ok != wantOk {
		t.Fatalf("IsSolved of %v is %v, %v, not %v, %v", of, got, ok, want, wantOk)
	}
}

func TestPuzzleLimits(t *testing.T) {
	if impl.MaxGuess != mostGuess || impl.MaxClues != mostClues {
		t.Error("limits", impl.MaxGuess, impl.MaxClues)
	}
}

func TestPuzzleExample(t *testing.T) {
	two, ok := impl.ParsePuzzle("40:0.3.0,0.4.0")
	wantPuzzle(t, "ParsePuzzle", "two clues", two, ok, impl.Puzzle{Most: 40, Clues: []impl.Clue{{Kind: 0, A: 3}, {Kind: 0, A: 4}}}, true)
	solutions, ok := impl.Solutions(two)
	wantNumbers(t, "Solutions", two, solutions, ok, []int{1, 36}, true)
	solved, ok := impl.IsSolved(two)
	wantSolved(t, two, solved, ok, false, true)

	three, ok := impl.AddClue(two, impl.Clue{Kind: 3, A: 9})
	wantPuzzle(t, "AddClue", two, three, ok, puzzleOf("40:0.3.0,0.4.0,3.9.0"), true)
	solved, ok = impl.IsSolved(three)
	wantSolved(t, three, solved, ok, true, true)
	needless, ok := impl.NeedlessClues(three)
	wantNumbers(t, "NeedlessClues", three, needless, ok, []int{1}, true)
	without, ok := impl.DropClue(three, 0)
	wantPuzzle(t, "DropClue", three, without, ok, puzzleOf("40:0.4.0,3.9.0"), true)
	solutions, ok = impl.Solutions(without)
	wantNumbers(t, "Solutions", without, solutions, ok, []int{9, 36}, true)
	left, ok := impl.LeftByClues(three)
	wantNumbers(t, "LeftByClues", three, left, ok, []int{40, 8, 2, 1}, true)
}

func TestIsPuzzle(t *testing.T) {
	for _, puzzle := range manyPuzzles() {
		if !impl.IsPuzzle(puzzle) || !isTold(puzzle) {
			t.Fatal("IsPuzzle", textOf(puzzle))
		}
	}
	for _, puzzle := range badPuzzles() {
		if impl.IsPuzzle(puzzle) || isTold(puzzle) {
			t.Fatal("IsPuzzle", textOf(puzzle))
		}
	}
	for _, clue := range allClues() {
		for _, count := range []int{1, mostClues, mostClues + 1} {
			puzzle := impl.Puzzle{Most: 1, Clues: slices.Repeat([]impl.Clue{clue}, count)}
			if impl.IsPuzzle(puzzle) != (count <= mostClues) {
				t.Fatal("IsPuzzle", textOf(puzzle))
			}
		}
	}
	for most := -2; most <= mostGuess+2; most++ {
		for _, clues := range [][]impl.Clue{nil, {}} {
			if impl.IsPuzzle(impl.Puzzle{Most: most, Clues: clues}) != isIn(most, 1, mostGuess) {
				t.Fatal("IsPuzzle", most)
			}
		}
	}
	if impl.IsPuzzle(impl.Puzzle{}) || impl.IsPuzzle(impl.Puzzle{Most: math.MaxInt}) {
		t.Error("IsPuzzle")
	}
}
