package tests

import (
	"math"
	"slices"
	"testing"

	"loop.example/g01250/impl"
)

const (
	mostSeed = 9999
	modulusZ = 10007
)

func checkMadePuzzle(t *testing.T, most int, clues int, seed int, want impl.Puzzle, wantN int, wantOk bool) {
	t.Helper()
	got, n, ok := impl.MakePuzzle(most, clues, seed)
	wantPuzzle(t, "MakePuzzle", [3]int{most, clues, seed}, got, ok, want, wantOk)
	wantNumber(t, "MakePuzzle", [3]int{most, clues, seed}, n, ok, wantN, wantOk)
}

// TestMakePuzzleByHand has puzzles whose numbers z are reckoned on paper: from the seed 0 on 2719,
// 1684, 4139, 2715, 920 and 8320, from 9999 on 1191, 39, 161, 3449 and 1016, and from 1 on 2910, 8144,
// 7138 and 5125.
func TestMakePuzzleByHand(t *testing.T) {
	checkMadePuzzle(t, mostGuess, 3, 0, puzzleOf("500:3.4.0,1.6.0,1.7.0"), 220, true)
	checkMadePuzzle(t, mostGuess, 0, 0, puzzleOf("500:"), 220, true)
	checkMadePuzzle(t, 40, 2, 0, puzzleOf("40:3.4.0,1.6.0"), 40, true)
	checkMadePuzzle(t, 1, 3, 0, puzzleOf("1:3.1.0,0.6.0,0.7.0"), 1, true)
	checkMadePuzzle(t, mostGuess, 2, mostSeed, puzzleOf("500:2.9.3,1.5.0"), 192, true)
	checkMadePuzzle(t, 1, 2, mostSeed, puzzleOf("1:2.9.1,0.5.0"), 1, true)
	checkMadePuzzle(t, mostGuess, 2, 1, puzzleOf("500:1.7.0,3.6.0"), 411, true)
	checkMadePuzzle(t, 10, 1, 1, puzzleOf("10:0.7.0"), 1, true)
}

// zOf returns the numbers z that follow a seed.
func zOf(seed int, count int) []int {
	numbers := []int{seed}
	for range count {
		numbers = append(numbers, (numbers[len(numbers)-1]*191+2719)%modulusZ)
	}
	return numbers[1:]
}

// madeOf tells a puzzle by numbers z that are all there already, and its number.
func madeOf(most int, clues int, z []int) (impl.Puzzle, int) {
	n := z[0]%most + 1
	z = z[1:]
	puzzle := impl.Puzzle{Most: most}
	for range clues {
		var clue impl.Clue
		switch z[0] % 3 {
		case 0:
			clue = impl.Clue{Kind: 2, A: z[1]%11 + 2, B: n % (z[1]%11 + 2)}
			z = z[2:]
		case 1:
			clue = impl.Clue{Kind: 3, A: addedDigits(n)}
			z = z[1:]
		case 2:
			clue = impl.Clue{Kind: 1, A: z[1]%6 + 3}
			if shapedUpToMost()[clue.A][n] {
				clue.Kind = 0
			}
			z = z[2:]
		}
		puzzle.Clues = append(puzzle.Clues, clue)
	}
	return puzzle, n
}

// TestMakePuzzle has all seeds.
func TestMakePuzzle(t *testing.T) {
	for seed := 0; seed <= mostSeed; seed++ {
		z := zOf(seed, 1+2*mostClues)
		for _, most := range []int{1, 2, 1 + seed%mostGuess, mostGuess - 1, mostGuess} {
			want, n := madeOf(most, mostClues, z)
			checkMadePuzzle(t, most, mostClues, seed, want, n, true)
			clues := seed % mostClues
			want.Clues = want.Clues[:clues]
			checkMadePuzzle(t, most, clues, seed, want, n, true)
		}
	}
}

// TestMakePuzzleFits checks that a puzzle that is made is one, and fits its number.
func TestMakePuzzleFits(t *testing.T) {
	kinds := map[int]int{}
	for seed := 0; seed <= mostSeed; seed += 7 {
		for clues := range mostClues + 1 {
			for _, most := range []int{1, 1 + seed%mostGuess, mostGuess} {
				puzzle, n, ok := impl.MakePuzzle(most, clues, seed)
				solutions, alsoOk := impl.Solutions(puzzle)
				if !ok || !alsoOk || !slices.Contains(solutions, n) || puzzle.Most != most || len(puzzle.Clues) != clues {
					t.Fatal("MakePuzzle", most, clues, seed, textOf(puzzle), n, ok)
				}
				for _, clue := range puzzle.Clues {
					kinds[clue.Kind]++
				}
			}
		}
	}
	if len(kinds) != 4 || min(kinds[0], kinds[1], kinds[2], kinds[3]) < 100 {
		t.Error("kinds", kinds)
	}
}

func TestMakePuzzleFails(t *testing.T) {
	for _, most := range badGuesses {
		checkMadePuzzle(t, most, 3, 7, impl.Puzzle{}, 0, false)
		checkMadePuzzle(t, most, -1, mostSeed+1, impl.Puzzle{}, 0, false)
	}
	for _, clues := range []int{math.MinInt, -2, -1, mostClues + 1, mostClues + 2, math.MaxInt} {
		checkMadePuzzle(t, 1, clues, 0, impl.Puzzle{}, 0, false)
		checkMadePuzzle(t, mostGuess, clues, mostSeed, impl.Puzzle{}, 0, false)
	}
	for _, seed := range []int{math.MinInt, -2, -1, mostSeed + 1, mostSeed + 2, modulusZ, math.MaxInt} {
		checkMadePuzzle(t, 1, 0, seed, impl.Puzzle{}, 0, false)
		checkMadePuzzle(t, mostGuess, mostClues, seed, impl.Puzzle{}, 0, false)
	}
}
