package tests

import (
	"math"
	"runtime"
	"slices"
	"strings"
	"sync"
	"testing"
	"time"

	"loop.example/g01250/impl"
)

// toldOfPuzzle is what a call returns: numbers, or the clues of a puzzle and its Most.
type toldOfPuzzle struct {
	numbers []int
	clues   []impl.Clue
	ok      bool
}

func toldNumbers(numbers []int, ok bool) toldOfPuzzle {
	return toldOfPuzzle{numbers: numbers, ok: ok}
}

func toldPuzzle(puzzle impl.Puzzle, ok bool) toldOfPuzzle {
	return toldOfPuzzle{numbers: listedNumbers(ok, puzzle.Most), clues: puzzle.Clues, ok: ok}
}

func numberOfBool(is bool) int {
	if is {
		return 1
	}
	return 0
}

func (told toldOfPuzzle) same(other toldOfPuzzle) bool {
	return slices.Equal(told.numbers, other.numbers) && slices.Equal(told.clues, other.clues) && told.ok == other.ok
}

// callsOfPuzzles are the functions of the chapter that take a puzzle and, some of them, an index or a
// clue more.
var callsOfPuzzles = map[string]func(puzzle impl.Puzzle, k int, clue impl.Clue) toldOfPuzzle{
	"IsPuzzle": func(puzzle impl.Puzzle, _ int, _ impl.Clue) toldOfPuzzle {
		return toldNumbers(nil, impl.IsPuzzle(puzzle))
	},
	"Solutions": func(puzzle impl.Puzzle, _ int, _ impl.Clue) toldOfPuzzle {
		return toldNumbers(impl.Solutions(puzzle))
	},
	"CountSolutions": func(puzzle impl.Puzzle, _ int, _ impl.Clue) toldOfPuzzle {
		count, ok := impl.CountSolutions(puzzle)
		return toldNumbers(listedNumbers(ok, count), ok)
	},
	"IsSolved": func(puzzle impl.Puzzle, _ int, _ impl.Clue) toldOfPuzzle {
		solved, ok := impl.IsSolved(puzzle)
		return toldNumbers(listedNumbers(ok, numberOfBool(solved)), ok)
	},
	"NeedlessClues": func(puzzle impl.Puzzle, _ int, _ impl.Clue) toldOfPuzzle {
		return toldNumbers(impl.NeedlessClues(puzzle))
	},
	"DropClue": func(puzzle impl.Puzzle, k int, _ impl.Clue) toldOfPuzzle {
		return toldPuzzle(impl.DropClue(puzzle, k))
	},
	"AddClue": func(puzzle impl.Puzzle, _ int, clue impl.Clue) toldOfPuzzle {
		return toldPuzzle(impl.AddClue(puzzle, clue))
	},
	"LeftByClues": func(puzzle impl.Puzzle, _ int, _ impl.Clue) toldOfPuzzle {
		return toldNumbers(impl.LeftByClues(puzzle))
	},
	"BestClue": func(puzzle impl.Puzzle, _ int, _ impl.Clue) toldOfPuzzle {
		best, ok := impl.BestClue(puzzle)
		return toldNumbers(listedNumbers(ok, best), ok)
	},
	"HarderPuzzle": func(puzzle impl.Puzzle, _ int, _ impl.Clue) toldOfPuzzle {
		return toldPuzzle(impl.HarderPuzzle(puzzle))
	},
	"PuzzleText": func(puzzle impl.Puzzle, _ int, _ impl.Clue) toldOfPuzzle {
		text, ok := impl.PuzzleText(puzzle)
		return toldNumbers(listedNumbers(ok, len(text)), ok)
	},
}

// anyClues have parts of any size.
func anyClues() []impl.Clue {
	edges := []int{math.MinInt, math.MinInt + 1, -1 << 32, -101, -1, 0, 1, 2, 3, 5, 6, 23, 24, 25, 99, 100, 101, 1 << 32, 1<<32 + 3, 1 << 62, math.MaxInt - 1, math.MaxInt}
	var clues []impl.Clue
	for _, kind := range append(edges, 4) {
		for _, a := range edges {
			for _, b := range edges {
				clues = append(clues, impl.Clue{Kind: kind, A: a, B: b})
			}
		}
	}
	return clues
}

// anyPuzzles have a Most and parts of clues of any size, and any number of clues.
func anyPuzzles() []impl.Puzzle {
	puzzles := slices.Concat(badPuzzles(), manyPuzzles()[:200])
	for i, clue := range anyClues() {
		puzzles = append(puzzles, impl.Puzzle{Most: 1 + i%mostGuess, Clues: []impl.Clue{{Kind: 2, A: 3}, clue}})
	}
	for _, most := range edgeInts(mostGuess, 1<<32, 1<<62) {
		for _, text := range []string{":", ":0.3.0", ":0.3.0,0.4.0,3.9.0", ":2.2.0,2.3.1,2.5.2,2.7.3,2.11.4,2.13.5", ":5.3.0,5.4.0,5.5.0,1.6.0,1.7.0,1.24.0,0.3.0", ":-1.3.0", ":0.0.0"} {
			puzzles = append(puzzles, impl.Puzzle{Most: most, Clues: puzzleOf(text).Clues})
		}
	}
	for _, clue := range []impl.Clue{{}, {Kind: 0, A: 3}, {Kind: 5, A: 3}, {Kind: -1}} {
		puzzles = append(puzzles, impl.Puzzle{Most: mostGuess, Clues: slices.Repeat([]impl.Clue{clue}, 1<<20)})
	}
	return puzzles
}

// checkCallOfPuzzle calls a function with clues that have room behind them: neither they nor the room
// are changed, not even if the result is, what is in the room does not count, and only a puzzle succeeds.
func checkCallOfPuzzle(t *testing.T, name string, puzzle impl.Puzzle, k int, clue impl.Clue) {
	t.Helper()
	call := callsOfPuzzles[name]
	room := []impl.Clue{{Kind: 0, A: 3}, {Kind: 3, A: math.MaxInt}, {}}
	whole := slices.Concat(puzzle.Clues, room)
	count := len(puzzle.Clues)
	told := call(impl.Puzzle{Most: puzzle.Most, Clues: whole[:count]}, k, clue)
	if told.ok && !isTold(puzzle) || !told.ok && (told.numbers != nil || told.clues != nil) {
		t.Fatalf("%s of %.99s and %d and %v is %v", name, textOf(puzzle), k, clue, told)
	}
	alone := call(impl.Puzzle{Most: puzzle.Most, Clues: slices.Clip(slices.Clone(puzzle.Clues))}, k, clue)
	if !alone.same(told) {
		t.Fatalf("%s of %.99s and %d and %v is %v or %v", name, textOf(puzzle), k, clue, told, alone)
	}
	spoil(told.numbers, math.MinInt)
	spoil(told.clues, impl.Clue{Kind: math.MinInt})
	if !slices.Equal(whole[:count], puzzle.Clues) || !slices.Equal(whole[count:], room) {
		t.Fatalf("%s changed %.99s", name, textOf(puzzle))
	}
}

// TestPuzzleCallsOfAnyPuzzle calls every function of the chapter that takes a puzzle with any.
func TestPuzzleCallsOfAnyPuzzle(t *testing.T) {
	puzzles := anyPuzzles()
	inTime(t, func() {
		for _, puzzle := range puzzles {
			for name := range callsOfPuzzles {
				checkCallOfPuzzle(t, name, puzzle, 0, impl.Clue{Kind: 3, A: 9})
			}
		}
	})
}

// TestPuzzleCallsOfAnyNumber calls the other functions, and those that take something more, with
// numbers of any size.
func TestPuzzleCallsOfAnyNumber(t *testing.T) {
	edges := edgeInts(mostGuess, mostSeed, 1<<32, 1<<62)
	inTime(t, func() {
		for _, clue := range anyClues() {
			isClue := setOfClues()[clue]
			if impl.IsClue(clue) != isClue {
				t.Error("IsClue", clue)
			}
			checkCallOfPuzzle(t, "AddClue", puzzleOf("40:0.3.0"), 0, clue)
			for _, n := range []int{math.MinInt, -1, 0, 1, mostGuess, mostGuess + 1, math.MaxInt} {
				if fits, ok := impl.DoesFit(clue, n); ok != (isClue && isIn(n, 1, mostGuess)) || fits && !ok {
					t.Error("DoesFit", clue, n, fits, ok)
				}
			}
		}
		for _, a := range edges {
			checkCallOfPuzzle(t, "DropClue", puzzleOf("40:0.3.0,0.4.0,3.9.0"), a, impl.Clue{})
			for _, b := range edges {
				for _, c := range []int{math.MinInt, -1, 0, 1, mostSeed, mostSeed + 1, math.MaxInt} {
					checkMakeCall(t, a, b, c)
					checkMakeCall(t, a, c, b)
				}
			}
		}
	})
}

func checkMakeCall(t *testing.T, most int, clues int, seed int) {
	valid := isIn(most, 1, mostGuess) && isIn(clues, 0, mostClues) && isIn(seed, 0, mostSeed)
	puzzle, n, ok := impl.MakePuzzle(most, clues, seed)
	if ok != valid || ok != isTold(puzzle) || ok != (n != 0) || !ok && puzzle.Clues != nil {
		t.Error("MakePuzzle", most, clues, seed, textOf(puzzle), n, ok)
	}
}

// TestParsePuzzleOfAnyText has texts of any bytes and long ones.
func TestParsePuzzleOfAnyText(t *testing.T) {
	const length = 1 << 21
	texts := badPuzzleTexts()
	for first := range 256 {
		sign := string([]byte{byte(first)})
		texts = append(texts, sign, sign+":", "1"+sign, "1:"+sign, "1"+sign+":", "40:0.3.0"+sign, "40:0"+sign+"3.0", "40:0.3.0"+sign+"0.4.0")
	}
	for _, part := range []string{"0", "9", ":", ".", ",", "0.3.0,", "0.3.", "40:", "-", " ", "\xff", "\x00", "1,"} {
		long := strings.Repeat(part, length/len(part))
		texts = append(texts, long, "40:"+long, long+":", "40:0.3.0,"+long, "40:"+long+"0.3.0", "40:0."+long+".0", "40:"+long+".3.0", "40:0.3."+long, long+":0.3.0")
	}
	inTime(t, func() {
		for _, text := range texts {
			checkAnyPuzzleText(t, text)
		}
	})
}

// TestPuzzleListsAreNew checks that a result that is changed changes no later one.
func TestPuzzleListsAreNew(t *testing.T) {
	three := puzzleOf("40:0.3.0,0.4.0,3.9.0")
	twice := puzzleOf("40:0.4.0,0.3.0,0.4.0")
	checkListsAreNew(t, math.MaxInt, map[string]func() ([]int, bool){
		"Solutions":     func() ([]int, bool) { return impl.Solutions(three) },
		"NeedlessClues": func() ([]int, bool) { return impl.NeedlessClues(twice) },
		"LeftByClues":   func() ([]int, bool) { return impl.LeftByClues(three) },
	})
	calls := map[string]func() (impl.Puzzle, bool){
		"DropClue":     func() (impl.Puzzle, bool) { return impl.DropClue(three, 1) },
		"AddClue":      func() (impl.Puzzle, bool) { return impl.AddClue(three, impl.Clue{Kind: 2, A: 2}) },
		"HarderPuzzle": func() (impl.Puzzle, bool) { return impl.HarderPuzzle(three) },
		"ParsePuzzle":  func() (impl.Puzzle, bool) { return impl.ParsePuzzle("40:0.3.0,0.4.0") },
		"MakePuzzle": func() (impl.Puzzle, bool) {
			puzzle, _, ok := impl.MakePuzzle(40, 4, 7)
			return puzzle, ok
		},
	}
	cluesOf := map[string]func() ([]impl.Clue, bool){}
	for name, call := range calls {
		cluesOf[name] = func() ([]impl.Clue, bool) {
			puzzle, ok := call()
			return puzzle.Clues, ok
		}
	}
	checkListsAreNew(t, impl.Clue{Kind: math.MaxInt}, cluesOf)
}

// TestPuzzleCallsLeaveNothingBehind checks that whoever looks for solutions has ended with the call,
// also where not all of them were asked for.
func TestPuzzleCallsLeaveNothingBehind(t *testing.T) {
	before := runtime.NumGoroutine()
	for _, puzzle := range manyPuzzles() {
		for name := range callsOfPuzzles {
			checkCallOfPuzzle(t, name, puzzle, 0, impl.Clue{Kind: 3, A: 9})
		}
	}
	for end := time.Now().Add(10 * time.Second); runtime.NumGoroutine() > before; time.Sleep(time.Millisecond) {
		if time.Now().After(end) {
			t.Fatal("goroutines", before, runtime.NumGoroutine())
		}
	}
}

// TestPuzzleCallsLeaveClues changes clues as soon as a call has returned, into ones by which nothing can
// be divided: whoever looked at them still would panic. The numbers that fit these are few.
func TestPuzzleCallsLeaveClues(t *testing.T) {
	for range 100 {
		for _, call := range callsOfPuzzles {
			puzzle := puzzleOf("500:5.3.0,2.100.2")
			call(puzzle, 1, impl.Clue{Kind: 5, A: 3})
			for k := range puzzle.Clues {
				puzzle.Clues[k] = impl.Clue{Kind: 2}
			}
		}
	}
}

// TestPuzzleCallsAtOnce checks that calls with the same puzzle at the same time tell what each tells
// alone.
func TestPuzzleCallsAtOnce(t *testing.T) {
	puzzle := puzzleOf("55:0.3.0,5.3.0,2.10.5,3.10.0,4.45.4")
	want := map[string]toldOfPuzzle{}
	for name, call := range callsOfPuzzles {
		want[name] = call(puzzle, 1, impl.Clue{Kind: 1, A: 4})
	}
	var calls sync.WaitGroup
	for range 50 {
		for name, call := range callsOfPuzzles {
			calls.Go(func() {
				if told := call(puzzle, 1, impl.Clue{Kind: 1, A: 4}); !told.same(want[name]) {
					t.Error(name, told, want[name])
				}
			})
		}
	}
	calls.Wait()
}
