package tests

import (
	"math"
	"strconv"
	"strings"
	"sync"
	"testing"

	"loop.example/g01250/impl"
)

// The numbers are stated here once more, so that a changed limit is found.
const (
	mostGuess = 500
	mostClues = 6
	mostKind  = 5
	mostTold  = 100
)

var badGuesses = []int{math.MinInt, -mostGuess, -1, 0, mostGuess + 1, mostGuess + 2, math.MaxInt}

// shapedUpToMost has for each number of sides the polygonal numbers up to MaxGuess.
var shapedUpToMost = sync.OnceValue(func() map[int]map[int]bool {
	shaped := map[int]map[int]bool{}
	forAllSides(func(sides int) {
		shaped[sides] = map[int]bool{}
		for _, number := range piledNumbers(sides, mostGuess) {
			shaped[sides][number] = true
		}
	})
	return shaped
})

// addedTwice has for each number of sides the sums of two of these of at least 1.
var addedTwice = sync.OnceValue(func() map[int]map[int]bool {
	added := map[int]map[int]bool{}
	forAllSides(func(sides int) {
		added[sides] = map[int]bool{}
		numbers := piledNumbers(sides, mostGuess)[1:]
		for _, a := range numbers {
			for _, b := range numbers {
				added[sides][a+b] = true
			}
		}
	})
	return added
})

func addedDigits(n int) int {
	sum := 0
	for _, digit := range strconv.Itoa(n) {
		sum += strings.IndexRune("0123456789", digit)
	}
	return sum
}

// isFit tells whether n fits what is a clue.
func isFit(c impl.Clue, n int) bool {
	switch c.Kind {
	case 0:
		return shapedUpToMost()[c.A][n]
	case 1:
		return !shapedUpToMost()[c.A][n]
	case 2:
		return n >= c.B && (n-c.B)/c.A*c.A == n-c.B
	case 3:
		return addedDigits(n) == c.A
	case 4:
		return shapedUpToMost()[c.B][n-c.A]
	}
	return addedTwice()[c.A][n]
}

// allClues are all that there are.
var allClues = sync.OnceValue(func() []impl.Clue {
	var clues []impl.Clue
	forAllSides(func(sides int) {
		clues = append(clues, impl.Clue{Kind: 0, A: sides}, impl.Clue{Kind: 1, A: sides}, impl.Clue{Kind: 5, A: sides})
		for less := 0; less <= mostTold; less++ {
			clues = append(clues, impl.Clue{Kind: 4, A: less, B: sides})
		}
	})
	for modulus := 2; modulus <= mostTold; modulus++ {
		for rest := range modulus {
			clues = append(clues, impl.Clue{Kind: 2, A: modulus, B: rest})
		}
	}
	for digits := 0; digits <= mostTold; digits++ {
		clues = append(clues, impl.Clue{Kind: 3, A: digits})
	}
	return clues
})

var setOfClues = sync.OnceValue(func() map[impl.Clue]bool {
	set := map[impl.Clue]bool{}
	for _, clue := range allClues() {
		set[clue] = true
	}
	return set
})

// badClues differ from a clue by an unknown kind, by sides that are none, by a B that is not 0, or by
// an A or B out of its bounds.
func badClues() []impl.Clue {
	var clues []impl.Clue
	for _, kind := range []int{math.MinInt, -2, -1, mostKind + 1, mostKind + 2, math.MaxInt} {
		clues = append(clues, impl.Clue{Kind: kind, A: 3}, impl.Clue{Kind: kind, A: 3, B: 1}, impl.Clue{Kind: kind, A: 3, B: 3}, impl.Clue{Kind: kind})
	}
	for _, sides := range append(badSides, math.MinInt, math.MaxInt) {
		clues = append(clues, impl.Clue{Kind: 0, A: sides}, impl.Clue{Kind: 1, A: sides}, impl.Clue{Kind: 5, A: sides}, impl.Clue{Kind: 4, A: 4, B: sides})
	}
	for _, b := range []int{math.MinInt, -3, -1, 1, 2, 3, 24, math.MaxInt} {
		clues = append(clues, impl.Clue{Kind: 0, A: 3, B: b}, impl.Clue{Kind: 1, A: 24, B: b}, impl.Clue{Kind: 3, A: 9, B: b}, impl.Clue{Kind: 5, A: 4, B: b})
	}
	for _, modulus := range []int{math.MinInt, -2, -1, 0, 1, mostTold + 1, math.MaxInt} {
		clues = append(clues, impl.Clue{Kind: 2, A: modulus}, impl.Clue{Kind: 2, A: modulus, B: -1}, impl.Clue{Kind: 2, A: modulus, B: modulus - 1})
	}
	for _, modulus := range []int{2, 3, 50, mostTold - 1, mostTold} {
		clues = append(clues, impl.Clue{Kind: 2, A: modulus, B: -1}, impl.Clue{Kind: 2, A: modulus, B: modulus}, impl.Clue{Kind: 2, A: modulus, B: modulus + 1}, impl.Clue{Kind: 2, A: modulus, B: math.MinInt}, impl.Clue{Kind: 2, A: modulus, B: math.MaxInt})
	}
	for _, a := range []int{math.MinInt, -mostTold, -1, mostTold + 1, mostTold + 2, math.MaxInt} {
		clues = append(clues, impl.Clue{Kind: 3, A: a}, impl.Clue{Kind: 4, A: a, B: 3}, impl.Clue{Kind: 4, A: a, B: 24})
	}
	return clues
}

func TestIsClue(t *testing.T) {
	for kind := -2; kind <= mostKind+2; kind++ {
		for a := -3; a <= mostTold+3; a++ {
			for b := -3; b <= mostTold+3; b++ {
				clue := impl.Clue{Kind: kind, A: a, B: b}
				if got := impl.IsClue(clue); got != setOfClues()[clue] {
					t.Fatal("IsClue", clue, got)
				}
			}
		}
	}
	for _, clue := range badClues() {
		if impl.IsClue(clue) || setOfClues()[clue] {
			t.Error("IsClue", clue)
		}
	}
}

// TestIsClueEdges states the clues of each kind with the least and the greatest A and B.
func TestIsClueEdges(t *testing.T) {
	for _, clue := range []impl.Clue{
		{Kind: 0, A: 3}, {Kind: 0, A: 24}, {Kind: 1, A: 3}, {Kind: 1, A: 24}, {Kind: 5, A: 3}, {Kind: 5, A: 24},
		{Kind: 2, A: 2}, {Kind: 2, A: 2, B: 1}, {Kind: 2, A: 100}, {Kind: 2, A: 100, B: 99}, {Kind: 3, A: 0}, {Kind: 3, A: 100},
		{Kind: 4, A: 0, B: 3}, {Kind: 4, A: 0, B: 24}, {Kind: 4, A: 100, B: 3}, {Kind: 4, A: 100, B: 24},
	} {
		if !impl.IsClue(clue) {
			t.Error("IsClue", clue)
		}
	}
}

func checkFit(t *testing.T, clue impl.Clue, n int, want bool, wantOk bool) {
	t.Helper()
	if got, ok := impl.DoesFit(clue, n); got != want || ok != wantOk {
		t.Fatalf("DoesFit of %v and %d is %v, %v, not %v, %v", clue, n, got, ok, want, wantOk)
	}
}

// TestDoesFit has all clues and all numbers.
func TestDoesFit(t *testing.T) {
	for _, clue := range allClues() {
		for n := 1; n <= mostGuess; n++ {
			checkFit(t, clue, n, isFit(clue, n), true)
		}
	}
}

// TestNumbersThatFit states, for clues of each kind, all numbers up to some that fit them.
func TestNumbersThatFit(t *testing.T) {
	for _, c := range []struct {
		clue impl.Clue
		most int
		fits []int
	}{
		{impl.Clue{Kind: 0, A: 3}, 40, []int{1, 3, 6, 10, 15, 21, 28, 36}},
		{impl.Clue{Kind: 0, A: 4}, 40, []int{1, 4, 9, 16, 25, 36}},
		{impl.Clue{Kind: 0, A: 24}, 400, []int{1, 24, 69, 136, 225, 336}},
		{impl.Clue{Kind: 1, A: 3}, 12, []int{2, 4, 5, 7, 8, 9, 11, 12}},
		{impl.Clue{Kind: 1, A: 24}, 6, []int{2, 3, 4, 5, 6}},
		{impl.Clue{Kind: 2, A: 2}, 9, []int{2, 4, 6, 8}},
		{impl.Clue{Kind: 2, A: 2, B: 1}, 9, []int{1, 3, 5, 7, 9}},
		{impl.Clue{Kind: 2, A: 100}, 500, []int{100, 200, 300, 400, 500}},
		{impl.Clue{Kind: 2, A: 100, B: 99}, 500, []int{99, 199, 299, 399, 499}},
		{impl.Clue{Kind: 3, A: 0}, 500, nil},
		{impl.Clue{Kind: 3, A: 1}, 500, []int{1, 10, 100}},
		{impl.Clue{Kind: 3, A: 9}, 99, []int{9, 18, 27, 36, 45, 54, 63, 72, 81, 90}},
		{impl.Clue{Kind: 3, A: 22}, 500, []int{499}},
		{impl.Clue{Kind: 3, A: 100}, 500, nil},
		{impl.Clue{Kind: 4, A: 0, B: 3}, 22, []int{1, 3, 6, 10, 15, 21}},
		{impl.Clue{Kind: 4, A: 5, B: 4}, 30, []int{5, 6, 9, 14, 21, 30}},
		{impl.Clue{Kind: 4, A: 100, B: 3}, 110, []int{100, 101, 103, 106, 110}},
		{impl.Clue{Kind: 4, A: 100, B: 24}, 500, []int{100, 101, 124, 169, 236, 325, 436}},
		{impl.Clue{Kind: 5, A: 3}, 22, []int{2, 4, 6, 7, 9, 11, 12, 13, 16, 18, 20, 21, 22}},
		{impl.Clue{Kind: 5, A: 4}, 26, []int{2, 5, 8, 10, 13, 17, 18, 20, 25, 26}},
		{impl.Clue{Kind: 5, A: 24}, 140, []int{2, 25, 48, 70, 93, 137, 138}},
	} {
		var fits []int
		for n := 1; n <= c.most; n++ {
			if fit, ok := impl.DoesFit(c.clue, n); fit && ok {
				fits = append(fits, n)
			}
		}
		wantNumbers(t, "DoesFit", c.clue, fits, true, c.fits, true)
	}
}

// TestFitsOfPlaceZero checks that neither of two polygonal numbers can be 0, while the one that n is
// more than A by can, but not be less.
func TestFitsOfPlaceZero(t *testing.T) {
	forAllSides(func(sides int) {
		two := impl.Clue{Kind: 5, A: sides}
		checkFit(t, two, 1, false, true)
		checkFit(t, two, 2, true, true)
		checkFit(t, two, sides, false, true)
		checkFit(t, two, sides+1, true, true)
		checkFit(t, two, 2*sides, true, true)
		for more := 1; more <= mostTold; more++ {
			clue := impl.Clue{Kind: 4, A: more, B: sides}
			checkFit(t, clue, more, true, true)
			checkFit(t, clue, more+1, true, true)
			for n := 1; n < more; n++ {
				checkFit(t, clue, n, false, true)
			}
		}
	})
}

func TestDoesFitFails(t *testing.T) {
	for _, clue := range badClues() {
		for _, n := range []int{1, 3, 36, mostGuess} {
			checkFit(t, clue, n, false, false)
		}
	}
	for _, n := range badGuesses {
		for _, clue := range allClues() {
			checkFit(t, clue, n, false, false)
		}
		for _, clue := range badClues() {
			checkFit(t, clue, n, false, false)
		}
	}
}
