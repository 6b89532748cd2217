package tests

import (
	"math"
	"math/big"
	"math/rand"
	"slices"
	"testing"
)

// The numbers are stated here once more, so that a changed limit is found.
const (
	mostInList       = 12
	greatestEntry    = 1000000
	greatestValuedAt = 1000
	greatestValue    = 1000000000000000
	greatestChosenOf = 60
)

var badCounts = []int{math.MinInt, -mostInList, -1, 0, mostInList + 1, mostInList + 2, math.MaxInt}

// binomial returns the number of ways to choose k of n things.
func binomial(n int, k int) int {
	return int(new(big.Int).Binomial(int64(n), int64(k)).Int64())
}

// tableOf tells each number of a table by those of the list below it, without the rows between.
func tableOf(list []int) [][]int {
	var table [][]int
	for depth := range list {
		row := make([]int, len(list)-depth)
		for index := range row {
			sign := 1
			for back := range depth + 1 {
				row[index] += sign * binomial(depth, back) * list[index+depth-back]
				sign = -sign
			}
		}
		table = append(table, row)
	}
	return table
}

// headsOf returns the first numbers of the table of a list.
func headsOf(list []int) []int {
	var heads []int
	for _, row := range tableOf(list) {
		heads = append(heads, row[0])
	}
	return heads
}

func withoutZerosAtEnd(numbers []int) []int {
	for len(numbers) > 0 && numbers[len(numbers)-1] == 0 {
		numbers = numbers[:len(numbers)-1]
	}
	return numbers
}

func areWithinEntries(numbers []int) bool {
	isTooGreat := func(n int) bool { return !isIn(n, -greatestEntry, greatestEntry) }
	return len(numbers) <= mostInList && !slices.ContainsFunc(numbers, isTooGreat)
}

func isListed(numbers []int) bool {
	return len(numbers) > 0 && areWithinEntries(numbers)
}

func isFormed(numbers []int) bool {
	return areWithinEntries(numbers) && len(withoutZerosAtEnd(numbers)) == len(numbers)
}

// smallRows has all rows of so many numbers of a size of at most 2.
func smallRows(length int) [][]int {
	rows := [][]int{nil}
	for range length {
		var longer [][]int
		for _, row := range rows {
			for last := -2; last <= 2; last++ {
				longer = append(longer, append(slices.Clone(row), last))
			}
		}
		rows = longer
	}
	return rows
}

// rowBy has the numbers that a rule tells of the places 0, 1, ..
func rowBy(length int, rule func(place int) int) []int {
	row := make([]int, length)
	for place := range row {
		row[place] = rule(place)
	}
	return row
}

// rowsOfLength has rows of the greatest numbers of either sign, zeros, figured ones, ones whose
// differences are 0 after some rows, and strewn ones.
func rowsOfLength(length int) [][]int {
	const great = greatestEntry
	rows := [][]int{
		rowBy(length, func(int) int { return 0 }),
		rowBy(length, func(int) int { return -7 }),
		rowBy(length, func(int) int { return great }),
		rowBy(length, func(int) int { return -great }),
		rowBy(length, func(place int) int { return great * (1 - place%2*2) }),
		rowBy(length, func(place int) int { return great * (place%2*2 - 1) }),
		rowBy(length, func(place int) int { return great * (place % 3 / 2) }),
		rowBy(length, func(place int) int { return great - place }),
		rowBy(length, func(place int) int { return 3*place - 5 }),
		rowBy(length, func(place int) int { return place * place }),
		rowBy(length, func(place int) int { return 4 - place*place*place }),
		rowBy(length, func(place int) int { return place * place * place * place * place }),
		rowBy(length, func(place int) int { return 1 << place }),
		rowBy(length, func(place int) int { return place / 11 }),
		rowBy(length, func(place int) int { return (place + 11) / 11 % 2 }),
	}
	random := rand.New(rand.NewSource(int64(length)))
	for _, size := range []int{1, 9, 100, 500, 5000, greatestEntry} {
		for range 20 {
			rows = append(rows, rowBy(length, func(int) int { return random.Intn(2*size+1) - size }))
		}
	}
	return rows
}

// allLists has lists of each length.
func allLists() [][]int {
	var lists [][]int
	for length := 1; length <= mostInList; length++ {
		if length <= 4 {
			lists = append(lists, smallRows(length)...)
		}
		lists = append(lists, rowsOfLength(length)...)
	}
	return lists
}

// allForms has that without numbers and those of the lists that are forms.
func allForms() [][]int {
	isNone := func(list []int) bool { return !isFormed(list) }
	return append(slices.DeleteFunc(allLists(), isNone), nil)
}

// badEntries are neither lists nor forms: too long ones, and ones with a number that is too great.
func badEntries() [][]int {
	var bad [][]int
	for _, length := range []int{mostInList + 1, mostInList + 2, 100, 1000} {
		for _, number := range []int{-1, 1, 2, greatestEntry} {
			bad = append(bad, rowBy(length, func(int) int { return number }))
		}
	}
	for _, length := range []int{1, 2, 3, mostInList} {
		for place := range length {
			for _, great := range []int{math.MinInt, -greatestEntry - 2, -greatestEntry - 1, greatestEntry + 1, greatestEntry + 2, math.MaxInt} {
				row := rowBy(length, func(place int) int { return place + 1 })
				row[place] = great
				bad = append(bad, row)
			}
		}
	}
	return bad
}

func badLists() [][]int {
	return append(badEntries(), nil, []int{}, make([]int, mostInList+1))
}

func badForms() [][]int {
	bad := append(badEntries(), []int{0, 0}, []int{1, 0}, []int{0, 1, 2, 0}, []int{0, 1, 0, 0})
	for length := 1; length <= mostInList+1; length++ {
		bad = append(bad, make([]int, length), append(slices.Repeat([]int{3}, length-1), 0))
	}
	return bad
}

func wantNumber(t *testing.T, call string, of any, got int, ok bool, want int, wantOk bool) {
	t.Helper()
	if got != want || ok != wantOk {
		t.Fatalf("%s of %v is %d, %v, not %d, %v", call, of, got, ok, want, wantOk)
	}
}

func wantNumbers(t *testing.T, call string, of any, got []int, ok bool, want []int, wantOk bool) {
	t.Helper()
	if !slices.Equal(got, want) || ok != wantOk {
		t.Fatalf("%s of %v is %v, %v, not %v, %v", call, of, got, ok, want, wantOk)
	}
}

// wantListed wants just a list that is within the limits.
func wantListed(t *testing.T, call string, of any, got []int, ok bool, want []int) {
	t.Helper()
	if !isListed(want) {
		want = nil
	}
	wantNumbers(t, call, of, got, ok, want, want != nil)
}

// wantFormed does the same for a form, which may have no numbers.
func wantFormed(t *testing.T, call string, of any, got []int, ok bool, want []int) {
	t.Helper()
	if !isFormed(want) {
		wantNumbers(t, call, of, got, ok, nil, false)
		return
	}
	wantNumbers(t, call, of, got, ok, want, true)
}

// checkFails checks that a call fails for each of the rows.
func checkFails(t *testing.T, call string, made func([]int) ([]int, bool), rows [][]int) {
	t.Helper()
	for _, row := range rows {
		got, ok := made(row)
		wantNumbers(t, call, row, got, ok, nil, false)
	}
}

// checkMade checks what a call makes of a row, or that it fails if there is nothing.
func checkMade(t *testing.T, call string, made func([]int) ([]int, bool), row []int, want ...int) {
	t.Helper()
	got, ok := made(row)
	wantNumbers(t, call, row, got, ok, want, len(want) > 0)
}
