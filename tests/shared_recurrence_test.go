package tests

import (
	"math/rand"
	"slices"
	"testing"

	"loop.example/g01250/impl"
)

const (
	leastListed    = 4
	mostListed     = 20
	greatestListed = 1000000000000000
	greatestOfRule = 1000
	greatestGoOn   = 10
	mostGoOn       = 12
)

func keeps(list []int, factor int, add int) bool {
	for i := 2; i < len(list); i++ {
		if list[i]+list[i-2]-factor*list[i-1] != add {
			return false
		}
	}
	return true
}

// tellRecurrence finds the one recurrence of a list by division: two numbers that differ tell
// the factor by what comes before and behind them. If all numbers in between are the same, each
// factor has its addition.
func tellRecurrence(list []int) (int, int, bool) {
	around := func(i int) int { return list[i-1] + list[i+1] }
	least, most := -greatestOfRule, greatestOfRule
	for i := 2; i < len(list)-1; i++ {
		if difference := list[i] - list[1]; difference != 0 {
			least = (around(i) - around(1)) / difference
			most = least
		}
	}
	found := [][2]int{}
	for factor := max(least, -greatestOfRule); factor <= min(most, greatestOfRule); factor++ {
		add := around(1) - factor*list[1]
		if isIn(add, -greatestOfRule, greatestOfRule) && keeps(list, factor, add) {
			found = append(found, [2]int{factor, add})
		}
	}
	if len(found) != 1 {
		return 0, 0, false
	}
	return found[0][0], found[0][1], true
}

// listKeeping returns the list that begins with a and b and keeps a recurrence, but not further
// than numbers are of a size of at most 10^15.
func listKeeping(a int, b int, factor int, add int, count int) []int {
	list := []int{a, b}
	for len(list) < count {
		next := factor*list[len(list)-1] - list[len(list)-2] + add
		if !isIn(next, -greatestListed, greatestListed) {
			break
		}
		list = append(list, next)
	}
	return list[:min(count, len(list))]
}

func checkRecurrence(t *testing.T, list []int, factor int, add int, found bool) {
	t.Helper()
	gotFactor, gotAdd, ok := impl.RecurrenceOf(list)
	if gotFactor != factor || gotAdd != add || ok != found {
		t.Fatal("RecurrenceOf", list, gotFactor, gotAdd, ok, factor, add, found)
	}
}

// changedSign returns the list that keeps the recurrence with the same factor and the other sign
// of the addition.
func changedSign(list []int) []int {
	changed := slices.Clone(list)
	for i := range changed {
		changed[i] = -changed[i]
	}
	return changed
}

// backward returns the list that keeps the same recurrence as the list that it is from behind.
func backward(list []int) []int {
	changed := slices.Clone(list)
	slices.Reverse(changed)
	return changed
}

// checkOneRecurrence has a list, its signs changed, from behind and both.
func checkOneRecurrence(t *testing.T, list []int, factor int, add int) {
	t.Helper()
	checkRecurrence(t, list, factor, add, true)
	checkRecurrence(t, changedSign(list), factor, -add, true)
	checkRecurrence(t, backward(list), factor, add, true)
	checkRecurrence(t, changedSign(backward(list)), factor, -add, true)
}

func checkNoRecurrence(t *testing.T, list []int) {
	t.Helper()
	checkRecurrence(t, list, 0, 0, false)
	checkRecurrence(t, changedSign(list), 0, 0, false)
	checkRecurrence(t, backward(list), 0, 0, false)
}

func TestRecurrenceOf(t *testing.T) {
	checkOneRecurrence(t, []int{0, 1, 36, 1225}, 34, 2)
	checkOneRecurrence(t, triangleSquares[:9], 34, 2)
	checkOneRecurrence(t, twiceTriangles, 6, 2)
	checkOneRecurrence(t, halfTriangles, 6, 2)
	checkOneRecurrence(t, longSides, 6, 0)
	checkOneRecurrence(t, []int{0, 1, 3, 6, 10, 15}, 2, 1)
	checkOneRecurrence(t, []int{0, 1, 4, 9, 16}, 2, 2)
	checkOneRecurrence(t, []int{1, 2, 3, 4}, 2, 0)
	checkOneRecurrence(t, []int{1, 2, -1, -2}, 0, 0)
	checkOneRecurrence(t, []int{1, 2, -1, -2, 1, 2, -1, -2, 1, 2, -1, -2, 1, 2, -1, -2, 1, 2, -1, -2}, 0, 0)
	checkOneRecurrence(t, []int{1, 0, -1, 1, 0, -1}, -1, 0)
	checkOneRecurrence(t, []int{5, 1, -13, 5, 1, -13}, -1, -7)
}

func TestRecurrenceOfLengths(t *testing.T) {
	for _, rule := range [][2]int{{2, 1}, {0, -5}, {-1, 7}, {1, 3}, {-2, 2}, {3, -4}} {
		list := listKeeping(2, 5, rule[0], rule[1], mostListed+2)
		if len(list) != mostListed+2 {
			t.Fatal("list", rule, list)
		}
		for length := range list {
			valid := isIn(length, leastListed, mostListed)
			want := rule
			if !valid {
				want = [2]int{}
			}
			checkRecurrence(t, list[:length], want[0], want[1], valid)
			// Four numbers may keep another recurrence.
			if valid && length > leastListed {
				wrong := slices.Clone(list[:length])
				wrong[length-1]++
				checkRecurrence(t, wrong, 0, 0, false)
			}
		}
	}
	for _, length := range []int{0, 1, 2, 3, 21, 22, 100, 1000} {
		list := make([]int, length)
		for i := range list {
			list[i] = i
		}
		checkRecurrence(t, list, 0, 0, false)
	}
	checkRecurrence(t, nil, 0, 0, false)
}

func TestRecurrenceOfEdges(t *testing.T) {
	const size, rule = greatestListed, greatestOfRule
	checkOneRecurrence(t, []int{size - 3, size - 2, size - 1, size}, 2, 0)
	checkNoRecurrence(t, []int{size - 2, size - 1, size, size + 1})
	checkNoRecurrence(t, []int{size - 1, size, size + 1, size + 2})
	checkOneRecurrence(t, []int{-1000000000000, 0, 1000000000000, size}, rule, 0)
	checkOneRecurrence(t, []int{-1000000000000, 0, 1000000000000, -size}, -rule, 0)
	checkOneRecurrence(t, []int{size, -size, size, -size}, -2, 0)
	checkOneRecurrence(t, []int{size, size - 1000, size - 1000, size}, 2, 1000)
	checkOneRecurrence(t, []int{size, -size, -size, size, size, -size}, 0, 0)
	for _, factor := range []int{-rule, 1 - rule, rule - 1, rule} {
		for _, add := range []int{-rule, 1 - rule, -1, 0, 1, rule - 1, rule} {
			checkOneRecurrence(t, listKeeping(0, 2, factor, add, 4), factor, add)
			checkOneRecurrence(t, listKeeping(3, -2, factor, add, 5), factor, add)
		}
	}
	for _, beyond := range []int{-rule - 2, -rule - 1, rule + 1, rule + 2} {
		for _, other := range []int{-rule, -1, 0, 1, 2, rule} {
			checkNoRecurrence(t, listKeeping(3, -2, beyond, other, 5))
			checkNoRecurrence(t, listKeeping(3, -2, other, beyond, 5))
		}
		checkNoRecurrence(t, listKeeping(3, -2, beyond, beyond, 5))
	}
}

func TestRecurrenceOfNone(t *testing.T) {
	for _, list := range [][]int{
		{0, 1, 36, 1226},
		{0, 1, 36, 1225, 41617},
		{1, 2, 4, 8}, // The factor 2 and a half and no addition.
		{1, 1, 3, 4},
		{1, 1, 1, 2},
		{2, 1, 1, 1, 1},
		{0, 0, 0, 1},
		{1, 8, 27, 64},
		{0, 1, 0, 0, 2},
		// The recurrence with the factor 2 and the addition 0, but for the last number.
		{1, 2, 3, 4, 5, 6, 7, 8, 9, 10, 11, 12, 13, 14, 15, 16, 17, 18, 19, 21},
	} {
		checkNoRecurrence(t, list)
	}
}

// TestRecurrenceOfMore has lists whose numbers but the first and the last one are the same:
// more than one recurrence goes with them, but only one or none if their number is great.
func TestRecurrenceOfMore(t *testing.T) {
	for _, list := range [][]int{
		{0, 0, 0, 0},
		{1, 1, 1, 1},
		{5, 5, 5, 5, 5},
		{7, 0, 0, 7},
		{3, -2, -2, 3},
		{1000, 2000, 2000, 1000},
		{-1, 2000, 2000, -1}, // The factor 1 with the addition -1, but 2 with -2001.
		{1000, 1000, 1000, 1000},
		make([]int, mostListed),
	} {
		factor, add, ok := tellRecurrence(list)
		checkRecurrence(t, list, factor, add, ok)
	}
	checkNoRecurrence(t, make([]int, mostListed))
	checkNoRecurrence(t, []int{5, 5, 5, 5})
	checkNoRecurrence(t, []int{7, 0, 0, 7})
	checkNoRecurrence(t, []int{1001, 0, 0, 1001})
	checkNoRecurrence(t, []int{1000, 2000, 2000, 1000})
	checkOneRecurrence(t, []int{999, 2000, 2000, 999}, 1, 999)
	checkOneRecurrence(t, []int{1000, 2001, 2001, 1000}, 1, 1000)
	checkOneRecurrence(t, []int{1001, 2001, 2001, 1001}, 2, -1000)
	checkNoRecurrence(t, []int{1001, 2002, 2002, 1001})
	checkOneRecurrence(t, []int{1001, 1001, 1001, 1001}, 2, 0)
	checkNoRecurrence(t, []int{1000, 1000, 1000, 1000})
}

func TestRecurrenceOfSmallLists(t *testing.T) {
	const greatest, values = 3, 7
	for code := range values * values * values * values * values {
		list := make([]int, 5)
		for i := range list {
			list[i] = code%values - greatest
			code /= values
		}
		for _, length := range []int{4, 5} {
			factor, add, ok := tellRecurrence(list[:length])
			checkRecurrence(t, list[:length], factor, add, ok)
		}
	}
}

func TestRecurrenceOfManyLists(t *testing.T) {
	random := rand.New(rand.NewSource(4))
	upTo := func(greatest int) int { return random.Intn(2*greatest+1) - greatest }
	sizes := []int{0, 2, 10, 100, 1002, 3000, 1000000, greatestListed}
	found := 0
	for range 20000 {
		size, ofRule := sizes[random.Intn(len(sizes))], []int{2, 10, 1002}[random.Intn(3)]
		list := listKeeping(upTo(size), upTo(size), upTo(ofRule), upTo(ofRule), leastListed+random.Intn(mostListed-leastListed+1))
		if len(list) < leastListed {
			continue
		}
		factor, add, ok := tellRecurrence(list)
		checkRecurrence(t, list, factor, add, ok)
		if ok {
			found++
		}
		list[random.Intn(len(list))] += random.Intn(3) - 1
		if !slices.ContainsFunc(list, func(n int) bool { return !isIn(n, -greatestListed, greatestListed) }) {
			factor, add, ok = tellRecurrence(list)
			checkRecurrence(t, list, factor, add, ok)
		}
	}
	if found < 5000 {
		t.Error("few recurrences", found)
	}
}

func checkGoOn(t *testing.T, a int, b int, factor int, add int, count int, want []int, wantOk bool) {
	t.Helper()
	if got, ok := impl.GoOnBy(a, b, factor, add, count); !slices.Equal(got, want) || ok != wantOk {
		t.Fatal("GoOnBy", a, b, factor, add, count, got, ok, want, wantOk)
	}
}

func TestGoOnBy(t *testing.T) {
	checkGoOn(t, 0, 1, 2, 1, 6, []int{0, 1, 3, 6, 10, 15}, true)
	checkGoOn(t, 0, 3, 6, 2, 12, twiceTriangles[:12], true)
	checkGoOn(t, 5, 1, -1, -7, 5, []int{5, 1, -13, 5, 1}, true)
	checkGoOn(t, 7, 9, 3, 4, 0, nil, true)
	checkGoOn(t, 7, 9, 3, 4, 1, []int{7}, true)
	checkGoOn(t, 7, 9, 3, 4, 2, []int{7, 9}, true)
	checkGoOn(t, 7, 9, 3, 4, 3, []int{7, 9, 24}, true)
	starts := []int{-greatestOfRule, 1 - greatestOfRule, -7, -1, 0, 1, 36, greatestOfRule - 1, greatestOfRule}
	for _, a := range starts {
		for _, b := range starts {
			for factor := -greatestGoOn; factor <= greatestGoOn; factor++ {
				for _, add := range starts {
					want := listKeeping(a, b, factor, add, mostGoOn)
					for _, count := range []int{0, 1, 2, 3, 7, mostGoOn - 1, mostGoOn} {
						checkGoOn(t, a, b, factor, add, count, want[:count], true)
					}
				}
			}
		}
	}
}

func TestGoOnByFails(t *testing.T) {
	badStarts := []int{-greatestListed, -greatestOfRule - 2, -greatestOfRule - 1, greatestOfRule + 1, greatestOfRule + 2, greatestListed}
	badFactors := []int{-greatestOfRule, -greatestGoOn - 2, -greatestGoOn - 1, greatestGoOn + 1, greatestGoOn + 2, greatestOfRule}
	badCounts := []int{-mostGoOn, -2, -1, mostGoOn + 1, mostGoOn + 2, mostListed}
	for _, count := range []int{0, 1, 2, mostGoOn} {
		for _, bad := range badStarts {
			checkGoOn(t, bad, 1, 2, 1, count, nil, false)
			checkGoOn(t, 0, bad, 2, 1, count, nil, false)
			checkGoOn(t, 0, 1, 2, bad, count, nil, false)
		}
		for _, bad := range badFactors {
			checkGoOn(t, 0, 1, bad, 1, count, nil, false)
		}
	}
	for _, bad := range badCounts {
		checkGoOn(t, 0, 1, 2, 1, bad, nil, false)
		checkGoOn(t, 0, 0, 0, 0, bad, nil, false)
	}
}

// TestRecurrenceOfGoneOn checks that the recurrence by which a list goes on is found again.
func TestRecurrenceOfGoneOn(t *testing.T) {
	for factor := -greatestGoOn; factor <= greatestGoOn; factor++ {
		for add := -greatestOfRule; add <= greatestOfRule; add += 125 {
			for count := leastListed; count <= mostGoOn; count++ {
				list, ok := impl.GoOnBy(-3, 1000, factor, add, count)
				if len(list) != count || !ok {
					t.Fatal("GoOnBy", factor, add, count, list, ok)
				}
				checkRecurrence(t, list, factor, add, true)
			}
		}
	}
}
