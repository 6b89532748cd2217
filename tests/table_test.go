package tests

import (
	"math"
	"slices"
	"testing"

	"loop.example/g01250/impl"
)

func TestTableLimits(t *testing.T) {
	if impl.MaxListed != mostInList || impl.MaxEntry != greatestEntry {
		t.Error("limits", impl.MaxListed, impl.MaxEntry)
	}
}

func TestTableExample(t *testing.T) {
	checkMade(t, "DifferencesOf", impl.DifferencesOf, []int{0, 1, 4, 9}, 1, 3, 5)
	checkMade(t, "FormOf", impl.FormOf, []int{0, 1, 4, 9}, 0, 1, 2)
	more, ok := impl.GoOn([]int{0, 1, 4, 9}, 2)
	wantNumbers(t, "GoOn", []int{0, 1, 4, 9}, more, ok, []int{16, 25}, true)
	checkMade(t, "FormOf", impl.FormOf, []int{5, 5, 5}, 5)
	checkMade(t, "FormOf", impl.FormOf, []int{0, 1, 5, 12, 22}, 0, 1, 3)
	value, ok := impl.ValueOf([]int{0, 1, 3}, 3)
	wantNumber(t, "ValueOf", []int{0, 1, 3}, value, ok, 12, true)
	checkMade(t, "TransformOf", impl.TransformOf, []int{1, 1, 1}, 1, 2, 4)
	sides, place, ok := impl.ShapeOfList([]int{10, 15, 21})
	wantPair(t, "ShapeOfList", 10, sides, place, ok, 3, 4, true)
	checkMade(t, "TimesPlace", impl.TimesPlace, []int{5}, 0, 5)
}

func TestDifferencesOf(t *testing.T) {
	checkMade(t, "DifferencesOf", impl.DifferencesOf, []int{3, 3}, 0)
	checkMade(t, "DifferencesOf", impl.DifferencesOf, []int{-4, 2, 1}, 6, -1)
	for _, list := range allLists() {
		got, ok := impl.DifferencesOf(list)
		if len(list) == 1 {
			wantNumbers(t, "DifferencesOf", list, got, ok, nil, false)
			continue
		}
		wantNumbers(t, "DifferencesOf", list, got, ok, tableOf(list)[1], true)
	}
	checkFails(t, "DifferencesOf", impl.DifferencesOf, badLists())
	checkFails(t, "DifferencesOf", impl.DifferencesOf, [][]int{{0}, {1}, {-greatestEntry}})
}

// TestDifferencesOfAnySize checks that differences, which are not told to be a list, can be greater
// than the numbers of one.
func TestDifferencesOfAnySize(t *testing.T) {
	const great = greatestEntry
	checkMade(t, "DifferencesOf", impl.DifferencesOf, []int{0, great, 0}, great, -great)
	checkMade(t, "DifferencesOf", impl.DifferencesOf, []int{-1, great}, great+1)
	checkMade(t, "DifferencesOf", impl.DifferencesOf, []int{great, -great, great}, -2*great, 2*great)
}

func TestDifferenceTable(t *testing.T) {
	for _, list := range allLists() {
		table, ok := impl.DifferenceTable(list)
		if !sameLists(table, tableOf(list)) || !ok {
			t.Fatal("DifferenceTable", list, table, ok)
		}
	}
	table, ok := impl.DifferenceTable([]int{0, 1, 4, 9})
	if !sameLists(table, [][]int{{0, 1, 4, 9}, {1, 3, 5}, {2, 2}, {0}}) || !ok {
		t.Error("DifferenceTable", table, ok)
	}
	table, ok = impl.DifferenceTable(rowBy(mostInList, func(place int) int { return greatestEntry * (place%2*2 - 1) }))
	if last := table[len(table)-1]; len(table) != mostInList || !slices.Equal(last, []int{greatestEntry << 11}) || !ok {
		t.Error("DifferenceTable", table, ok)
	}
	for _, list := range badLists() {
		if table, ok := impl.DifferenceTable(list); table != nil || ok {
			t.Error("DifferenceTable", list, table, ok)
		}
	}
}

func TestDegreeOf(t *testing.T) {
	for _, list := range allLists() {
		form := withoutZerosAtEnd(headsOf(list))
		degree, ok := impl.DegreeOf(list)
		wantNumber(t, "DegreeOf", list, degree, ok, max(len(form)-1, 0), len(form) > 0)
	}
	for power := range mostInList {
		list := rowBy(mostInList, func(place int) int { return binomial(place+4, power) - 3*binomial(place, power/2) })
		degree, ok := impl.DegreeOf(list)
		wantNumber(t, "DegreeOf", list, degree, ok, power, true)
	}
	for _, list := range badLists() {
		degree, ok := impl.DegreeOf(list)
		wantNumber(t, "DegreeOf", list, degree, ok, 0, false)
	}
}

// TestDegreeOfGreatForms has lists whose forms have numbers that are too great for a form.
func TestDegreeOfGreatForms(t *testing.T) {
	const great = greatestEntry
	for degree, list := range map[int][]int{
		1:  {-1, great},
		2:  {great, -great, great},
		3:  {-great, great, -great, great},
		11: rowBy(mostInList, func(place int) int { return great * (1 - place%2*2) }),
	} {
		for _, either := range [][]int{list, changedSign(list), backward(list)} {
			got, ok := impl.DegreeOf(either)
			wantNumber(t, "DegreeOf", either, got, ok, degree, true)
			checkMade(t, "FormOf", impl.FormOf, either)
		}
	}
}

func checkSumsFrom(t *testing.T, first int, list []int, want []int) {
	t.Helper()
	sums, ok := impl.SumsFrom(first, list)
	wantListed(t, "SumsFrom", list, sums, ok, want)
}

func TestSumsFrom(t *testing.T) {
	for _, list := range allLists() {
		for _, first := range []int{-greatestEntry, -17, 0, 1, greatestEntry - 1, greatestEntry} {
			want := addedUp(list)
			for index := range want {
				want[index] += first
			}
			checkSumsFrom(t, first, list, want)
		}
	}
	checkSumsFrom(t, 3, make([]int, mostInList-1), slices.Repeat([]int{3}, mostInList))
	for _, list := range append(badLists(), make([]int, mostInList)) {
		checkSumsFrom(t, 0, list, nil)
	}
	for _, first := range []int{math.MinInt, -greatestEntry - 1, greatestEntry + 1, math.MaxInt} {
		for _, list := range [][]int{{0}, {-1}, {1}, {-greatestEntry}, {greatestEntry}} {
			checkSumsFrom(t, first, list, nil)
		}
	}
}

// TestSumsFromEdges has sums within and beyond the limits of a list, a number between among them.
func TestSumsFromEdges(t *testing.T) {
	const great = greatestEntry
	for _, sums := range [][]int{{0, great}, {great, great}, {great - 1, great}, {great, 0, -great}, {-great, 0, great}, {0, great, great - 1, great}} {
		for _, either := range [][]int{sums, changedSign(sums)} {
			checkSumsFrom(t, either[0], tableOf(either)[1], either)
		}
	}
	for _, sums := range [][]int{{great, great + 1}, {great - 1, great + 1}, {1, great + 1}, {great, 2 * great}, {great, great + 1, great}, {0, great, great + 1, great}} {
		for _, either := range [][]int{sums, changedSign(sums)} {
			checkSumsFrom(t, either[0], tableOf(either)[1], nil)
		}
	}
}

// TestDifferencesUndoSums checks both ways.
func TestDifferencesUndoSums(t *testing.T) {
	undone := 0
	for _, list := range allLists() {
		if differences, ok := impl.DifferencesOf(list); ok && isListed(differences) {
			sums, ok := impl.SumsFrom(list[0], differences)
			wantNumbers(t, "SumsFrom of DifferencesOf", list, sums, ok, list, true)
			undone++
		}
		for _, first := range []int{-greatestEntry, -3, 0, 500, greatestEntry} {
			if sums, ok := impl.SumsFrom(first, list); ok {
				differences, ok := impl.DifferencesOf(sums)
				wantNumbers(t, "DifferencesOf of SumsFrom", list, differences, ok, list, true)
				undone++
			}
		}
	}
	if undone < 5000 {
		t.Error("too few lists", undone)
	}
}
