package tests

import (
	"math"
	"slices"
	"testing"

	"loop.example/g01250/impl"
)

// madeOfRows are the functions of the chapter that make a list of a row of numbers and, some of them,
// of a number more.
var madeOfRows = map[string]func(row []int, n int) ([]int, bool){
	"DifferencesOf": func(row []int, _ int) ([]int, bool) { return impl.DifferencesOf(row) },
	"FormOf":        func(row []int, _ int) ([]int, bool) { return impl.FormOf(row) },
	"ListOfForm":    impl.ListOfForm,
	"GoOn":          impl.GoOn,
	"SumsFrom":      func(row []int, n int) ([]int, bool) { return impl.SumsFrom(n, row) },
	"FormOfSums":    func(row []int, _ int) ([]int, bool) { return impl.FormOfSums(row) },
	"FormBehind":    func(row []int, _ int) ([]int, bool) { return impl.FormBehind(row) },
	"TransformOf":   func(row []int, _ int) ([]int, bool) { return impl.TransformOf(row) },
	"UndoTransform": func(row []int, _ int) ([]int, bool) { return impl.UndoTransform(row) },
	"TimesPlace":    func(row []int, _ int) ([]int, bool) { return impl.TimesPlace(row) },
}

// toldOfRows are those that tell other things of one. They are laid in a list here, too.
var toldOfRows = map[string]func(row []int, n int) ([]int, bool){
	"DegreeOf": func(row []int, _ int) ([]int, bool) {
		degree, ok := impl.DegreeOf(row)
		return listedNumbers(ok, degree), ok
	},
	"ValueOf": func(row []int, n int) ([]int, bool) {
		value, ok := impl.ValueOf(row, n)
		return listedNumbers(ok, value), ok
	},
	"ShapeOfList": func(row []int, _ int) ([]int, bool) {
		sides, place, ok := impl.ShapeOfList(row)
		return listedNumbers(ok, sides, place), ok
	},
	"DifferenceTable": func(row []int, _ int) ([]int, bool) {
		table, ok := impl.DifferenceTable(row)
		numbers := slices.Concat(table...)
		for _, differences := range table {
			spoil(differences, math.MinInt)
		}
		return numbers, ok
	},
}

// ofForms are those of the functions whose argument is a form: they take one without numbers.
var ofForms = []string{"ListOfForm", "FormOfSums", "FormBehind", "TimesPlace", "ValueOf"}

// listedNumbers returns no list for a call that fails and tells zeros alone, as it has to.
func listedNumbers(ok bool, numbers ...int) []int {
	if !ok && slices.Equal(numbers, make([]int, len(numbers))) {
		return nil
	}
	return numbers
}

// anyRows are of any length and have numbers of any size.
func anyRows() [][]int {
	rows := slices.Concat(badForms(), badLists(), smallRows(3), [][]int{make([]int, 1<<20), slices.Repeat([]int{1}, 1<<20), slices.Repeat([]int{math.MinInt}, 1<<20)})
	for _, length := range []int{1, 2, 3, 4, 11, 12, 13} {
		rows = append(rows, rowsOfLength(length)[:16]...)
		for _, n := range edgeInts(greatestEntry, greatestValue, 1<<32, 1<<62) {
			rows = append(rows, slices.Repeat([]int{n}, length))
			for place := range length {
				row := rowBy(length, func(place int) int { return place * place })
				row[place] = n
				rows = append(rows, row)
			}
		}
	}
	return rows
}

func checkAnyRow(t *testing.T, row []int, n int) {
	for name, call := range madeOfRows {
		checkCallOfRow(t, name, call, row, n)
	}
	for name, call := range toldOfRows {
		checkCallOfRow(t, name, call, row, n)
	}
}

// checkCallOfRow calls a function with a row that has room behind it: neither is changed, not even
// if the result is, what is in the room does not count, and only what is valid succeeds.
func checkCallOfRow(t *testing.T, name string, call func([]int, int) ([]int, bool), row []int, n int) {
	room := []int{7, -7, greatestEntry, math.MaxInt}
	whole := slices.Concat(row, room)
	valid := isListed(row)
	if slices.Contains(ofForms, name) {
		valid = isFormed(row)
	}
	numbers, ok := call(whole[:len(row)], n)
	if ok && !valid || !ok && numbers != nil {
		t.Errorf("%s of %.13v and %d is %v, %v", name, row, n, numbers, ok)
	}
	alone, aloneOk := call(slices.Clip(slices.Clone(row)), n)
	if !slices.Equal(alone, numbers) || aloneOk != ok {
		t.Errorf("%s of %.13v and %d is %v or %v", name, row, n, numbers, alone)
	}
	spoil(numbers, math.MinInt)
	if !slices.Equal(whole, slices.Concat(row, room)) {
		t.Fatalf("%s changed %.13v", name, row)
	}
}

// TestTableCallsOfAnyRow calls every function of the chapter that takes numbers with any of them.
func TestTableCallsOfAnyRow(t *testing.T) {
	rows := anyRows()
	inTime(t, func() {
		for _, row := range rows {
			checkAnyRow(t, row, 1)
			checkAnyRow(t, row, mostInList)
		}
	})
}

// TestTableCallsOfAnyNumber calls them with first numbers and counts of any size, and the functions
// that take no list with any numbers.
func TestTableCallsOfAnyNumber(t *testing.T) {
	edges := edgeInts(mostInList, greatestChosenOf, greatestValuedAt, greatestEntry, greatestValue, 1<<32, 1<<62)
	inTime(t, func() {
		for _, n := range edges {
			for _, row := range [][]int{nil, {0}, {5}, {0, 1, 4}, {1, 2, 3, 0}, slices.Repeat([]int{-greatestEntry}, mostInList), make([]int, mostInList+1)} {
				checkAnyRow(t, row, n)
				checkAnyCounts(t, row, n)
			}
			form, ok := impl.FormOfShape(n)
			if ok != isIn(n, 3, mostSides) || ok != (len(form) == 3) || !ok && form != nil {
				t.Error("FormOfShape", n, form, ok)
			}
			for _, k := range edges {
				ways, ok := impl.ChooseOf(n, k)
				if ok != (isIn(n, 0, greatestChosenOf) && k >= 0) || ways < 0 || (ways > 0) != (ok && k <= n) {
					t.Error("ChooseOf", n, k, ways, ok)
				}
			}
		}
	})
}

func checkAnyCounts(t *testing.T, row []int, n int) {
	isCount := isIn(n, 1, mostInList)
	if list, ok := impl.ListOfForm(row, n); ok != (isFormed(row) && isCount) || ok && len(list) != n {
		t.Error("ListOfForm", row, n, list, ok)
	}
	if list, ok := impl.GoOn(row, n); ok != (isListed(row) && isCount) || ok && len(list) != n {
		t.Error("GoOn", row, n, list, ok)
	}
	if sums, ok := impl.SumsFrom(n, row); ok && (!isIn(n, -greatestEntry, greatestEntry) || len(sums) != len(row)+1) {
		t.Error("SumsFrom", n, row, sums, ok)
	}
	if value, ok := impl.ValueOf(row, n); ok && !isIn(n, 0, greatestValuedAt) || !isIn(value, -greatestValue, greatestValue) {
		t.Error("ValueOf", row, n, value, ok)
	}
}

// TestTableListsAreNew checks that a result that is changed changes no later one.
func TestTableListsAreNew(t *testing.T) {
	calls := map[string]func() ([]int, bool){
		"FormOfShape": func() ([]int, bool) { return impl.FormOfShape(5) },
	}
	for name, call := range madeOfRows {
		calls[name] = func() ([]int, bool) { return call([]int{3, 6, 10}, 4) }
	}
	checkListsAreNew(t, math.MaxInt, calls)
	checkTablesAreNew(t, map[string]func() ([][]int, bool){
		"DifferenceTable": func() ([][]int, bool) { return impl.DifferenceTable([]int{0, 1, 8, 27}) },
	})
}
