package tests

import (
	"math"
	"slices"
	"testing"

	"loop.example/g01250/impl"
)

func TestFormOfSums(t *testing.T) {
	for _, form := range allForms() {
		got, ok := impl.FormOfSums(form)
		if len(form) == 0 {
			wantNumbers(t, "FormOfSums", form, got, ok, nil, true)
			continue
		}
		wantFormed(t, "FormOfSums", form, got, ok, append([]int{0}, form...))
	}
	for _, length := range []int{1, 2, mostInList - 1, mostInList} {
		form := slices.Repeat([]int{-greatestEntry}, length)
		got, ok := impl.FormOfSums(form)
		wantFormed(t, "FormOfSums", form, got, ok, append([]int{0}, form...))
	}
	checkFails(t, "FormOfSums", impl.FormOfSums, badForms())
}

// TestFormOfSumsAddsUp checks the values: they are the sums of those of the form.
func TestFormOfSumsAddsUp(t *testing.T) {
	for _, form := range allForms() {
		if made, ok := impl.FormOfSums(form); ok {
			want := addedUp(valuesOf(form, 0, mostInList-1))
			list, ok := impl.ListOfForm(made, mostInList)
			wantNumbers(t, "ListOfForm of FormOfSums", form, list, ok, want, true)
		}
	}
}

func TestFormBehind(t *testing.T) {
	for _, form := range allForms() {
		want := slices.Clone(form)
		for index := 1; index < len(form); index++ {
			want[index-1] += form[index]
		}
		got, ok := impl.FormBehind(form)
		wantFormed(t, "FormBehind", form, got, ok, want)
		if ok {
			list, ok := impl.ListOfForm(got, mostInList)
			wantNumbers(t, "ListOfForm of FormBehind", form, list, ok, valuesOf(form, 1, mostInList), true)
		}
	}
	checkFails(t, "FormBehind", impl.FormBehind, badForms())
}

func TestFormBehindEdges(t *testing.T) {
	const great = greatestEntry
	checkEdgesOfEitherSign(t, "FormBehind", impl.FormBehind, [][2][]int{
		{{great}, {great}},
		{{0, great}, {great, great}},
		{{1, great}, nil},
		{{great / 2, great / 2}, {great, great / 2}},
		{{great / 2, great/2 + 1}, nil},
		{{-great, great}, {0, great}},
		{{great, -great, great}, {0, 0, great}},
		{{great, 0, 0, great}, {great, 0, great, great}},
		{{great, 0, 1, great}, nil},
		{{0, 1, great}, nil},
	})
	checkMade(t, "FormBehind", impl.FormBehind, slices.Repeat([]int{great / 2}, mostInList), append(slices.Repeat([]int{great}, mostInList-1), great/2)...)
	for _, form := range [][]int{nil, {}} {
		got, ok := impl.FormBehind(form)
		wantNumbers(t, "FormBehind", form, got, ok, nil, true)
	}
}

// timesPlace tells the form by the values: those of n times them.
func timesPlace(form []int) []int {
	values := valuesOf(form, 0, mostInList+1)
	for n := range values {
		values[n] *= n
	}
	return withoutZerosAtEnd(headsOf(values))
}

func TestTimesPlace(t *testing.T) {
	for _, form := range allForms() {
		got, ok := impl.TimesPlace(form)
		wantFormed(t, "TimesPlace", form, got, ok, timesPlace(form))
	}
	for _, form := range [][]int{nil, {}} {
		got, ok := impl.TimesPlace(form)
		wantNumbers(t, "TimesPlace", form, got, ok, nil, true)
	}
	checkFails(t, "TimesPlace", impl.TimesPlace, badForms())
}

func TestTimesPlaceEdges(t *testing.T) {
	const great = greatestEntry
	ones := slices.Repeat([]int{1}, mostInList)
	checkEdgesOfEitherSign(t, "TimesPlace", impl.TimesPlace, [][2][]int{
		{{1}, {0, 1}},
		{{0, 1}, {0, 1, 2}},
		{{great}, {0, great}},
		{{0, great / 2}, {0, great / 2, great}},
		{{0, great/2 + 1}, nil},
		{{great / 2, great / 2}, {0, great, great}},
		{{great/2 + 1, great / 2}, nil},
		{{great, -great / 2}, {0, great / 2, -great}},
		{{great, -great}, nil},
		{append(make([]int, 10), 90909), append(make([]int, 10), 909090, 999999)},
		{append(make([]int, 10), 90910), nil},
		{ones[:11], {0, 2, 4, 6, 8, 10, 12, 14, 16, 18, 20, 11}},
		{ones, nil},
		{append(make([]int, mostInList-1), 1), nil},
	})
}

func TestFormOfShape(t *testing.T) {
	forAllSides(func(sides int) {
		form, ok := impl.FormOfShape(sides)
		wantNumbers(t, "FormOfShape", sides, form, ok, []int{0, 1, sides - 2}, true)
		numbers := piledNumbers(sides, 100*greatestEntry)
		list, ok := impl.ListOfForm(form, mostInList)
		wantNumbers(t, "ListOfForm of FormOfShape", sides, list, ok, numbers[:mostInList], true)
		for _, place := range []int{0, 1, 2, 50, greatestValuedAt} {
			value, ok := impl.ValueOf(form, place)
			wantNumber(t, "ValueOf of FormOfShape", sides, value, ok, numbers[place], true)
		}
	})
	for _, sides := range append(badSides, math.MinInt, math.MaxInt) {
		form, ok := impl.FormOfShape(sides)
		wantNumbers(t, "FormOfShape", sides, form, ok, nil, false)
	}
}

func TestTransformOf(t *testing.T) {
	for _, list := range allLists() {
		got, ok := impl.TransformOf(list)
		wantListed(t, "TransformOf", list, got, ok, valuesOf(list, 0, len(list)))
	}
	checkFails(t, "TransformOf", impl.TransformOf, badLists())
}

func TestTransformOfEdges(t *testing.T) {
	const great = greatestEntry
	checkEdgesOfEitherSign(t, "TransformOf", impl.TransformOf, [][2][]int{
		{{great}, {great}},
		{{great, 0}, {great, great}},
		{{great, 1}, nil},
		{{great / 2, great / 2}, {great / 2, great}},
		{{great / 2, great/2 + 1}, nil},
		{{0, great / 2, 0}, {0, great / 2, great}},
		{{0, great / 2, 1}, nil},
		{{0, great, -great}, {0, great, great}},
		{{great, -great, great}, {great, 0, 0}},
		{make([]int, mostInList), make([]int, mostInList)},
		{slices.Repeat([]int{1}, mostInList), {1, 2, 4, 8, 16, 32, 64, 128, 256, 512, 1024, 2048}},
		{slices.Repeat([]int{488}, mostInList), rowBy(mostInList, func(place int) int { return 488 << place })},
		{slices.Repeat([]int{489}, mostInList), nil},
	})
}

func TestUndoTransform(t *testing.T) {
	for _, list := range allLists() {
		got, ok := impl.UndoTransform(list)
		wantListed(t, "UndoTransform", list, got, ok, headsOf(list))
	}
	checkFails(t, "UndoTransform", impl.UndoTransform, badLists())
}

func TestUndoTransformEdges(t *testing.T) {
	const great = greatestEntry
	checkEdgesOfEitherSign(t, "UndoTransform", impl.UndoTransform, [][2][]int{
		{{great}, {great}},
		{{1, 2, 4, 8}, {1, 1, 1, 1}},
		{{5, 5, 5}, {5, 0, 0}},
		{{-1, great - 1}, {-1, great}},
		{{-1, great}, nil},
		{{great, 0, 0}, {great, -great, great}},
		{{great, -1, 0}, nil},
		{{great, great}, {great, 0}},
		{{great / 4, -great / 4, great / 4}, {great / 4, -great / 2, great}},
		{{great / 4, -great / 4, great/4 + 1}, nil},
		{make([]int, mostInList), make([]int, mostInList)},
	})
}

// TestTransformsUndoEachOther checks both ways.
func TestTransformsUndoEachOther(t *testing.T) {
	undone := 0
	for _, list := range allLists() {
		if made, ok := impl.TransformOf(list); ok {
			again, ok := impl.UndoTransform(made)
			wantNumbers(t, "UndoTransform of TransformOf", list, again, ok, list, true)
			undone++
		}
		if made, ok := impl.UndoTransform(list); ok {
			again, ok := impl.TransformOf(made)
			wantNumbers(t, "TransformOf of UndoTransform", list, again, ok, list, true)
			undone++
		}
	}
	if undone < 3000 {
		t.Error("too few lists", undone)
	}
}
