package tests

import (
	"math"
	"math/big"
	"math/rand"
	"slices"
	"testing"

	"loop.example/g01250/impl"
)

// valueAt adds a value up in numbers of any size.
func valueAt(form []int, n int) *big.Int {
	value := new(big.Int)
	for index, number := range form {
		term := new(big.Int).Binomial(int64(n), int64(index))
		value.Add(value, term.Mul(term, big.NewInt(int64(number))))
	}
	return value
}

// valuesOf returns the values from that at from on. They have to be those of an int.
func valuesOf(form []int, from int, count int) []int {
	return rowBy(count, func(place int) int { return int(valueAt(form, from+place).Int64()) })
}

func checkValue(t *testing.T, form []int, n int) {
	t.Helper()
	want := valueAt(form, n)
	isTold := want.CmpAbs(big.NewInt(greatestValue)) <= 0
	value, ok := impl.ValueOf(form, n)
	if !isTold {
		want = new(big.Int)
	}
	if ok != isTold || big.NewInt(int64(value)).Cmp(want) != 0 {
		t.Fatal("ValueOf", form, n, value, ok, want, isTold)
	}
}

// formWithValue returns numbers whose value at n is the one that is told: those of last that are
// not 0, and in the other places as much as goes, the last one first.
func formWithValue(value *big.Int, n int, last []int) []int {
	form := slices.Clone(last)
	left := new(big.Int).Sub(value, valueAt(form, n))
	for index := mostInList - 1; index >= 0; index-- {
		if form[index] != 0 {
			continue
		}
		times := new(big.Int).Quo(left, new(big.Int).Binomial(int64(n), int64(index)))
		form[index] = int(times.Int64())
		left.Sub(left, times.Mul(times, new(big.Int).Binomial(int64(n), int64(index))))
	}
	return form
}

func TestFormOf(t *testing.T) {
	for _, list := range allLists() {
		form, ok := impl.FormOf(list)
		wantFormed(t, "FormOf", list, form, ok, withoutZerosAtEnd(headsOf(list)))
	}
	for length := 1; length <= mostInList; length++ {
		form, ok := impl.FormOf(make([]int, length))
		wantNumbers(t, "FormOf", length, form, ok, nil, true)
		checkMade(t, "FormOf", impl.FormOf, append(make([]int, length-1), -4), append(make([]int, length-1), -4)...)
	}
	checkMade(t, "FormOf", impl.FormOf, []int{2, 2, 2, 3}, 2, 0, 0, 1)
	checkFails(t, "FormOf", impl.FormOf, badLists())
}

// TestFormOfEdges has forms within and beyond their limits.
func TestFormOfEdges(t *testing.T) {
	const great = greatestEntry
	checkEdgesOfEitherSign(t, "FormOf", impl.FormOf, [][2][]int{
		{{great}, {great}},
		{{0, great}, {0, great}},
		{{-1, great - 1}, {-1, great}},
		{{-1, great}, nil},
		{{great, 0}, {great, -great}},
		{{great, -1}, nil},
		{{great / 4, -great / 4, great / 4}, {great / 4, -great / 2, great}},
		{{great / 4, -great / 4, great/4 + 1}, nil},
		{{great, great / 2, great / 2, great / 2}, {great, -great / 2, great / 2, -great / 2}},
		{{0, great, great}, {0, great, -great}},
		{{0, great, great - 1}, nil},
	})
}

// checkEdgesOfEitherSign checks what a call makes of rows, and of them with the signs changed.
func checkEdgesOfEitherSign(t *testing.T, call string, made func([]int) ([]int, bool), edges [][2][]int) {
	t.Helper()
	for _, edge := range edges {
		checkMade(t, call, made, edge[0], edge[1]...)
		checkMade(t, call, made, changedSign(edge[0]), changedSign(edge[1])...)
	}
}

func TestValueOf(t *testing.T) {
	for _, form := range allForms() {
		for _, n := range []int{0, 1, 2, 3, 7, 11, 12, 30, 999, greatestValuedAt} {
			checkValue(t, form, n)
		}
	}
	for n := range greatestValuedAt + 1 {
		for _, form := range [][]int{nil, {-3}, {0, 1}, {0, 1, 2}, {5, -2, 7, 1}, {1, 2, 3, 4, 5, 6, 7, 8, 9, 10, 11, 12}} {
			checkValue(t, form, n)
		}
	}
	random := rand.New(rand.NewSource(8))
	for range 2000 {
		form := rowBy(1+random.Intn(mostInList), func(int) int { return random.Intn(2*greatestEntry+1) - greatestEntry })
		if isFormed(form) {
			checkValue(t, form, random.Intn(1+random.Intn(greatestValuedAt)))
		}
	}
}

// TestValueOfEdges has values of the greatest size and one beyond, those that differ from a small
// number by a power of 2, and forms whose values between are far greater than the last one.
func TestValueOfEdges(t *testing.T) {
	sizes := []*big.Int{new(big.Int), big.NewInt(greatestValue), big.NewInt(math.MaxInt)}
	for _, power := range []uint{31, 32, 53, 62, 63, 64, 65, 66, 80, 90} {
		sizes = append(sizes, new(big.Int).Lsh(big.NewInt(1), power))
	}
	flat := make([]int, mostInList)
	// 90 times the number of ways to choose 10 of 1000 is that to choose 11 of them.
	falling := append(make([]int, mostInList-2), -90*11111, 11111)
	told := 0
	for _, last := range [][]int{flat, falling, changedSign(falling)} {
		for _, size := range sizes {
			for beyond := int64(-2); beyond <= 2; beyond++ {
				value := new(big.Int).Add(size, big.NewInt(beyond))
				form := withoutZerosAtEnd(formWithValue(value, greatestValuedAt, last))
				if !isFormed(form) || valueAt(form, greatestValuedAt).Cmp(value) != 0 {
					t.Fatal("form", form, value)
				}
				checkValue(t, form, greatestValuedAt)
				checkValue(t, changedSign(form), greatestValuedAt)
				told++
			}
		}
	}
	if told != 195 {
		t.Error("forms", told)
	}
	checkValue(t, []int{0, greatestEntry, 0, 0, 0, 0, 0, 0, 0, 0, -90, 1}, greatestValuedAt)
	checkValue(t, slices.Repeat([]int{greatestEntry}, mostInList), greatestValuedAt)
	checkValue(t, slices.Repeat([]int{-greatestEntry}, mostInList), greatestValuedAt)
}

func TestValueOfFails(t *testing.T) {
	for _, form := range badForms() {
		for _, n := range []int{0, 1, 3, greatestValuedAt} {
			value, ok := impl.ValueOf(form, n)
			wantNumber(t, "ValueOf", form, value, ok, 0, false)
		}
	}
	for _, n := range []int{math.MinInt, -1000, -2, -1, greatestValuedAt + 1, greatestValuedAt + 2, 1 << 32, math.MaxInt} {
		for _, form := range [][]int{nil, {1}, {0, 1}, {0, 0, 0, 1}} {
			value, ok := impl.ValueOf(form, n)
			wantNumber(t, "ValueOf", n, value, ok, 0, false)
		}
	}
}

func TestListOfForm(t *testing.T) {
	for _, form := range allForms() {
		for count := 1; count <= mostInList; count++ {
			list, ok := impl.ListOfForm(form, count)
			wantNumbers(t, "ListOfForm", form, list, ok, valuesOf(form, 0, count), true)
		}
		for _, count := range badCounts {
			list, ok := impl.ListOfForm(form, count)
			wantNumbers(t, "ListOfForm", form, list, ok, nil, false)
		}
	}
	for _, form := range badForms() {
		for _, count := range []int{1, 2, mostInList} {
			list, ok := impl.ListOfForm(form, count)
			wantNumbers(t, "ListOfForm", form, list, ok, nil, false)
		}
	}
}

// TestListOfFormAnySize checks that values, which are not told to be a list, can be greater than
// the numbers of one.
func TestListOfFormAnySize(t *testing.T) {
	const great = greatestEntry
	for _, sign := range []int{-1, 1} {
		list, ok := impl.ListOfForm([]int{sign * great, sign}, 3)
		wantNumbers(t, "ListOfForm", sign, list, ok, []int{sign * great, sign * (great + 1), sign * (great + 2)}, true)
		list, ok = impl.ListOfForm(slices.Repeat([]int{sign * great}, mostInList), mostInList)
		if len(list) != mostInList || list[mostInList-1] != sign*great<<11 || !ok {
			t.Error("ListOfForm", list, ok)
		}
	}
}

// TestFormsTellLists checks both ways.
func TestFormsTellLists(t *testing.T) {
	told := 0
	for _, list := range allLists() {
		if form, ok := impl.FormOf(list); ok {
			again, ok := impl.ListOfForm(form, len(list))
			wantNumbers(t, "ListOfForm of FormOf", list, again, ok, list, true)
			told++
		}
	}
	for _, form := range allForms() {
		for count := max(len(form), 1); count <= mostInList; count++ {
			if list, _ := impl.ListOfForm(form, count); isListed(list) {
				again, ok := impl.FormOf(list)
				wantNumbers(t, "FormOf of ListOfForm", form, again, ok, form, true)
				told++
			}
		}
	}
	if told < 8000 {
		t.Error("too few lists", told)
	}
}

func TestGoOn(t *testing.T) {
	for _, list := range allLists() {
		for more := 1; more <= mostInList; more++ {
			numbers, ok := impl.GoOn(list, more)
			wantNumbers(t, "GoOn", list, numbers, ok, valuesOf(headsOf(list), len(list), more), true)
		}
		for _, more := range badCounts {
			numbers, ok := impl.GoOn(list, more)
			wantNumbers(t, "GoOn", list, numbers, ok, nil, false)
		}
	}
	for _, list := range badLists() {
		for _, more := range []int{1, 2, mostInList} {
			numbers, ok := impl.GoOn(list, more)
			wantNumbers(t, "GoOn", list, numbers, ok, nil, false)
		}
	}
}

func TestGoOnEdges(t *testing.T) {
	for list, want := range map[[3]int][]int{
		{0, 0, 0}:                          {0, 0, 0},
		{7, 7, 7}:                          {7, 7, 7},
		{0, 1, 3}:                          {6, 10, 15},
		{-1, 1, greatestEntry}:             {2999996, 5999989, 9999979},
		{greatestEntry - 2, 999999, 1e6}:   {1000001, 1000002, 1000003},
		{greatestEntry, -greatestEntry, 0}: {4000000, 11000000, 21000000},
	} {
		numbers, ok := impl.GoOn(list[:], 3)
		wantNumbers(t, "GoOn", list, numbers, ok, want, true)
	}
	numbers, ok := impl.GoOn([]int{-9}, mostInList)
	wantNumbers(t, "GoOn", -9, numbers, ok, slices.Repeat([]int{-9}, mostInList), true)
	// The last number is of a size of more than 10^15, which bounds what ValueOf returns alone.
	steep := rowBy(mostInList, func(place int) int { return greatestEntry * (place%2*2 - 1) })
	numbers, ok = impl.GoOn(steep, mostInList)
	if len(numbers) != mostInList || numbers[mostInList-1] != 1916280833*greatestEntry || !ok {
		t.Error("GoOn", steep, numbers, ok)
	}
}
