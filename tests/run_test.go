package tests

import (
	"math"
	"testing"

	"loop.example/g01250/impl"
)

// The numbers are stated here once more, so that a changed limit is found.
const (
	mostRunned      = 1000000
	mostNoRun       = 5000
	mostCubed       = 1000
	mostRaised      = 100
	leastExponent   = 2
	mostExponent    = 6
	mostSquaresRun  = 1000
	mostSameSums    = 1000
	mostSquareFirst = 1000
)

var badRunned = []int{math.MinInt, -mostRunned, -15, -1, 0, mostRunned + 1, mostRunned + 2, math.MaxInt}

// runnedNumbers are ordinary ones and great ones: powers of 2 and their neighbours, numbers of
// many and of few divisors, powers of odd numbers, and the greatest ones that are allowed.
func runnedNumbers() []int {
	var numbers []int
	for n := 1; n <= 400; n++ {
		numbers = append(numbers, n)
	}
	return append(numbers, 1023, 1024, 1025, 1026, 4096, 65535, 65536, 65538, 524288, 720720, 831600, 675675, 765765, 994009, 998001, 531441, 823543, 999958, 999983, mostRunned-4, mostRunned-3, mostRunned-2, mostRunned-1, mostRunned)
}

func wantRun(t *testing.T, call string, a int, b int, got impl.Run, ok bool, want impl.Run, wantOk bool) {
	t.Helper()
	if got != want || ok != wantOk {
		t.Fatalf("%s of %d and %d is %v, %v, not %v, %v", call, a, b, got, ok, want, wantOk)
	}
}

// addUp returns the sum of so many numbers from first on, each a step greater than the one before.
func addUp(first int, length int, step int) int {
	sum := 0
	for range length {
		sum += first
		first += step
	}
	return sum
}

func TestRunLimits(t *testing.T) {
	if impl.MaxRunned != mostRunned {
		t.Error("limit", impl.MaxRunned)
	}
}

func TestRunExample(t *testing.T) {
	runs, ok := impl.RunsOf(15)
	wantList(t, "RunsOf", 15, 0, runs, ok, []impl.Run{{First: 15, Length: 1}, {First: 7, Length: 2}, {First: 4, Length: 3}, {First: 1, Length: 5}}, true)
	count, ok := impl.CountRuns(15)
	wantInt(t, "CountRuns", 15, 0, count, ok, 4, true)
	apart, ok := impl.SquaresApart(15)
	wantLists(t, "SquaresApart", 15, apart, ok, [][]int{{4, 1}, {8, 7}}, true)
	odds, ok := impl.CubeAsOdds(3)
	wantRun(t, "CubeAsOdds", 3, 0, odds, ok, impl.Run{First: 7, Length: 3}, true)
	before, behind, ok := impl.SameSums(2)
	wantRun(t, "SameSums", 2, 0, before, ok, impl.Run{First: 4, Length: 3}, true)
	wantRun(t, "SameSums", 2, 0, behind, ok, impl.Run{First: 7, Length: 2}, true)
}

func TestSumOfRun(t *testing.T) {
	firsts := []int{-mostRunned, -mostRunned + 1, -1000, -15, -3, -2, -1, 0, 1, 2, 3, 15, 1000, mostRunned - 1, mostRunned}
	lengths := []int{0, 1, 2, 3, 4, 5, 30, 31, 999, 1000, 1001, mostRunned - 1, mostRunned}
	for _, first := range firsts {
		for _, length := range lengths {
			sum, ok := impl.SumOfRun(impl.Run{First: first, Length: length})
			wantInt(t, "SumOfRun", first, length, sum, ok, addUp(first, length, 1), true)
		}
	}
}

func TestSumOfRunFails(t *testing.T) {
	for _, first := range []int{math.MinInt, -mostRunned - 1, mostRunned + 1, math.MaxInt} {
		for _, length := range []int{0, 1, mostRunned} {
			sum, ok := impl.SumOfRun(impl.Run{First: first, Length: length})
			wantInt(t, "SumOfRun", first, length, sum, ok, 0, false)
		}
	}
	for _, length := range []int{math.MinInt, -mostRunned, -1, mostRunned + 1, math.MaxInt} {
		for _, first := range []int{-mostRunned, 0, 1, mostRunned} {
			sum, ok := impl.SumOfRun(impl.Run{First: first, Length: length})
			wantInt(t, "SumOfRun", first, length, sum, ok, 0, false)
		}
	}
}

func TestSumOfSquaresRun(t *testing.T) {
	for _, first := range []int{-mostSquareFirst, -mostSquareFirst + 1, -500, -37, -2, -1, 0, 1, 2, 36, 500, mostSquareFirst - 1, mostSquareFirst} {
		want := 0
		for length := 0; length <= mostSquaresRun; length++ {
			sum, ok := impl.SumOfSquaresRun(impl.Run{First: first, Length: length})
			wantInt(t, "SumOfSquaresRun", first, length, sum, ok, want, true)
			want += (first + length) * (first + length)
		}
	}
}

func TestSumOfSquaresRunFails(t *testing.T) {
	for _, first := range []int{math.MinInt, -mostSquareFirst - 1, mostSquareFirst + 1, math.MaxInt} {
		for _, length := range []int{0, 1, mostSquaresRun} {
			sum, ok := impl.SumOfSquaresRun(impl.Run{First: first, Length: length})
			wantInt(t, "SumOfSquaresRun", first, length, sum, ok, 0, false)
		}
	}
	for _, length := range []int{math.MinInt, -1, mostSquaresRun + 1, math.MaxInt} {
		for _, first := range []int{-mostSquareFirst, 0, 1, mostSquareFirst} {
			sum, ok := impl.SumOfSquaresRun(impl.Run{First: first, Length: length})
			wantInt(t, "SumOfSquaresRun", first, length, sum, ok, 0, false)
		}
	}
}

// checkOdds checks that a run has just k odd numbers that add up to a sum: there is one such.
func checkOdds(t *testing.T, call string, k int, e int, run impl.Run, ok bool, sum int) {
	t.Helper()
	if !ok || run.Length != k || run.First%2 == 0 || addUp(run.First, k, 2) != sum {
		t.Fatal(call, k, e, run, ok, sum)
	}
}

func TestCubeAsOdds(t *testing.T) {
	for k := 1; k <= mostCubed; k++ {
		run, ok := impl.CubeAsOdds(k)
		checkOdds(t, "CubeAsOdds", k, 3, run, ok, k*k*k)
	}
	run, ok := impl.CubeAsOdds(mostCubed)
	wantRun(t, "CubeAsOdds", mostCubed, 0, run, ok, impl.Run{First: 999001, Length: mostCubed}, true)
	for _, k := range []int{math.MinInt, -3, -1, 0, mostCubed + 1, mostCubed + 2, math.MaxInt} {
		run, ok := impl.CubeAsOdds(k)
		wantRun(t, "CubeAsOdds", k, 0, run, ok, impl.Run{}, false)
	}
}

func TestPowerAsOdds(t *testing.T) {
	for k := 1; k <= mostRaised; k++ {
		power := k
		for e := leastExponent; e <= mostExponent; e++ {
			power *= k
			run, ok := impl.PowerAsOdds(k, e)
			checkOdds(t, "PowerAsOdds", k, e, run, ok, power)
		}
	}
	run, ok := impl.PowerAsOdds(mostRaised, mostExponent)
	wantRun(t, "PowerAsOdds", mostRaised, mostExponent, run, ok, impl.Run{First: 9999999901, Length: mostRaised}, true)
	run, ok = impl.PowerAsOdds(7, leastExponent)
	wantRun(t, "PowerAsOdds", 7, leastExponent, run, ok, impl.Run{First: 1, Length: 7}, true)
}

func TestPowerAsOddsFails(t *testing.T) {
	for _, k := range []int{math.MinInt, -3, -1, 0, mostRaised + 1, mostRaised + 2, mostCubed, math.MaxInt} {
		for e := leastExponent; e <= mostExponent; e++ {
			run, ok := impl.PowerAsOdds(k, e)
			wantRun(t, "PowerAsOdds", k, e, run, ok, impl.Run{}, false)
		}
	}
	for _, e := range []int{math.MinInt, -2, -1, 0, leastExponent - 1, mostExponent + 1, mostExponent + 2, math.MaxInt} {
		for _, k := range []int{1, 2, 3, mostRaised} {
			run, ok := impl.PowerAsOdds(k, e)
			wantRun(t, "PowerAsOdds", k, e, run, ok, impl.Run{}, false)
		}
	}
}

func TestSameSums(t *testing.T) {
	for length := 1; length <= mostSameSums; length++ {
		before, behind, ok := impl.SameSums(length)
		wantRun(t, "SameSums", length, 0, before, ok, impl.Run{First: length * length, Length: length + 1}, true)
		wantRun(t, "SameSums", length, 0, behind, ok, impl.Run{First: length*length + length + 1, Length: length}, true)
		if addUp(before.First, before.Length, 1) != addUp(behind.First, behind.Length, 1) {
			t.Fatal("SameSums", length, before, behind)
		}
	}
	for _, length := range []int{math.MinInt, -2, -1, 0, mostSameSums + 1, mostSameSums + 2, math.MaxInt} {
		before, behind, ok := impl.SameSums(length)
		wantRun(t, "SameSums", length, 0, before, ok, impl.Run{}, false)
		wantRun(t, "SameSums", length, 0, behind, ok, impl.Run{}, false)
	}
}
