package tests

import (
	"slices"
	"testing"

	"loop.example/g01250/impl"
)

// slidRuns returns the runs of the odd numbers, with a step of 2, or of all numbers, with one of
// 1, whose sum is n, the shortest one first: it takes numbers away in front while the sum is too
// great and adds them behind while it is too small.
func slidRuns(n int, step int) []impl.Run {
	var runs []impl.Run
	first, length, sum := 1, 0, 0
	for first <= n {
		if sum < n {
			sum += first + step*length
			length++
			continue
		}
		if sum == n {
			runs = append(runs, impl.Run{First: first, Length: length})
		}
		sum -= first
		first += step
		length--
	}
	slices.Reverse(runs)
	return runs
}

// signedRuns returns the runs whose sum is n, the shortest one first, for a small n.
func signedRuns(n int) []impl.Run {
	var runs []impl.Run
	for length := 1; length <= 2*n+5; length++ {
		for first := -n - 5; first <= n+5; first++ {
			if addUp(first, length, 1) == n {
				runs = append(runs, impl.Run{First: first, Length: length})
			}
		}
	}
	return runs
}

// oddDivisorsUpTo counts the odd divisors of each number.
func oddDivisorsUpTo(most int) []int {
	counts := make([]int, most+1)
	for divisor := 1; divisor <= most; divisor += 2 {
		for n := divisor; n <= most; n += divisor {
			counts[n]++
		}
	}
	return counts
}

// runnedEnds returns each of the least and of the greatest numbers, or those a step apart.
func runnedEnds(first int, step int) []int {
	var numbers []int
	for n := first; n <= mostRunned; n += step {
		if n <= 3000 || n > mostRunned-3000 {
			numbers = append(numbers, n)
		}
	}
	return numbers
}

// checkRuns checks the functions that tell the runs of n, or that they fail if there are none.
func checkRuns(t *testing.T, n int, want []impl.Run, valid bool) {
	t.Helper()
	runs, ok := impl.RunsOf(n)
	wantList(t, "RunsOf", n, 0, runs, ok, want, valid)
	count, ok := impl.CountRuns(n)
	wantInt(t, "CountRuns", n, 0, count, ok, len(want), valid)
	longest, ok := impl.LongestRun(n)
	wantRun(t, "LongestRun", n, 0, longest, ok, append([]impl.Run{{}}, want...)[len(want)], valid)
}

func TestRuns(t *testing.T) {
	for _, n := range runnedNumbers() {
		checkRuns(t, n, slidRuns(n, 1), true)
	}
	for _, n := range badRunned {
		checkRuns(t, n, nil, false)
	}
}

func TestRunsThatAreKnown(t *testing.T) {
	checkRuns(t, 1, []impl.Run{{First: 1, Length: 1}}, true)
	checkRuns(t, 3, []impl.Run{{First: 3, Length: 1}, {First: 1, Length: 2}}, true)
	checkRuns(t, 9, []impl.Run{{First: 9, Length: 1}, {First: 4, Length: 2}, {First: 2, Length: 3}}, true)
	checkRuns(t, 524288, []impl.Run{{First: 524288, Length: 1}}, true)
	checkRuns(t, 999983, []impl.Run{{First: 999983, Length: 1}, {First: 499991, Length: 2}}, true)
	for below, want := range []int{1, 1, 2, 1, 2, 2, 2, 1, 3, 2, 2, 2, 2, 2, 4, 1} {
		count, ok := impl.CountRuns(below + 1)
		wantInt(t, "CountRuns", below+1, 0, count, ok, want, true)
	}
}

// TestRunsAreCountedByOddDivisors checks the promise, and that the runs have their sums.
func TestRunsAreCountedByOddDivisors(t *testing.T) {
	divisors := oddDivisorsUpTo(mostRunned)
	for _, n := range runnedEnds(1, 1) {
		count, ok := impl.CountRuns(n)
		wantInt(t, "CountRuns", n, 0, count, ok, divisors[n], true)
		signed, ok := impl.SignedRuns(n)
		wantInt(t, "the number of SignedRuns", n, 0, len(signed), ok, 2*divisors[n], true)
	}
	for _, n := range runnedNumbers() {
		runs, _ := impl.RunsOf(n)
		for _, run := range runs {
			sum, ok := impl.SumOfRun(run)
			wantInt(t, "SumOfRun of a run of", n, run.Length, sum, ok, n, true)
		}
	}
}

func TestSignedRuns(t *testing.T) {
	for n := 1; n <= 60; n++ {
		runs, ok := impl.SignedRuns(n)
		wantList(t, "SignedRuns", n, 0, runs, ok, signedRuns(n), true)
	}
	runs, ok := impl.SignedRuns(1)
	wantList(t, "SignedRuns", 1, 0, runs, ok, []impl.Run{{First: 1, Length: 1}, {First: 0, Length: 2}}, true)
	runs, ok = impl.SignedRuns(3)
	wantList(t, "SignedRuns", 3, 0, runs, ok, []impl.Run{{First: 3, Length: 1}, {First: 1, Length: 2}, {First: 0, Length: 3}, {First: -2, Length: 6}}, true)
	for _, n := range badRunned {
		runs, ok := impl.SignedRuns(n)
		wantList(t, "SignedRuns", n, 0, runs, ok, nil, false)
	}
}

// TestGreatSignedRuns checks runs that are longer than SumOfRun allows, too. Their number, their
// sums and their order leave no others.
func TestGreatSignedRuns(t *testing.T) {
	for _, n := range []int{675675, 720720, 524288, 999983, mostRunned - 1, mostRunned} {
		runs, ok := impl.SignedRuns(n)
		wantInt(t, "the number of SignedRuns", n, 0, len(runs), ok, 2*len(slidRuns(n, 1)), true)
		length := 0
		for _, run := range runs {
			if run.Length <= length || addUp(run.First, run.Length, 1) != n {
				t.Fatal("SignedRuns", n, run, length)
			}
			length = run.Length
		}
		if last := runs[len(runs)-1]; last != (impl.Run{First: 1 - n, Length: 2 * n}) {
			t.Error("SignedRuns", n, last)
		}
	}
}

func TestNoRunUpTo(t *testing.T) {
	var want []int
	for most := range mostNoRun + 1 {
		if most > 0 && len(slidRuns(most, 1)) == 1 {
			want = append(want, most)
		}
		if most <= 70 || most%100 == 0 || slices.Contains([]int{1023, 1024, 1025, 4095, 4096, 4097, mostNoRun - 1}, most) {
			numbers, ok := impl.NoRunUpTo(most)
			wantList(t, "NoRunUpTo", most, 0, numbers, ok, want, true)
		}
	}
	numbers, ok := impl.NoRunUpTo(mostNoRun)
	wantList(t, "NoRunUpTo", mostNoRun, 0, numbers, ok, []int{1, 2, 4, 8, 16, 32, 64, 128, 256, 512, 1024, 2048, 4096}, true)
	for _, most := range []int{-mostNoRun, -2, -1, mostNoRun + 1, mostNoRun + 2, mostRunned} {
		numbers, ok := impl.NoRunUpTo(most)
		wantList(t, "NoRunUpTo", most, 0, numbers, ok, nil, false)
	}
}

func TestOddRunsOf(t *testing.T) {
	for _, n := range runnedNumbers() {
		runs, ok := impl.OddRunsOf(n)
		wantList(t, "OddRunsOf", n, 0, runs, ok, slidRuns(n, 2), true)
	}
	for n, want := range map[int][]impl.Run{
		1:  {{First: 1, Length: 1}},
		2:  nil,
		3:  {{First: 3, Length: 1}},
		4:  {{First: 1, Length: 2}},
		8:  {{First: 3, Length: 2}},
		9:  {{First: 9, Length: 1}, {First: 1, Length: 3}},
		24: {{First: 11, Length: 2}, {First: 3, Length: 4}},
		27: {{First: 27, Length: 1}, {First: 7, Length: 3}},
	} {
		runs, ok := impl.OddRunsOf(n)
		wantList(t, "OddRunsOf", n, 0, runs, ok, want, true)
	}
	for _, n := range badRunned {
		runs, ok := impl.OddRunsOf(n)
		wantList(t, "OddRunsOf", n, 0, runs, ok, nil, false)
	}
}
