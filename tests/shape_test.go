package tests

import (
	"slices"
	"testing"

	"loop.example/g01250/impl"
)

// The numbers are stated here once more, so that a changed limit is found.
const (
	mostSides  = 24
	mostPlace  = 100000
	mostTested = 1000000000000
	mostRooted = 4000000000000000000
)

var badSides = []int{-4, -3, -1, 0, 1, 2, 25, 26, 100}

// piledNumbers returns the polygonal numbers of the places 0, 1, .., up to the first one
// greater than most, each the one before and a gnomon that grows by sides - 2.
func piledNumbers(sides int, most int) []int {
	numbers := []int{0}
	for gnomon := 1; numbers[len(numbers)-1] <= most; gnomon += sides - 2 {
		numbers = append(numbers, numbers[len(numbers)-1]+gnomon)
	}
	return numbers
}

// piledCentred returns the centred numbers of the places 1, 2, .., each with a polygon more
// around the one before.
func piledCentred(sides int, most int) []int {
	numbers := []int{1}
	for around := sides; numbers[len(numbers)-1] <= most; around += sides {
		numbers = append(numbers, numbers[len(numbers)-1]+around)
	}
	return numbers
}

func forAllSides(check func(sides int)) {
	for sides := 3; sides <= mostSides; sides++ {
		check(sides)
	}
}

// wantInt checks a call that is described by name and arguments: its number if it is to
// succeed, and that it is 0 if it is to fail.
func wantInt(t *testing.T, call string, a int, b int, got int, ok bool, want int, wantOk bool) {
	t.Helper()
	if got != want || ok != wantOk {
		t.Fatalf("%s of %d and %d is %d, %v, not %d, %v", call, a, b, got, ok, want, wantOk)
	}
}

func TestShapeLimits(t *testing.T) {
	if impl.MaxSides != mostSides || impl.MaxPlace != mostPlace || impl.MaxTested != mostTested {
		t.Error("limits", impl.MaxSides, impl.MaxPlace, impl.MaxTested)
	}
}

func TestShapeExample(t *testing.T) {
	number, ok := impl.PolygonNumber(5, 3)
	wantInt(t, "PolygonNumber", 5, 3, number, ok, 12, true)
	gnomon, ok := impl.GnomonOf(5, 3)
	wantInt(t, "GnomonOf", 5, 3, gnomon, ok, 7, true)
	for place, want := range map[int]int{1: 1, -1: 2, 2: 5, -2: 7} {
		wide, ok := impl.WideNumber(5, place)
		wantInt(t, "WideNumber", 5, place, wide, ok, want, true)
	}
	for i, want := range []int{1, 7, 19} {
		centred, ok := impl.CentredNumber(6, i+1)
		wantInt(t, "CentredNumber", 6, i+1, centred, ok, want, true)
	}
	shapes, ok := impl.ShapesOf(36)
	if !ok || !slices.Equal(shapes, []impl.Shape{{Sides: 3, Place: 8}, {Sides: 4, Place: 6}, {Sides: 13, Place: 3}}) {
		t.Error("ShapesOf 36", shapes, ok)
	}
	count, ok := impl.CountUpTo(3, 10)
	wantInt(t, "CountUpTo", 3, 10, count, ok, 4, true)
}

func TestPolygonNumber(t *testing.T) {
	forAllSides(func(sides int) {
		for place, want := range piledNumbers(sides, 100000) {
			got, ok := impl.PolygonNumber(sides, place)
			wantInt(t, "PolygonNumber", sides, place, got, ok, want, true)
		}
	})
	for place, want := range []int{0, 1, 3, 6, 10} {
		got, ok := impl.PolygonNumber(3, place)
		wantInt(t, "PolygonNumber", 3, place, got, ok, want, true)
	}
	for sides, want := range map[int]int{3: 5000050000, 4: 10000000000, 24: 109999000000} {
		got, ok := impl.PolygonNumber(sides, mostPlace)
		wantInt(t, "PolygonNumber", sides, mostPlace, got, ok, want, true)
	}
}

func TestPolygonNumberFails(t *testing.T) {
	for _, sides := range badSides {
		got, ok := impl.PolygonNumber(sides, 3)
		wantInt(t, "PolygonNumber", sides, 3, got, ok, 0, false)
	}
	forAllSides(func(sides int) {
		for _, place := range []int{-mostPlace, -2, -1, mostPlace + 1} {
			got, ok := impl.PolygonNumber(sides, place)
			wantInt(t, "PolygonNumber", sides, place, got, ok, 0, false)
		}
	})
}

// TestFoundAgain checks that polygonal numbers are found again by their places, and that no
// other number has one.
func TestFoundAgain(t *testing.T) {
	forAllSides(func(sides int) {
		numbers := piledNumbers(sides, 5000)
		for n := 0; n <= 5000; n++ {
			want, polygonal := slices.BinarySearch(numbers, n)
			if !polygonal {
				want = 0
			}
			place, ok := impl.PlaceOf(sides, n)
			wantInt(t, "PlaceOf", sides, n, place, ok, want, polygonal)
			if is, ok := impl.IsPolygonal(sides, n); is != polygonal || !ok {
				t.Fatal("IsPolygonal", sides, n, is, ok)
			}
		}
		for place := 0; place <= mostPlace; place += 7 + place%5 {
			number, _ := impl.PolygonNumber(sides, place)
			again, ok := impl.PlaceOf(sides, number)
			wantInt(t, "PlaceOf", sides, number, again, ok, place, true)
		}
	})
}

// TestFoundAgainFar has places greater than MaxPlace, which bounds arguments only.
func TestFoundAgainFar(t *testing.T) {
	forAllSides(func(sides int) {
		numbers := piledNumbers(sides, mostTested)
		for _, place := range []int{mostPlace, mostPlace + 1, len(numbers) - 3, len(numbers) - 2} {
			number := numbers[place]
			again, ok := impl.PlaceOf(sides, number)
			wantInt(t, "PlaceOf", sides, number, again, ok, place, true)
			for _, other := range []int{number - 1, number + 1} {
				again, ok := impl.PlaceOf(sides, other)
				wantInt(t, "PlaceOf", sides, other, again, ok, 0, false)
				if is, ok := impl.IsPolygonal(sides, other); is || ok != (other <= mostTested) {
					t.Fatal("IsPolygonal", sides, other, is, ok)
				}
			}
		}
	})
	place, ok := impl.PlaceOf(4, mostTested)
	wantInt(t, "PlaceOf", 4, mostTested, place, ok, 1000000, true)
}

func TestFoundAgainFails(t *testing.T) {
	for _, sides := range badSides {
		place, ok := impl.PlaceOf(sides, 1)
		wantInt(t, "PlaceOf", sides, 1, place, ok, 0, false)
		if is, ok := impl.IsPolygonal(sides, 1); is || ok {
			t.Error("IsPolygonal", sides, is, ok)
		}
	}
	// The square of 1000001, the triangular number of 2000000, and numbers below 0.
	for sides, numbers := range map[int][]int{3: {-1, -3, 2000001000000}, 4: {-1, mostTested + 1, 1000002000001}, 24: {-1, mostTested + 1}} {
		for _, n := range numbers {
			place, ok := impl.PlaceOf(sides, n)
			wantInt(t, "PlaceOf", sides, n, place, ok, 0, false)
			if is, ok := impl.IsPolygonal(sides, n); is || ok {
				t.Error("IsPolygonal", sides, n, is, ok)
			}
		}
	}
}

func TestGnomonOf(t *testing.T) {
	forAllSides(func(sides int) {
		numbers := piledNumbers(sides, 100000)
		for place := 1; place < len(numbers); place++ {
			got, ok := impl.GnomonOf(sides, place)
			wantInt(t, "GnomonOf", sides, place, got, ok, numbers[place]-numbers[place-1], true)
		}
		last, _ := impl.PolygonNumber(sides, mostPlace)
		before, _ := impl.PolygonNumber(sides, mostPlace-1)
		got, ok := impl.GnomonOf(sides, mostPlace)
		wantInt(t, "GnomonOf", sides, mostPlace, got, ok, last-before, true)
		for _, place := range []int{-1, 0, mostPlace + 1} {
			got, ok := impl.GnomonOf(sides, place)
			wantInt(t, "GnomonOf", sides, place, got, ok, 0, false)
		}
	})
	for _, sides := range badSides {
		got, ok := impl.GnomonOf(sides, 3)
		wantInt(t, "GnomonOf", sides, 3, got, ok, 0, false)
	}
}

func TestNextAndCount(t *testing.T) {
	forAllSides(func(sides int) {
		numbers := piledNumbers(sides, 5000)
		count := 0
		for n := 0; n <= 5000; n++ {
			if numbers[count+1] == n {
				count++
			}
			next, ok := impl.NextPolygonal(sides, n)
			wantInt(t, "NextPolygonal", sides, n, next, ok, numbers[count+1], true)
			got, ok := impl.CountUpTo(sides, n)
			wantInt(t, "CountUpTo", sides, n, got, ok, count, true)
		}
		far := piledNumbers(sides, mostTested)
		next, ok := impl.NextPolygonal(sides, mostTested)
		wantInt(t, "NextPolygonal", sides, mostTested, next, ok, far[len(far)-1], true)
		got, ok := impl.CountUpTo(sides, mostTested)
		wantInt(t, "CountUpTo", sides, mostTested, got, ok, len(far)-2, true)
	})
	next, ok := impl.NextPolygonal(4, mostTested)
	wantInt(t, "NextPolygonal", 4, mostTested, next, ok, 1000002000001, true)
}

func TestNextAndCountFail(t *testing.T) {
	fails := func(sides int, n int) {
		next, ok := impl.NextPolygonal(sides, n)
		wantInt(t, "NextPolygonal", sides, n, next, ok, 0, false)
		count, ok := impl.CountUpTo(sides, n)
		wantInt(t, "CountUpTo", sides, n, count, ok, 0, false)
	}
	for _, sides := range badSides {
		fails(sides, 10)
	}
	forAllSides(func(sides int) {
		fails(sides, -1)
		fails(sides, mostTested+1)
	})
}

func TestPolygonalUpTo(t *testing.T) {
	forAllSides(func(sides int) {
		piled := piledNumbers(sides, 100000)
		for _, most := range []int{0, 1, 2, 3, sides - 1, sides, sides + 1, 999, 99999, 100000} {
			var want []int
			for _, n := range piled[1:] {
				if n <= most {
					want = append(want, n)
				}
			}
			got, ok := impl.PolygonalUpTo(sides, most)
			if !slices.Equal(got, want) || !ok {
				t.Fatal("PolygonalUpTo", sides, most, got, ok)
			}
		}
		for _, most := range []int{-1, 100001} {
			if got, ok := impl.PolygonalUpTo(sides, most); got != nil || ok {
				t.Fatal("PolygonalUpTo", sides, most, got, ok)
			}
		}
	})
	for _, sides := range badSides {
		if got, ok := impl.PolygonalUpTo(sides, 10); got != nil || ok {
			t.Error("PolygonalUpTo", sides, got, ok)
		}
	}
}

func TestWideNumber(t *testing.T) {
	forAllSides(func(sides int) {
		// A place less by 1 has less by the gnomon, on the other side of 0 as well.
		want := 0
		for place := 0; place >= -500; place-- {
			got, ok := impl.WideNumber(sides, place)
			wantInt(t, "WideNumber", sides, place, got, ok, want, true)
			want -= (sides-2)*(place-1) + 1
		}
		for place := 0; place <= 500; place++ {
			want, _ := impl.PolygonNumber(sides, place)
			got, ok := impl.WideNumber(sides, place)
			wantInt(t, "WideNumber", sides, place, got, ok, want, true)
		}
		for _, place := range []int{-mostPlace - 1, mostPlace + 1} {
			got, ok := impl.WideNumber(sides, place)
			wantInt(t, "WideNumber", sides, place, got, ok, 0, false)
		}
	})
	for sides, want := range map[int]int{3: 4999950000, 4: 10000000000, 24: 110001000000} {
		got, ok := impl.WideNumber(sides, -mostPlace)
		wantInt(t, "WideNumber", sides, -mostPlace, got, ok, want, true)
	}
	got, ok := impl.WideNumber(24, mostPlace)
	wantInt(t, "WideNumber", 24, mostPlace, got, ok, 109999000000, true)
	for _, sides := range badSides {
		got, ok := impl.WideNumber(sides, -1)
		wantInt(t, "WideNumber", sides, -1, got, ok, 0, false)
	}
}

// widePlaces returns the places of wide numbers up to most, found in the order of their sizes
// with the one greater than 0 first.
func widePlaces(sides int, most int) map[int]int {
	places := map[int]int{0: 0}
	for size := 1; (sides-2)*size*size-(sides-4)*size <= 4*most; size++ {
		for _, place := range []int{size, -size} {
			number := ((sides-2)*place*place - (sides-4)*place) / 2
			if _, known := places[number]; !known {
				places[number] = place
			}
		}
	}
	return places
}

func TestWidePlace(t *testing.T) {
	forAllSides(func(sides int) {
		places := widePlaces(sides, 5000)
		for n := 0; n <= 5000; n++ {
			want, wide := places[n]
			got, ok := impl.WidePlace(sides, n)
			wantInt(t, "WidePlace", sides, n, got, ok, want, wide)
		}
		for _, size := range []int{70000, mostPlace} {
			number, _ := impl.WideNumber(sides, -size)
			want := -size
			if sides == 3 { // the number of the place size - 1, too
				want = size - 1
			} else if sides == 4 {
				want = size
			}
			got, ok := impl.WidePlace(sides, number)
			wantInt(t, "WidePlace", sides, number, got, ok, want, true)
			got, ok = impl.WidePlace(sides, number+2)
			wantInt(t, "WidePlace", sides, number+2, got, ok, 0, false)
		}
	})
	// Places of sizes greater than MaxPlace: 500000 below 0 with five sides, and 1000000.
	got, ok := impl.WidePlace(5, 375000250000)
	wantInt(t, "WidePlace", 5, 375000250000, got, ok, -500000, true)
	got, ok = impl.WidePlace(4, mostTested)
	wantInt(t, "WidePlace", 4, mostTested, got, ok, 1000000, true)
}

func TestWidePlaceFails(t *testing.T) {
	for _, sides := range badSides {
		got, ok := impl.WidePlace(sides, 1)
		wantInt(t, "WidePlace", sides, 1, got, ok, 0, false)
	}
	// The wide number of 5 sides and -816497, and the square of 1000001.
	for sides, n := range map[int]int{5: 1000001434762, 4: 1000002000001} {
		for _, n := range []int{n, -1, mostTested + 1} {
			got, ok := impl.WidePlace(sides, n)
			wantInt(t, "WidePlace", sides, n, got, ok, 0, false)
		}
	}
}

func TestCentredNumber(t *testing.T) {
	forAllSides(func(sides int) {
		for i, want := range piledCentred(sides, 100000) {
			got, ok := impl.CentredNumber(sides, i+1)
			wantInt(t, "CentredNumber", sides, i+1, got, ok, want, true)
		}
		for _, place := range []int{-1, 0, mostPlace + 1} {
			got, ok := impl.CentredNumber(sides, place)
			wantInt(t, "CentredNumber", sides, place, got, ok, 0, false)
		}
	})
	for sides, want := range map[int]int{3: 14999850001, 24: 119998800001} {
		got, ok := impl.CentredNumber(sides, mostPlace)
		wantInt(t, "CentredNumber", sides, mostPlace, got, ok, want, true)
	}
	for _, sides := range badSides {
		got, ok := impl.CentredNumber(sides, 2)
		wantInt(t, "CentredNumber", sides, 2, got, ok, 0, false)
	}
}

func TestCentredPlace(t *testing.T) {
	forAllSides(func(sides int) {
		numbers := piledCentred(sides, 5000)
		for n := 0; n <= 5000; n++ {
			at, centred := slices.BinarySearch(numbers, n)
			want := 0
			if centred {
				want = at + 1
			}
			got, ok := impl.CentredPlace(sides, n)
			wantInt(t, "CentredPlace", sides, n, got, ok, want, centred)
		}
		far := piledCentred(sides, mostTested)
		for _, place := range []int{mostPlace, mostPlace + 1, len(far) - 1} {
			got, ok := impl.CentredPlace(sides, far[place-1])
			wantInt(t, "CentredPlace", sides, far[place-1], got, ok, place, true)
		}
		for _, n := range []int{-1, mostTested + 1, far[len(far)-1]} {
			got, ok := impl.CentredPlace(sides, n)
			wantInt(t, "CentredPlace", sides, n, got, ok, 0, false)
		}
	})
	for _, sides := range badSides {
		got, ok := impl.CentredPlace(sides, 1)
		wantInt(t, "CentredPlace", sides, 1, got, ok, 0, false)
	}
}

func TestShapesOf(t *testing.T) {
	piled := map[int][]int{}
	forAllSides(func(sides int) { piled[sides] = piledNumbers(sides, 1000000) })
	numbers := []int{36, 999999, 1000000}
	for n := 0; n <= 4000; n++ {
		numbers = append(numbers, n)
	}
	numbers = append(numbers, piled[3][:len(piled[3])-1]...)
	for _, n := range numbers {
		var want []impl.Shape
		forAllSides(func(sides int) {
			if place, found := slices.BinarySearch(piled[sides], n); found && place >= 3 {
				want = append(want, impl.Shape{Sides: sides, Place: place})
			}
		})
		got, ok := impl.ShapesOf(n)
		if !slices.Equal(got, want) || !ok {
			t.Fatal("ShapesOf", n, got, ok, want)
		}
	}
	// 1000405 is the triangular number of 1414.
	for _, n := range []int{-1, 1000001, 1000405} {
		if got, ok := impl.ShapesOf(n); got != nil || ok {
			t.Error("ShapesOf", n, got, ok)
		}
	}
}

// TestSquareTestOfPolygonal checks that tests of polygonal numbers are exactly the squares told.
func TestSquareTestOfPolygonal(t *testing.T) {
	forAllSides(func(sides int) {
		for place := 0; place <= mostPlace; place += 1 + place/3 {
			number, _ := impl.PolygonNumber(sides, place)
			root := 2*(sides-2)*place - (sides - 4)
			got, ok := impl.SquareTest(sides, number)
			wantInt(t, "SquareTest", sides, number, got, ok, root*root, true)
			found, ok := impl.RootOf(got)
			wantInt(t, "RootOf", got, 0, found, ok, max(root, -root), true)
		}
	})
}

// TestSquareTestTells checks that a number is polygonal just if its test is the square of
// 2 (s - 2) k - (s - 4) for some k of at least 0, and wide just if it is for any k. With three
// and four sides any square is one for a k of at least 0; with more sides some are not, as those
// of 2 with five sides, which is wide only, and of 4 with 14 sides, which is neither.
func TestSquareTestTells(t *testing.T) {
	forAllSides(func(sides int) {
		for n := 0; n <= 5000; n++ {
			test, ok := impl.SquareTest(sides, n)
			wantInt(t, "SquareTest", sides, n, test, ok, 8*(sides-2)*n+(sides-4)*(sides-4), true)
			root, _ := impl.RootOf(test)
			square := root*root == test
			places, wide := 0, 0
			for _, signed := range []int{root, -root} {
				if square && (signed+sides-4)%(2*(sides-2)) == 0 {
					wide++
					if signed+sides-4 >= 0 {
						places++
					}
				}
			}
			polygonal, _ := impl.IsPolygonal(sides, n)
			if _, isWide := impl.WidePlace(sides, n); polygonal != (places > 0) || isWide != (wide > 0) {
				t.Fatal("test tells other than place", sides, n, test, polygonal, isWide)
			}
			if sides <= 4 && square != polygonal {
				t.Fatal("any square tells", sides, n, test, polygonal)
			}
		}
	})
}

func TestSquareTestOfOthers(t *testing.T) {
	for _, c := range []struct{ sides, n, want int }{{5, 2, 49}, {14, 4, 484}, {3, 2, 17}} {
		got, ok := impl.SquareTest(c.sides, c.n)
		wantInt(t, "SquareTest", c.sides, c.n, got, ok, c.want, true)
		if is, ok := impl.IsPolygonal(c.sides, c.n); is || !ok {
			t.Error("IsPolygonal", c.sides, c.n, is, ok)
		}
	}
}

func TestSquareTestLimits(t *testing.T) {
	for sides, want := range map[int]int{3: 8000000000001, 4: 16000000000000, 24: 176000000000400} {
		got, ok := impl.SquareTest(sides, mostTested)
		wantInt(t, "SquareTest", sides, mostTested, got, ok, want, true)
		for _, n := range []int{-1, mostTested + 1} {
			got, ok := impl.SquareTest(sides, n)
			wantInt(t, "SquareTest", sides, n, got, ok, 0, false)
		}
	}
	for _, sides := range badSides {
		got, ok := impl.SquareTest(sides, 1)
		wantInt(t, "SquareTest", sides, 1, got, ok, 0, false)
	}
}

func TestRootOf(t *testing.T) {
	root := 0
	for n := 0; n <= 20000; n++ {
		if (root+1)*(root+1) == n {
			root++
		}
		got, ok := impl.RootOf(n)
		wantInt(t, "RootOf", n, 0, got, ok, root, true)
	}
	for root := 3; root < 2000000000; root += root / 3 {
		for n, want := range map[int]int{root*root - 1: root - 1, root * root: root, root*root + 1: root, root*root + 2*root: root} {
			got, ok := impl.RootOf(n)
			wantInt(t, "RootOf", n, 0, got, ok, want, true)
		}
	}
	for n, want := range map[int]int{mostRooted - 1: 1999999999, mostRooted: 2000000000} {
		got, ok := impl.RootOf(n)
		wantInt(t, "RootOf", n, 0, got, ok, want, true)
	}
	for _, n := range []int{-1, -4, mostRooted + 1} {
		got, ok := impl.RootOf(n)
		wantInt(t, "RootOf", n, 0, got, ok, 0, false)
	}
}
