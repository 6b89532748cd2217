package tests

import (
	"fmt"
	"math"
	"slices"
	"strings"
	"testing"

	"loop.example/g01250/impl"
)

func TestShapeText(t *testing.T) {
	for text, shape := range map[string]impl.Shape{
		"3:0":       {Sides: 3},
		"3:8":       {Sides: 3, Place: 8},
		"13:3":      {Sides: 13, Place: 3},
		"24:100000": {Sides: 24, Place: 100000},
	} {
		if got, ok := impl.ShapeText(shape); got != text || !ok {
			t.Error("ShapeText", shape, got, ok)
		}
	}
	forAllSides(func(sides int) {
		for place := 0; place <= mostPlace; place += 1 + place/5 {
			shape := impl.Shape{Sides: sides, Place: place}
			text, ok := impl.ShapeText(shape)
			if text != fmt.Sprintf("%d:%d", sides, place) || !ok {
				t.Fatal("ShapeText", shape, text, ok)
			}
			if again, ok := impl.ParseShape(text); again != shape || !ok {
				t.Fatal("ParseShape", text, again, ok)
			}
		}
	})
}

func TestShapeTextFails(t *testing.T) {
	for _, shape := range []impl.Shape{{}, {Sides: 2, Place: 3}, {Sides: 25, Place: 3}, {Sides: -3, Place: 3}, {Sides: 3, Place: -1}, {Sides: 24, Place: 100001}} {
		if text, ok := impl.ShapeText(shape); text != "" || ok {
			t.Error("ShapeText", shape, text, ok)
		}
		if again, ok := impl.ParseShape(fmt.Sprintf("%d:%d", shape.Sides, shape.Place)); again != (impl.Shape{}) || ok {
			t.Error("ParseShape", shape, again, ok)
		}
	}
}

func TestParseShapeFails(t *testing.T) {
	for _, text := range []string{
		"", ":", "3", "3:", ":8", "38", "3;8", "3:8:", ":3:8", "3:8:1", "3::8", "3: 8", " 3:8", "3:8 ", "3 :8", "3:8\n", "\x003:8", "3:8\x00",
		"03:8", "3:08", "3:00", "3:-0", "+3:8", "3:+8", "-3:8", "3:-8", "3:0x8", "0x3:8", "3:1_0", "1_0:3", "3:8.0", "3:8e0", "3:1e2",
		"a:8", "3:a", "3:8a", "a3:8", "\xff:8", "3:\xff", "3:\u0668", "\u0663:8", "3\uff1a8",
		"18446744073709551619:8", "3:18446744073709551624", "3:9223372036854775808", "3:-9223372036854775809",
	} {
		if shape, ok := impl.ParseShape(text); shape != (impl.Shape{}) || ok {
			t.Errorf("ParseShape of %q is %v, %v", text, shape, ok)
		}
	}
}

// TestParseShapeOfAnyText checks for texts of any bytes that none but a ShapeText is parsed.
func TestParseShapeOfAnyText(t *testing.T) {
	check := func(text string) {
		shape, ok := impl.ParseShape(text)
		again, valid := impl.ShapeText(shape)
		if (valid != ok || ok && again != text || !ok && shape != (impl.Shape{})) && !t.Failed() {
			t.Errorf("ParseShape of %.99q is %v, %v", text, shape, ok)
		}
	}
	inTime(t, func() {
		for first := range 256 {
			check(string([]byte{byte(first)}))
			for second := range 256 {
				check(string([]byte{byte(first), byte(second)}))
				check(string([]byte{byte(first), ':', byte(second)}))
				check(string([]byte{'1', byte(first), ':', byte(second), '7'}))
			}
		}
		for _, part := range []string{"0", "9", ":", "3:8", "-", "\xff", "\x00", " ", "3:"} {
			long := strings.Repeat(part, 1000000)
			for _, text := range []string{long, "3:" + long, long + ":8", long + "3:8", "3:8" + long} {
				check(text)
			}
		}
	})
}

// TestShapeCallsOfAnySize calls every function of the chapter with arguments of any size: none
// panics or runs long, and each succeeds just for the arguments that it is told to take, or for
// fewer where it fails for numbers of another kind.
func TestShapeCallsOfAnySize(t *testing.T) {
	edges := edgeInts(mostPlace, 1000000, mostTested, mostRooted, 2000000000, 1<<31, 1<<32, 1<<62)
	inTime(t, func() {
		for _, a := range edges {
			checkOneArgument(t, a)
			for _, b := range edges {
				checkPlaceCalls(t, a, b)
				checkNumberCalls(t, a, b)
				checkListAndTextCalls(t, a, b)
			}
		}
	})
}

func checkOneArgument(t *testing.T, n int) {
	shapes, ok := impl.ShapesOf(n)
	if ok != isIn(n, 0, 1000000) || !ok && shapes != nil {
		t.Error("ShapesOf", n, shapes, ok)
	}
	root, ok := impl.RootOf(n)
	if ok != isIn(n, 0, mostRooted) || !ok && root != 0 {
		t.Error("RootOf", n, root, ok)
	}
}

func checkPlaceCalls(t *testing.T, sides int, place int) {
	calls := []struct {
		name  string
		call  func(int, int) (int, bool)
		least int
	}{
		{"PolygonNumber", impl.PolygonNumber, 0},
		{"GnomonOf", impl.GnomonOf, 1},
		{"WideNumber", impl.WideNumber, -mostPlace},
		{"CentredNumber", impl.CentredNumber, 1},
	}
	for _, c := range calls {
		got, ok := c.call(sides, place)
		if ok != (isIn(sides, 3, mostSides) && isIn(place, c.least, mostPlace)) || !ok && got != 0 || got < 0 {
			t.Error(c.name, sides, place, got, ok)
		}
	}
}

func checkNumberCalls(t *testing.T, sides int, n int) {
	valid := isIn(sides, 3, mostSides) && isIn(n, 0, mostTested)
	calls := []struct {
		name   string
		call   func(int, int) (int, bool)
		always bool
	}{
		{"PlaceOf", impl.PlaceOf, false},
		{"NextPolygonal", impl.NextPolygonal, true},
		{"CountUpTo", impl.CountUpTo, true},
		{"WidePlace", impl.WidePlace, false},
		{"CentredPlace", impl.CentredPlace, false},
		{"SquareTest", impl.SquareTest, true},
	}
	for _, c := range calls {
		got, ok := c.call(sides, n)
		if ok && !valid || !ok && (got != 0 || valid && c.always) {
			t.Error(c.name, sides, n, got, ok)
		}
	}
	if is, ok := impl.IsPolygonal(sides, n); ok != valid || is && !ok {
		t.Error("IsPolygonal", sides, n, is, ok)
	}
}

func checkListAndTextCalls(t *testing.T, sides int, n int) {
	list, ok := impl.PolygonalUpTo(sides, n)
	if ok != (isIn(sides, 3, mostSides) && isIn(n, 0, 100000)) || !ok && list != nil {
		t.Error("PolygonalUpTo", sides, n, list, ok)
	}
	shape := impl.Shape{Sides: sides, Place: n}
	text, ok := impl.ShapeText(shape)
	if ok != (isIn(sides, 3, mostSides) && isIn(n, 0, mostPlace)) || !ok && text != "" {
		t.Error("ShapeText", shape, text, ok)
	}
	parsed, parsedOk := impl.ParseShape(fmt.Sprintf("%d:%d", sides, n))
	if parsedOk != ok || ok && parsed != shape || !ok && parsed != (impl.Shape{}) {
		t.Error("ParseShape", shape, parsed, parsedOk)
	}
}

// TestShapeListsAreNew checks that a result that is changed changes no later one.
func TestShapeListsAreNew(t *testing.T) {
	first, _ := impl.PolygonalUpTo(3, 10)
	for i := range first {
		first[i] = math.MaxInt
	}
	if again, ok := impl.PolygonalUpTo(3, 10); !slices.Equal(again, []int{1, 3, 6, 10}) || !ok {
		t.Error("PolygonalUpTo", again, ok)
	}
	shapes, _ := impl.ShapesOf(15)
	for i := range shapes {
		shapes[i] = impl.Shape{}
	}
	want := []impl.Shape{{Sides: 3, Place: 5}, {Sides: 6, Place: 3}}
	if again, ok := impl.ShapesOf(15); !slices.Equal(again, want) || !ok {
		t.Error("ShapesOf", again, ok)
	}
}

func FuzzParseShape(f *testing.F) {
	for _, seed := range []string{"3:8", "24:100000", "3:0", "03:8", "", ":", "\xff"} {
		f.Add(seed)
	}
	f.Fuzz(func(t *testing.T, text string) {
		shape, ok := impl.ParseShape(text)
		if again, valid := impl.ShapeText(shape); valid != ok || ok && again != text || !ok && shape != (impl.Shape{}) {
			t.Errorf("ParseShape of %.99q is %v, %v", text, shape, ok)
		}
	})
}
