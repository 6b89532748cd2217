package impl

import (
	"strconv"
	"strings"
)

const MaxSides = 24
const MaxPlace = 100000
const MaxTested = 1000000000000

// Limits that the chapter states without naming them.
const (
	minSides        = 3
	leastShapePlace = 3
	maxShaped       = 1000000
	maxUpTo         = 100000
	maxRooted       = 4000000000000000000
)

// Ends of the searches: each rule has a number greater than MaxTested at beyondPlaces,
// and neither its numbers there nor the square of beyondRoots overflow.
const (
	beyondPlaces = 1 << 21
	beyondRoots  = 2000000001
)

type Shape struct {
	Sides int
	Place int
}

// numberRule is a quadratic rule that tells numbers by their places: its constant and its
// factors of the place and of the square of the place. They are doubled to be whole numbers.
type numberRule [3]int

func polygonRule(sides int) numberRule {
	return numberRule{0, 4 - sides, sides - 2}
}

// polygonRuleBelow is for the sizes of places less than 0.
func polygonRuleBelow(sides int) numberRule {
	return numberRule{0, sides - 4, sides - 2}
}

func centredRule(sides int) numberRule {
	return numberRule{2, -sides, sides}
}

func (r numberRule) numberAt(place int) int {
	return (r[0] + r[1]*place + r[2]*place*place) / 2
}

func (r numberRule) lastPlaceUpTo(n int) int {
	return lastThatFits(beyondPlaces, func(place int) bool { return r.numberAt(place) <= n })
}

func (r numberRule) placeOf(n int) (int, bool) {
	return placeBelow(beyondPlaces, n, r.numberAt)
}

// placeBelow returns the place below beyond that has the number n. It takes for granted that
// no number is less than one of a place before, and fails if no place has n.
func placeBelow(beyond int, n int, numberAt func(place int) int) (int, bool) {
	place := lastThatFits(beyond, func(place int) bool { return numberAt(place) <= n })
	if numberAt(place) != n {
		return 0, false
	}
	return place, true
}

// lastThatFits returns the greatest number from 1 up to below beyond that fits, or 0 if none
// does. It takes for granted that none fits behind one that does not.
func lastThatFits(beyond int, fits func(int) bool) int {
	last := 0
search:
	for {
		middle := last + (beyond-last)/2
		switch {
		case middle == last:
			break search
		case fits(middle):
			last = middle
		default:
			beyond = middle
		}
	}
	return last
}

func isWithin(n int, least int, most int) bool {
	return least <= n && n <= most
}

func areSides(sides int) bool {
	return isWithin(sides, minSides, MaxSides)
}

func areSidesAndPlace(sides int, place int, leastPlace int) bool {
	return areSides(sides) && isWithin(place, leastPlace, MaxPlace)
}

func areSidesAndTested(sides int, n int) bool {
	return areSides(sides) && isWithin(n, 0, MaxTested)
}

// PolygonNumber returns the polygonal number.
func PolygonNumber(sides int, place int) (int, bool) {
	if !areSidesAndPlace(sides, place, 0) {
		return 0, false
	}
	return polygonRule(sides).numberAt(place), true
}

// PlaceOf returns the place of a polygonal number, for 0 the place 0. It fails for other numbers.
func PlaceOf(sides int, n int) (int, bool) {
	if !areSidesAndTested(sides, n) {
		return 0, false
	}
	return polygonRule(sides).placeOf(n)
}

// IsPolygonal reports whether n is polygonal.
func IsPolygonal(sides int, n int) (bool, bool) {
	if !areSidesAndTested(sides, n) {
		return false, false
	}
	_, polygonal := polygonRule(sides).placeOf(n)
	return polygonal, true
}

// GnomonOf returns the gnomon, place at least 1: (s - 2) (k - 1) and 1 together.
func GnomonOf(sides int, place int) (int, bool) {
	if !areSidesAndPlace(sides, place, 1) {
		return 0, false
	}
	return (sides-2)*(place-1) + 1, true
}

// NextPolygonal returns the least polygonal number greater than n.
func NextPolygonal(sides int, n int) (int, bool) {
	if !areSidesAndTested(sides, n) {
		return 0, false
	}
	rule := polygonRule(sides)
	return rule.numberAt(rule.lastPlaceUpTo(n) + 1), true
}

// CountUpTo returns how many polygonal numbers of at least 1 there are up to n.
func CountUpTo(sides int, n int) (int, bool) {
	if !areSidesAndTested(sides, n) {
		return 0, false
	}
	return polygonRule(sides).lastPlaceUpTo(n), true
}

// PolygonalUpTo returns those in 1..most, most in 0..100000, increasing.
func PolygonalUpTo(sides int, most int) ([]int, bool) {
	if !areSides(sides) || !isWithin(most, 0, maxUpTo) {
		return nil, false
	}
	rule := polygonRule(sides)
	var numbers []int
	for place := 1; rule.numberAt(place) <= most; place++ {
		numbers = append(numbers, rule.numberAt(place))
	}
	return numbers, true
}

// WideNumber returns the wide number of a place, in -MaxPlace..MaxPlace.
func WideNumber(sides int, place int) (int, bool) {
	if !areSidesAndPlace(sides, place, -MaxPlace) {
		return 0, false
	}
	return polygonRule(sides).numberAt(place), true
}

// WidePlace returns the place of a wide number, that with the least size, of two as great the one greater than 0. It fails for other numbers.
func WidePlace(sides int, n int) (int, bool) {
	if !areSidesAndTested(sides, n) {
		return 0, false
	}
	// Only triangular numbers and squares have a place of each sign, and there the one
	// below 0 is never of less size.
	if place, ok := polygonRule(sides).placeOf(n); ok {
		return place, true
	}
	size, ok := polygonRuleBelow(sides).placeOf(n)
	return -size, ok
}

// CentredNumber returns the centred number, place at least 1.
func CentredNumber(sides int, place int) (int, bool) {
	if !areSidesAndPlace(sides, place, 1) {
		return 0, false
	}
	return centredRule(sides).numberAt(place), true
}

// CentredPlace returns the place of a centred number. It fails for other numbers.
func CentredPlace(sides int, n int) (int, bool) {
	if !areSidesAndTested(sides, n) {
		return 0, false
	}
	return centredRule(sides).placeOf(n)
}

// ShapesOf returns all shapes with a place of at least 3 whose polygonal number is n, n in 0..1000000, with the fewest sides first.
func ShapesOf(n int) ([]Shape, bool) {
	if !isWithin(n, 0, maxShaped) {
		return nil, false
	}
	var shapes []Shape
	for sides := minSides; sides <= MaxSides; sides++ {
		if shape := shapeWith(sides, n); shape != (Shape{}) {
			shapes = append(shapes, shape)
		}
	}
	return shapes, true
}

// shapeWith returns the zero shape, which no number has, if n has none of these sides.
func shapeWith(sides int, n int) Shape {
	place, ok := polygonRule(sides).placeOf(n)
	if !ok || place < leastShapePlace {
		return Shape{}
	}
	return Shape{Sides: sides, Place: place}
}

// SquareTest returns 8 (s - 2) n and (s - 4) (s - 4) together: the square of 2 (s - 2) k - (s - 4) for the polygonal number of k.
func SquareTest(sides int, n int) (int, bool) {
	if !areSidesAndTested(sides, n) {
		return 0, false
	}
	return 8*(sides-2)*n + (sides-4)*(sides-4), true
}

// RootOf returns the greatest number whose square is no greater than n, in 0..4 times 10^18.
func RootOf(n int) (int, bool) {
	if !isWithin(n, 0, maxRooted) {
		return 0, false
	}
	return lastThatFits(beyondRoots, func(root int) bool { return root*root <= n }), true
}

// ShapeText returns Sides, : and Place, for any Sides told above and a Place in 0..MaxPlace.
func ShapeText(s Shape) (string, bool) {
	if !areSidesAndPlace(s.Sides, s.Place, 0) {
		return "", false
	}
	return strconv.Itoa(s.Sides) + ":" + strconv.Itoa(s.Place), true
}

// ParseShape returns the shape with a ShapeText. It fails if there is none.
func ParseShape(s string) (Shape, bool) {
	left, right, _ := strings.Cut(s, ":")
	// The text of what was read decides: it differs from s wherever a number could not be
	// read, and for signs and superfluous zeros, which Atoi allows.
	sides, _ := strconv.Atoi(left)
	place, _ := strconv.Atoi(right)
	shape := Shape{Sides: sides, Place: place}
	if text, ok := ShapeText(shape); !ok || text != s {
		return Shape{}, false
	}
	return shape, true
}
