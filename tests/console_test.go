package tests

import (
	"fmt"
	"math"
	"regexp"
	"slices"
	"strconv"
	"strings"
	"testing"

	"loop.example/g01250/impl"
)

// The numbers are stated here once more, so that a changed limit is found.
const (
	mostScript = 3000
	mostLines  = 50
	mostWord   = 999999
)

var firstDesk = impl.Desk{Sides: 3, Picture: "o"}

// kindsOfWords tells for each first word of a line what the words behind it are, one sign for each: a
// number N, a list L, a picture P or the text S of a puzzle.
var kindsOfWords = map[string]string{
	"sides": "N", "picture": "P", "triangle": "N", "square": "N", "hexagon": "N",
	"turn": "", "mirror": "", "other": "", "peel": "", "show": "", "dots": "", "layers": "",
	"number": "N", "place": "N", "gnomon": "N", "centred": "N", "sum": "N", "pyramid": "N",
	"shared": "NN", "apart": "N", "form": "L", "solve": "S",
}

var (
	signsOfWordNumber = regexp.MustCompile(`\A(0|[1-9][0-9]{0,5})\z`)
	signsOfWordList   = regexp.MustCompile(`\A(0|[1-9][0-9]{0,5})(,(0|[1-9][0-9]{0,5}))*\z`)
)

func isWordOf(kind rune, word string) bool {
	switch kind {
	case 'N':
		return signsOfWordNumber.MatchString(word)
	case 'L':
		return signsOfWordList.MatchString(word)
	case 'P':
		return isPictureText(word)
	}
	return isPuzzleText(word)
}

// isKnownLine tells by its words alone whether a line is one of those of the table.
func isKnownLine(words []string) bool {
	kinds, known := kindsOfWords[words[0]]
	if !known || len(words) != len(kinds)+1 {
		return false
	}
	for i, kind := range kinds {
		if !isWordOf(kind, words[i+1]) {
			return false
		}
	}
	return true
}

// numbersIn takes for granted that a word is a number or a list.
func numbersIn(word string) []int {
	var numbers []int
	for _, part := range strings.Split(word, ",") {
		n, _ := strconv.Atoi(part)
		numbers = append(numbers, n)
	}
	return numbers
}

// replyOf writes the reply that is a number or a list.
func replyOf(told any) string {
	if list, isList := told.([]int); isList && len(list) == 0 {
		return "-"
	}
	return strings.ReplaceAll(strings.Trim(fmt.Sprint(told), "[]"), " ", ",")
}

func drawnBy(word string, k int) (string, bool) {
	switch word {
	case "triangle":
		return impl.TrianglePicture(k)
	case "square":
		return impl.SquarePicture(k)
	}
	return impl.HexagonPicture(k)
}

func changedBy(word string, picture string) (string, bool) {
	switch word {
	case "turn":
		return impl.TurnPicture(picture)
	case "mirror":
		return impl.MirrorPicture(picture)
	case "other":
		return impl.OtherDots(picture)
	}
	return impl.TakeBorder(picture)
}

// askedOfSides returns what the call that a word names tells of sides and a number.
func askedOfSides(word string, sides int, n int) (told any, ok bool) {
	switch word {
	case "number":
		told, ok = impl.PolygonNumber(sides, n)
	case "place":
		told, ok = impl.PlaceOf(sides, n)
	case "gnomon":
		told, ok = impl.GnomonOf(sides, n)
	case "centred":
		told, ok = impl.CentredNumber(sides, n)
	case "sum":
		told, ok = impl.FirstFewest(sides, n)
	case "pyramid":
		told, ok = impl.PyramidNumber(sides, n)
	case "apart":
		told, ok = impl.CountSquaresApart(n)
	}
	return told, ok
}

// askedOf returns what the call that a line of the table names tells, the line being no other one
// than those without an effect.
func askedOf(desk impl.Desk, words []string) (told any, ok bool) {
	switch words[0] {
	case "show":
		return desk.Picture, true
	case "dots":
		told, ok = impl.CountDots(desk.Picture)
	case "layers":
		told, ok = impl.LayersOfPicture(desk.Picture)
	case "shared":
		told, ok = impl.SharedUpTo(desk.Sides, numbersIn(words[1])[0], numbersIn(words[2])[0])
	case "form":
		told, ok = impl.FormOf(numbersIn(words[1]))
	case "solve":
		told, ok = impl.Solutions(puzzleOf(words[1]))
	default:
		told, ok = askedOfSides(words[0], desk.Sides, numbersIn(words[1])[0])
	}
	return told, ok
}

// ledTo returns the desk behind a line and its reply, by the calls that the line names.
func ledTo(desk impl.Desk, line string) (impl.Desk, string) {
	words := strings.Split(line, " ")
	if !isKnownLine(words) {
		return desk, "what"
	}
	var told any
	after, ok := desk, true
	switch words[0] {
	case "sides":
		after.Sides = numbersIn(words[1])[0]
		told, ok = after.Sides, isIn(after.Sides, 3, mostSides)
	case "picture":
		after.Picture = words[1]
		told = after.Picture
	case "triangle", "square", "hexagon":
		after.Picture, ok = drawnBy(words[0], numbersIn(words[1])[0])
		told = after.Picture
	case "turn", "mirror", "other", "peel":
		after.Picture, ok = changedBy(words[0], desk.Picture)
		told = after.Picture
	default:
		told, ok = askedOf(desk, words)
	}
	if !ok {
		return desk, "no"
	}
	return after, replyOf(told)
}

func scriptOf(lines ...string) string {
	var script strings.Builder
	for _, line := range lines {
		script.WriteString(line + "\n")
	}
	return script.String()
}

func isDeskOf(desk impl.Desk) bool {
	return isIn(desk.Sides, 3, mostSides) && isPictureText(desk.Picture)
}

func checkLine(t *testing.T, desk impl.Desk, line string, want impl.Desk, wantReply string, wantOk bool) {
	t.Helper()
	after, reply, ok := impl.DeskLine(desk, line)
	if after != want || reply != wantReply || ok != wantOk {
		t.Fatalf("DeskLine of %d, %.60q and %.99q is %d, %.60q, %.99q, %v, not %d, %.60q, %.99q, %v", desk.Sides, desk.Picture, line, after.Sides, after.Picture, reply, ok, want.Sides, want.Picture, wantReply, wantOk)
	}
}

// checkAnyLine checks that a line does what the calls do that it names, and that it fails if it is none
// or the desk is none.
func checkAnyLine(t *testing.T, desk impl.Desk, line string) {
	t.Helper()
	if !isDeskOf(desk) || len(line) > mostScript || strings.Contains(line, "\n") {
		checkLine(t, desk, line, impl.Desk{}, "", false)
		return
	}
	want, reply := ledTo(desk, line)
	checkLine(t, desk, line, want, reply, true)
}

// checkScript checks all calls of a script: its replies, the desk behind it, and the lines that fail.
func checkScript(t *testing.T, script string, replies []string, want impl.Desk, failed []int, wantOk bool) {
	t.Helper()
	if got, ok := impl.RunScript(script); !slices.Equal(got, replies) || ok != wantOk || !ok && got != nil {
		t.Fatalf("RunScript of %.99q is %.99q, %v, not %.99q, %v", script, got, ok, replies, wantOk)
	}
	if got, ok := impl.DeskAfter(script); got != want || ok != wantOk {
		t.Fatalf("DeskAfter of %.99q is %d, %.60q, %v, not %d, %.60q, %v", script, got.Sides, got.Picture, ok, want.Sides, want.Picture, wantOk)
	}
	if got, ok := impl.FailedLines(script); !slices.Equal(got, failed) || ok != wantOk || !ok && got != nil {
		t.Fatalf("FailedLines of %.99q is %d, %v, not %d, %v", script, got, ok, failed, wantOk)
	}
}

// checkAnyScript checks that a script does what its lines do, one behind the other, and that a text that
// is no script fails.
func checkAnyScript(t *testing.T, script string) {
	t.Helper()
	count := strings.Count(script, "\n")
	if len(script) > mostScript || count > mostLines || script != "" && !strings.HasSuffix(script, "\n") {
		checkScript(t, script, nil, impl.Desk{}, nil, false)
		return
	}
	var replies []string
	var failed []int
	desk := firstDesk
	for i, line := range strings.SplitN(script, "\n", count+1)[:count] {
		after, reply := ledTo(desk, line)
		desk = after
		replies = append(replies, reply)
		if reply == "no" || reply == "what" {
			failed = append(failed, i+1)
		}
	}
	checkScript(t, script, replies, desk, failed, true)
}

func TestConsoleLimits(t *testing.T) {
	if impl.MaxScript != mostScript || impl.MaxLines != mostLines {
		t.Error("limits", impl.MaxScript, impl.MaxLines)
	}
}

// exampleLines are those of the document, each with its reply.
var exampleLines = [][2]string{
	{"number 4", "10"}, {"place 11", "no"}, {"triangle 3", "o../oo./ooo"}, {"turn", "ooo/oo./o.."}, {"dots", "6"}, {"other", ".../..o/.oo"}, {"sum 12", "3,3"}, {"pyramid 3", "10"},
	{"shared 4 50", "0,1,36"}, {"apart 15", "2"}, {"form 0,1,4,9", "0,1,2"}, {"sides 5", "5"}, {"gnomon 3", "7"}, {"solve 40:0.3.0,0.4.0", "1,36"}, {"sides 2", "no"}, {"fly", "what"},
}

func TestConsoleExample(t *testing.T) {
	var lines, replies []string
	for _, pair := range exampleLines {
		lines, replies = append(lines, pair[0]), append(replies, pair[1])
	}
	checkScript(t, scriptOf(lines...), replies, impl.Desk{Sides: 5, Picture: ".../..o/.oo"}, []int{2, 15, 16}, true)
	desk := firstDesk
	for _, pair := range exampleLines {
		after, reply, ok := impl.DeskLine(desk, pair[0])
		if reply != pair[1] || !ok {
			t.Errorf("DeskLine of %v and %q is %v, %q, %v", desk, pair[0], after, reply, ok)
		}
		desk = after
	}
	if desk != (impl.Desk{Sides: 5, Picture: ".../..o/.oo"}) {
		t.Error("the desk behind the lines", desk)
	}
}

func TestFirstDesk(t *testing.T) {
	if desk := impl.FirstDesk(); desk != firstDesk || !impl.IsDesk(desk) {
		t.Error("FirstDesk", desk)
	}
}

func TestIsDesk(t *testing.T) {
	for _, sides := range append(badSides, math.MinInt, math.MaxInt, 1<<32+3, 3, 4, 5, 12, 23, 24) {
		valid := isIn(sides, 3, mostSides)
		for _, picture := range []string{"o", ".", "o./.o", filledText(24, 24, "o"), filledText(24, 24, "."), filledText(24, 1, "."), filledText(1, 24, "o")} {
			if impl.IsDesk(impl.Desk{Sides: sides, Picture: picture}) != valid {
				t.Errorf("IsDesk of %d and %q", sides, picture)
			}
		}
		for _, picture := range badPictures() {
			if impl.IsDesk(impl.Desk{Sides: sides, Picture: picture}) {
				t.Errorf("IsDesk of %d and %q", sides, picture)
			}
		}
	}
	if impl.IsDesk(impl.Desk{}) {
		t.Error("IsDesk of the zero desk")
	}
}
