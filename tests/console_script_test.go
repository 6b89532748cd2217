package tests

import (
	"math/rand"
	"slices"
	"strings"
	"testing"

	"loop.example/g01250/impl"
)

func TestEmptyScript(t *testing.T) {
	checkScript(t, "", nil, firstDesk, nil, true)
}

func TestScriptsOfOneLine(t *testing.T) {
	for line, told := range map[string]struct {
		reply  string
		desk   impl.Desk
		failed []int
	}{
		"":            {"what", firstDesk, []int{1}},
		" ":           {"what", firstDesk, []int{1}},
		"show":        {"o", firstDesk, nil},
		"sides 24":    {"24", impl.Desk{Sides: 24, Picture: "o"}, nil},
		"sides 25":    {"no", firstDesk, []int{1}},
		"other":       {".", impl.Desk{Sides: 3, Picture: "."}, nil},
		"picture o":   {"o", firstDesk, nil},
		"picture o./": {"what", firstDesk, []int{1}},
		"square 2":    {"oo/oo", impl.Desk{Sides: 3, Picture: "oo/oo"}, nil},
		"sum 0":       {"-", firstDesk, nil},
		"form 1,0":    {"1,-1", firstDesk, nil},
		"solve 1:":    {"1", firstDesk, nil},
		"show\r":      {"what", firstDesk, []int{1}},
	} {
		checkScript(t, line+"\n", []string{told.reply}, told.desk, told.failed, true)
		checkScript(t, line+"\n\n", []string{told.reply, "what"}, told.desk, append(told.failed, 2), true)
	}
}

// TestScriptsGoOn has lines whose replies come from what earlier lines have set, and lines that fail
// between them, behind which nothing has changed.
func TestScriptsGoOn(t *testing.T) {
	script := scriptOf("sides 5", "number 3", "sides 25", "number 3", "sides 4", "number 3", "sides", "number 3", "square 4", "peel", "hexagon 13", "show", "picture x", "show", "other", "dots", "other", "peel", "peel", "layers", "other", "layers", "", "picture o", "picture o", "show")
	checkScript(t, script, []string{
		"5", "12", "no", "12", "4", "9", "what", "9", "oooo/oooo/oooo/oooo", "..../.oo./.oo./....", "no", "..../.oo./.oo./....", "what", "..../.oo./.oo./....", "oooo/o..o/o..o/oooo", "12", "..../.oo./.oo./....", "..../..../..../....", "..../..../..../....", "-", "oooo/oooo/oooo/oooo", "12,4", "what", "o", "o", "o",
	}, impl.Desk{Sides: 4, Picture: "o"}, []int{3, 7, 11, 13, 23}, true)
}

// TestPeelAndOther takes borders and changes dots again and again.
func TestPeelAndOther(t *testing.T) {
	for _, picture := range []string{"square 24", "triangle 24", "hexagon 12", "picture " + filledText(24, 23, "."), "picture o.o.o/.o.o./o.o.o"} {
		for _, turns := range []string{"peel", "other", "peel,other", "other,peel", "peel,peel,other", "turn,peel", "mirror,other", "other,peel,peel,turn,mirror"} {
			words := strings.Split(turns, ",")
			lines := []string{picture}
			for len(lines)+len(words) < mostLines {
				lines = append(lines, words...)
			}
			checkAnyScript(t, scriptOf(append(lines, "layers")...))
		}
	}
	peeled := scriptOf(append([]string{"square 24"}, slices.Repeat([]string{"peel"}, 11)...)...)
	middle := filledText(24, 11, ".") + "/" + strings.Repeat(".", 11) + "oo" + strings.Repeat(".", 11)
	middle += "/" + middle[len(middle)-24:] + "/" + filledText(24, 11, ".")
	if desk, ok := impl.DeskAfter(peeled); desk.Picture != middle || !ok {
		t.Error("DeskAfter of eleven borders taken", desk, ok)
	}
	if desk, ok := impl.DeskAfter(peeled + "peel\npeel\npeel\n"); desk.Picture != filledText(24, 24, ".") || !ok {
		t.Error("DeskAfter of all borders taken", desk, ok)
	}
}

func TestScriptsOfMaxLines(t *testing.T) {
	for _, line := range []string{"", "show", "other", "fly", "sides 2", "number 4", "sum 0", " ", strings.Repeat("x", 59)} {
		reply := map[string]string{"show": "o", "sides 2": "no", "number 4": "10", "sum 0": "-"}[line]
		for _, count := range []int{1, 2, mostLines - 1, mostLines} {
			var replies []string
			var failed []int
			desk := firstDesk
			for number := 1; number <= count; number++ {
				switch {
				case line == "other":
					desk.Picture = map[string]string{"o": ".", ".": "o"}[desk.Picture]
					replies = append(replies, desk.Picture)
				case reply == "":
					replies, failed = append(replies, "what"), append(failed, number)
				case reply == "no":
					replies, failed = append(replies, reply), append(failed, number)
				default:
					replies = append(replies, reply)
				}
			}
			checkScript(t, strings.Repeat(line+"\n", count), replies, desk, failed, true)
		}
		for _, count := range []int{mostLines + 1, mostLines + 2, 2 * mostLines, 10 * mostLines} {
			checkScript(t, strings.Repeat(line+"\n", count), nil, impl.Desk{}, nil, false)
		}
	}
	// Just one of many lines fails, wherever it is.
	for number := range mostLines {
		lines := slices.Repeat([]string{"turn"}, mostLines)
		for _, line := range []string{"sides 2", "turn 1"} {
			lines[number] = line
			if failed, ok := impl.FailedLines(scriptOf(lines...)); !slices.Equal(failed, []int{number + 1}) || !ok {
				t.Error("FailedLines", line, number, failed, ok)
			}
		}
	}
}

// filledScript has so many bytes: the lines that it begins with, then lines that are as long as they
// can be, so many as there are to be.
func filledScript(length int, count int, lines ...string) string {
	script := scriptOf(lines...)
	for left := count - len(lines); left > 0; left-- {
		script += strings.Repeat("x", (length-len(script))/left-1) + "\n"
	}
	return script
}

func TestScriptsOfMaxScript(t *testing.T) {
	wide := "picture " + filledText(24, 24, "o")
	for _, count := range []int{1, 2, 5, 49, 50} {
		for _, length := range []int{mostScript - 1, mostScript} {
			script := filledScript(length, count)
			if len(script) != length {
				t.Fatal("a script of another length", len(script))
			}
			var failed []int
			for number := range count {
				failed = append(failed, number+1)
			}
			checkScript(t, script, slices.Repeat([]string{"what"}, count), firstDesk, failed, true)
		}
		checkScript(t, filledScript(mostScript+1, count), nil, impl.Desk{}, nil, false)
		checkScript(t, filledScript(mostScript+2, count), nil, impl.Desk{}, nil, false)
	}
	script := filledScript(mostScript, 8, "square 24", wide, wide, "dots", "sides 24")
	full := filledText(24, 24, "o")
	checkScript(t, script, []string{full, full, full, "576", "24", "what", "what", "what"}, impl.Desk{Sides: 24, Picture: full}, []int{6, 7, 8}, true)
	script = filledScript(mostScript+1, 8, "square 24", wide, wide, "dots", "sides 24")
	checkScript(t, script, nil, impl.Desk{}, nil, false)
	list := "form 1" + strings.Repeat(",1", (mostScript-7)/2) + "\n"
	checkScript(t, list, []string{"no"}, firstDesk, []int{1}, true)
	checkScript(t, "\n"+list, []string{"what", "no"}, firstDesk, []int{1, 2}, true)
	checkScript(t, "\n\n"+list, nil, impl.Desk{}, nil, false)
}

func TestTextsThatAreNoScripts(t *testing.T) {
	for _, text := range []string{
		" ", "x", "show", "show\nshow", "\nshow", "\n ", "\n\x00", "show\n\r", "show\r", "show\x00", "o", "\xff", "sides 5\nnumber 4\nfly", "\n\n\nx",
		strings.Repeat("x", mostScript), strings.Repeat("\n", mostLines) + "x", strings.Repeat("show\n", mostLines) + "show", strings.Repeat("\n", mostLines+1), strings.Repeat("\n", mostScript), strings.Repeat("\n", mostScript+1), strings.Repeat("x", mostScript) + "\n", strings.Repeat("show\n", mostLines) + strings.Repeat("x", mostScript),
	} {
		checkScript(t, text, nil, impl.Desk{}, nil, false)
	}
	for _, pair := range exampleLines {
		checkScript(t, pair[0], nil, impl.Desk{}, nil, false)
	}
}

// TestScriptsDoWhatLinesDo runs lines by DeskLine, one behind the other, and all of them at once.
func TestScriptsDoWhatLinesDo(t *testing.T) {
	for _, lines := range manyScripts(300) {
		desk := impl.FirstDesk()
		var replies []string
		var failed []int
		for i, line := range lines {
			after, reply, ok := impl.DeskLine(desk, line)
			if !ok || !impl.IsDesk(after) {
				t.Fatalf("DeskLine of %v and %q is %v, %q, %v", desk, line, after, reply, ok)
			}
			if reply == "no" || reply == "what" {
				failed = append(failed, i+1)
				if after != desk {
					t.Fatalf("%q has changed %v into %v", line, desk, after)
				}
			}
			desk = after
			replies = append(replies, reply)
		}
		checkScript(t, scriptOf(lines...), replies, desk, failed, true)
	}
}

// TestScriptsDoWhatCallsDo checks the same scripts, and more of them, against the calls that they name.
func TestScriptsDoWhatCallsDo(t *testing.T) {
	for _, lines := range manyScripts(2000) {
		checkAnyScript(t, scriptOf(lines...))
	}
}

// manyScripts are lists of lines, not too long, that are the same in each run.
func manyScripts(count int) [][]string {
	random := rand.New(rand.NewSource(10))
	var scripts [][]string
	for range count {
		var lines []string
		length := 0
		for range random.Intn(mostLines + 1) {
			line := drawnLine(random)
			if length += len(line) + 1; length > mostScript {
				break
			}
			lines = append(lines, line)
		}
		scripts = append(scripts, lines)
	}
	return scripts
}

// drawnLine is mostly one of the table, with words that are mostly such that the call succeeds.
func drawnLine(random *rand.Rand) string {
	names := []string{"fly", "", "diamond"}
	for name := range kindsOfWords {
		names = append(names, name)
	}
	slices.Sort(names)
	name := names[random.Intn(len(names))]
	words := []string{name}
	for _, kind := range kindsOfWords[name] {
		words = append(words, drawnWord(random, kind))
	}
	switch random.Intn(30) {
	case 0:
		words = append(words, drawnWord(random, 'N'))
	case 1:
		words = words[:len(words)-1]
	}
	return strings.Join(words, " ")
}

func drawnWord(random *rand.Rand, kind rune) string {
	switch kind {
	case 'N':
		mosts := []int{2, 25, 25, 25, 60, 3001, 100001, mostWord + 2}
		return replyOf(random.Intn(mosts[random.Intn(len(mosts))]))
	case 'L':
		var list []int
		most := []int{3, 100, mostWord + 1}[random.Intn(3)]
		for range 1 + random.Intn(mostInList+1) {
			list = append(list, random.Intn(most))
		}
		return replyOf(list)
	case 'P':
		pictures := append(greatPictures()[:100:100], "o", ".", "o.", "o./", "x", "..o/o..", "oo/.o/..", "o.o./.oo./o.../oo.o")
		return pictures[random.Intn(len(pictures))]
	}
	return puzzleTexts[random.Intn(len(puzzleTexts))]
}
