package tests

import (
	"math"
	"slices"
	"strings"
	"sync"
	"testing"

	"loop.example/g01250/impl"
)

// desksToTry have few and many sides, and pictures with and without dots.
func desksToTry() []impl.Desk {
	return []impl.Desk{firstDesk, {Sides: 4, Picture: ".o./ooo/.o."}, {Sides: 24, Picture: ".."}, {Sides: 12, Picture: filledText(24, 24, "o")}}
}

// anyDesks have Sides of any size and Pictures of any bytes.
func anyDesks() []impl.Desk {
	desks := []impl.Desk{{}}
	for _, sides := range edgeInts(mostSides, 1<<32, 1<<62) {
		desks = append(desks, impl.Desk{Sides: sides, Picture: "o./.o"}, impl.Desk{Sides: sides, Picture: "o./."}, impl.Desk{Sides: sides})
	}
	for _, picture := range anyTexts() {
		desks = append(desks, impl.Desk{Sides: 3, Picture: picture}, impl.Desk{Sides: 25, Picture: picture})
	}
	return desks
}

// anyWords are numbers of any size, and lists, pictures and texts of puzzles that are good and bad.
func anyWords() []string {
	words := slices.Concat(badNumbers, badPictures()[:40], []string{"show", "o", "o./.o", "0,1,4,9", "0,0", "5:", "40:0.3.0,0.4.0", "1:1.3.0", "501:"})
	for _, n := range edgeInts(mostSides, mostDots, mostMiddled, mostSummed, mostLayers, mostPlace, mostWord, 1<<32, 1<<62) {
		words = append(words, replyOf(n), replyOf([]int{0, n}))
	}
	return words
}

// TestDeskLineOfAnyWords has each first word with none, one, two and three words of any kind behind it.
func TestDeskLineOfAnyWords(t *testing.T) {
	words := anyWords()
	inTime(t, func() {
		for first := range kindsOfWords {
			for i, word := range words {
				for _, desk := range desksToTry() {
					checkAnyLine(t, desk, first+" "+word)
				}
				other := words[(7*i+len(first))%len(words)]
				checkAnyLine(t, firstDesk, first+" "+word+" "+other)
				checkAnyLine(t, firstDesk, first+" "+other+" "+word+" "+word)
			}
		}
		for i, word := range words {
			checkAnyLine(t, firstDesk, word)
			for _, n := range []string{"0", "4", "24", "50", "999999", "1000000", "x", ""} {
				checkAnyLine(t, desksToTry()[i%4], "shared "+word+" "+n)
				checkAnyLine(t, desksToTry()[i%4], "shared "+n+" "+word)
			}
		}
	})
}

// TestDeskLineOfEachNumber has each small number, so that each line meets the limits of its call.
func TestDeskLineOfEachNumber(t *testing.T) {
	inTime(t, func() {
		for first, kinds := range kindsOfWords {
			for n := 0; n <= 60 && kinds == "N"; n++ {
				forAllSides(func(sides int) {
					checkAnyLine(t, impl.Desk{Sides: sides, Picture: "oo."}, first+" "+replyOf(n))
				})
			}
		}
		forAllSides(func(sides int) {
			for a := range 30 {
				for _, most := range []int{0, 1, 36, 210, 5000, mostWord} {
					checkAnyLine(t, impl.Desk{Sides: sides, Picture: "oo."}, "shared "+replyOf(a)+" "+replyOf(most))
				}
			}
		})
	})
}

// TestConsoleCallsOfAnyDesk checks that just desks are taken: with any other one each line fails.
func TestConsoleCallsOfAnyDesk(t *testing.T) {
	desks := anyDesks()
	inTime(t, func() {
		for _, desk := range desks {
			if impl.IsDesk(desk) != isDeskOf(desk) {
				t.Fatalf("IsDesk of %d and %q", desk.Sides, shortened(desk.Picture))
			}
			for _, line := range []string{"", "show", "sides 5", "picture o", "turn", "peel", "layers", "number 4", "shared 4 50", "apart 15", "fly", "show\n"} {
				checkAnyLine(t, desk, line)
			}
		}
	})
}

// TestConsoleCallsOfAnyText has lines and scripts of any bytes and long ones.
func TestConsoleCallsOfAnyText(t *testing.T) {
	const length = 1 << 21
	texts := append(anyTexts(), badPuzzleTexts()...)
	for first := range 256 {
		sign := string([]byte{byte(first)})
		texts = append(texts, sign, "show"+sign, sign+"show", "sides"+sign+"5", "sides 5"+sign, "sides "+sign+"5", "form 0"+sign+"1", "show"+sign+"show\n", "picture o"+sign+"o", "solve 5"+sign, "show\n"+sign, "shared 4"+sign+"50\n")
	}
	for _, part := range []string{"\n", " ", "x", "9", "0", "show", "show\n", "show ", "sides 5\n", "sides ", "form 0,", ",", "picture o/", "solve 5:0.3.0,", "\x00", "\xff", "other\n", "layers\r\n"} {
		long := strings.Repeat(part, length/len(part))
		texts = append(texts, long, "form "+long, "picture "+long, "solve "+long, "sides "+long, "sides 5"+long, "shared 4 "+long, long+"\n", "show\n"+long, long+"show\n")
	}
	inTime(t, func() {
		for _, text := range texts {
			checkAnyLine(t, firstDesk, text)
			checkAnyScript(t, text)
			checkAnyScript(t, text+"\n")
			checkAnyScript(t, "square 3\n"+text+"\nshow\n")
		}
	})
}

// TestScriptsThatAreCut takes bytes out of a script, puts some in and changes some.
func TestScriptsThatAreCut(t *testing.T) {
	var script strings.Builder
	for _, pair := range exampleLines {
		script.WriteString(pair[0] + "\n")
	}
	text := script.String() + "peel\nmirror\nhexagon 2\nlayers\nform 1,0\npicture o./.o\nshow\nsquare 2\ncentred 2\n"
	inTime(t, func() {
		for end := range len(text) {
			checkAnyScript(t, text[:end])
			checkAnyScript(t, text[end:])
			checkAnyScript(t, text[:end]+text[end+1:])
			for _, sign := range []string{" ", "\n", "0", "1", "9", ",", "o", "/", "-", "\x00", "x"} {
				checkAnyScript(t, text[:end]+sign+text[end:])
				checkAnyScript(t, text[:end]+sign+text[end+1:])
			}
		}
	})
}

// TestLongRunningScripts has as many lines as there can be of those that have most to do.
func TestLongRunningScripts(t *testing.T) {
	full := "square 24\n"
	inTime(t, func() {
		for _, line := range []string{"sum 3000", "sum 2999", "shared 4 999999", "apart 720720", "solve 500:5.3.0,5.4.0,5.5.0,5.3.0,5.4.0", "layers", "peel", "other", "turn", "mirror", "square 24", "hexagon 12", "number 100000", "place 999999", "pyramid 2000", "form 0,0,0,0,0,0,0,0,0,0,0,7"} {
			checkAnyScript(t, full+strings.Repeat(line+"\n", mostLines-1))
		}
	})
}

// TestConsoleListsAreNew checks that a result that is changed changes no later one.
func TestConsoleListsAreNew(t *testing.T) {
	script := "sides 2\nshow\nfly\nsum 12\n\nlayers\n"
	checkListsAreNew(t, "spoilt", map[string]func() ([]string, bool){
		"RunScript": func() ([]string, bool) { return impl.RunScript(script) },
	})
	checkListsAreNew(t, math.MaxInt, map[string]func() ([]int, bool){
		"FailedLines": func() ([]int, bool) { return impl.FailedLines(script) },
	})
}

// TestConsoleKeepsNothing checks that each script begins with the first desk again, whatever was run
// before it.
func TestConsoleKeepsNothing(t *testing.T) {
	for _, lines := range manyScripts(100) {
		if _, ok := impl.RunScript(scriptOf(lines...)); !ok {
			t.Fatalf("RunScript of %q", lines)
		}
		checkScript(t, "show\nnumber 4\n", []string{"o", "10"}, firstDesk, nil, true)
	}
	checkLine(t, impl.Desk{Sides: 4, Picture: ".."}, "sides 5", impl.Desk{Sides: 5, Picture: ".."}, "5", true)
	checkLine(t, impl.Desk{Sides: 4, Picture: ".."}, "number 4", impl.Desk{Sides: 4, Picture: ".."}, "16", true)
	if desk := impl.FirstDesk(); desk != firstDesk {
		t.Error("FirstDesk", desk)
	}
}

// TestConsoleCallsAtOnce checks that scripts that are run at the same time tell what each tells alone.
func TestConsoleCallsAtOnce(t *testing.T) {
	var calls sync.WaitGroup
	for _, lines := range manyScripts(200) {
		calls.Go(func() { checkAtOnce(t, lines) })
	}
	calls.Wait()
}

// checkAtOnce lets the test go on where it finds an error, as other goroutines than that of the test
// must not end it.
func checkAtOnce(t *testing.T, lines []string) {
	script := scriptOf(lines...)
	var replies []string
	desk := firstDesk
	for _, line := range lines {
		after, reply := ledTo(desk, line)
		desk = after
		replies = append(replies, reply)
	}
	if got, ok := impl.RunScript(script); !slices.Equal(got, replies) || !ok {
		t.Errorf("RunScript of %.99q is %.99q, %v, not %.99q", script, got, ok, replies)
	}
	if got, ok := impl.DeskAfter(script); got != desk || !ok {
		t.Errorf("DeskAfter of %.99q is %v, %v, not %v", script, got, ok, desk)
	}
}

// FuzzConsoleCalls checks each line and script that the fuzzer makes of the given ones.
func FuzzConsoleCalls(f *testing.F) {
	for _, pair := range exampleLines {
		f.Add(5, "oo/.o", pair[0])
		f.Add(3, "o", pair[0]+"\n")
	}
	for _, text := range []string{"", "\n", "square 5\nlayers\n", "hexagon 3\nmirror\npeel\nother\nshow\n", "picture o./.o\ndots\n", "centred 4\nnumber 3\n", "form 1,0\nsolve 1:1.3.0\n"} {
		f.Add(24, ".", text)
	}
	f.Fuzz(func(t *testing.T, sides int, picture string, text string) {
		checkAnyLine(t, impl.Desk{Sides: sides, Picture: picture}, text)
		checkAnyLine(t, firstDesk, text)
		checkAnyScript(t, text)
		checkAnyScript(t, text+"\n")
	})
}
