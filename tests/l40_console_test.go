package tests

import (
	"fmt"
	"math/rand"
	"slices"
	"strconv"
	"strings"
	"testing"

	"loop.example/g03006/impl"
)

// commandCounts are the words of the console, but for new, with how many numbers stand behind each.
func commandCounts() map[string]int {
	return map[string]int{
		"call": 1, "bus": 1, "help": 1, "break": 2, "mend": 2, "power": 1, "run": 1,
		"lights": 0, "seen": 0, "control": 0, "paths": 0, "plan": 0, "stages": 0, "conflicts": 1, "wait": 1, "siren": 1,
		"shown": 1, "report": 2, "verdict": 3, "town": 0, "audit": 0,
	}
}

// numberOf is the oracle for what a word of the console stands for; -1 if it is no number.
func numberOf(word string) int {
	n, err := strconv.Atoi(word)
	if err != nil || n < 0 || n > 1000000000000 || strconv.Itoa(n) != word {
		return -1
	}
	return n
}

// newLine is the oracle for a line that begins with new.
func newLine(o impl.Town, words []string) (impl.Town, string) {
	var l []impl.Path
	for _, word := range words {
		for p := range validPaths() {
			if impl.PathText(p) == word {
				l = append(l, p)
			}
		}
	}
	if len(l) != len(words) || len(l) == 0 {
		return o, "what"
	}
	if !impl.ArePaths(l) {
		return o, "no"
	}
	return newTown(l), "ok"
}

// consoleLine is the oracle for ConsoleLine.
func consoleLine(o impl.Town, line string) (impl.Town, string) {
	words := slices.DeleteFunc(strings.Split(line, " "), func(word string) bool { return word == "" })
	if len(line) > 200 || len(words) == 0 {
		return o, "what"
	}
	if words[0] == "new" {
		return newLine(o, words[1:])
	}
	count, there := commandCounts()[words[0]]
	var n []int
	for _, word := range words[1:] {
		n = append(n, numberOf(word))
	}
	if !there || len(n) != count || slices.Contains(n, -1) || words[0] == "power" && n[0] > 1 {
		return o, "what"
	}
	steps := map[string]func() step{
		"call": func() step { return stepCall(n[0]) }, "bus": func() step { return stepBus(n[0]) }, "help": func() step { return stepHelp(n[0]) }, "break": func() step { return stepLamp(n[0], n[1], true) }, "mend": func() step { return stepLamp(n[0], n[1], false) }, "power": func() step { return stepPower(n[0] == 1) }, "run": func() step { return stepSeconds(n[0]) },
	}
	if makeStep, ok := steps[words[0]]; ok {
		after, done := makeStep().expect(o)
		return after, map[bool]string{true: "ok", false: "no"}[done]
	}
	return o, answerTo(o, words[0], n)
}

// answerTo is the oracle for the words that show something.
func answerTo(o impl.Town, word string, n []int) string {
	switch word {
	case "lights":
		return lightsText(impl.LightsNow(o))
	case "seen":
		return lightsText(impl.SeenNow(o))
	case "control":
		return controlText(o.Control)
	case "paths":
		return pathsText(o.Paths)
	case "plan":
		return planText(impl.PlanFor(o.Paths))
	case "stages":
		return numbersText(impl.StageSizes(o.Paths))
	case "conflicts":
		return numbersText(impl.ConflictsOf(o.Paths, n[0]))
	case "wait":
		return fmt.Sprint(impl.WaitOf(o.Paths, impl.PlanFor(o.Paths), n[0]))
	case "siren":
		return fmt.Sprint(impl.SirenWait(o.Paths, o.Control, n[0]))
	case "town":
		return townText(o)
	case "shown":
		if lights, ok := shownAt(o.Record, n[0]); ok {
			return lightsText(lights)
		}
	case "report":
		if r, ok := reportOf(o, n[0], n[1]); ok {
			return reportText(r)
		}
	case "verdict":
		r, ok := reportOf(o, n[0], n[2])
		if s, both := reportOf(o, n[1], n[2]); ok && both {
			return impl.Verdict(r, s)
		}
	case "audit":
		if fault := faultOf(o); fault != "" {
			return fault
		}
		return "ok"
	}
	return "no"
}

// wantLine checks a line in a town against its oracle, and returns the town behind it and the answer.
func wantLine(t *testing.T, o impl.Town, line string) (impl.Town, string) {
	t.Helper()
	want, answer := consoleLine(copyTown(o), line)
	got, out := impl.ConsoleLine(o, line)
	if out != answer || !sameTown(got, want) {
		t.Fatalf("ConsoleLine(%v, %q) = %v, %q; want %v, %q", o, line, got, out, want, answer)
	}
	return got, out
}

// wantAnswers checks lines one after the other, each with its answer behind it, and returns the town at the end.
func wantAnswers(t *testing.T, o impl.Town, pairs ...string) impl.Town {
	t.Helper()
	for i := 0; i < len(pairs); i += 2 {
		next, got := wantLine(t, o, pairs[i])
		if got != pairs[i+1] {
			t.Errorf("behind %q the line %q is answered by %q; want %q", pairs[max(0, i-8):i], pairs[i], got, pairs[i+1])
		}
		o = next
	}
	return o
}

// wantWhat checks that lines change nothing and are answered by "what".
func wantWhat(t *testing.T, o impl.Town, lines ...string) {
	t.Helper()
	for _, line := range lines {
		if got, out := impl.ConsoleLine(o, line); out != "what" || !sameTown(got, o) {
			t.Errorf("ConsoleLine(%v, %q) = %v, %q", o, line, got, out)
		}
		wantLine(t, o, line)
	}
}

// notPaths are words that look like paths.
func notPaths() []string {
	return []string{
		"", "1", "c", "02", "c02", "1c", "1c0", "c0", "1c022", "1c002", "1cc02", "11c", "1c02 ", " 1c02", "1 c02", "1c 02", "1c02\n", "1c02\t", "\t1c02",
		// Leading zeros, signs, other letters, and numbers beyond their range.
		"01c02", "001c02", "0c02", "00c02", "-1c02", "+1c02", "1c-2", "1c+2", "1x02", "1C02", "1W00", "1B02", "1a02", "1d02", "1 02", "1002", "1\x0002", "1c04", "1c40", "1c03x", "1c0x", "1cx2", "1c/2", "1c0:", "1c0/", "1c:0", "21c02", "99c02", "100c02", "1000000000001c02", "18446744073709551617c02", "4294967297c02", "1.0c02", "1e0c02", "0x1c02", "1_0c02",
		// Walks to another arm, and cars and buses to the same one.
		"1w01", "1w30", "3w44", "1c00", "1c33", "1b11", "20b22", "1w0", "1w000",
		// Digits and letters that are none of these.
		"١c02", "1с02", "1c0２", "１c02", "\xff1c02", "1c\xff2", "1c0\xff", "1\xe302", "ééé", "1é2", "aaaa", "----", "    ",
	}
}

func TestParsePath(t *testing.T) {
	texts := map[string]impl.Path{}
	for p := range validPaths() {
		texts[fmt.Sprintf("%d%s%d%d", p.Id, map[int]string{1: "c", 2: "w", 3: "b"}[p.Kind], p.From, p.To)] = p
	}
	if len(texts) != 560 {
		t.Fatal(len(texts))
	}
	for text, p := range texts {
		if got, ok := impl.ParsePath(text); !ok || got != p || impl.PathText(got) != text {
			t.Errorf("ParsePath(%q) = %v, %v", text, got, ok)
		}
	}
	for _, text := range notPaths() {
		if got, ok := impl.ParsePath(text); ok || got != (impl.Path{}) {
			t.Errorf("ParsePath(%q) = %v, %v", text, got, ok)
		}
	}
	// Each text with one byte changed, left out or put in.
	for text := range texts {
		for i := range len(text) {
			for _, c := range []byte("0123459cwbx-+ /:\x00\xff") {
				for _, word := range []string{text[:i] + string(c) + text[i+1:], text[:i] + text[i+1:], text[:i] + string(c) + text[i:], text + string(c)} {
					want, can := texts[word]
					if got, ok := impl.ParsePath(word); ok != can || got != want {
						t.Errorf("ParsePath(%q) = %v, %v; want %v, %v", word, got, ok, want, can)
					}
				}
			}
		}
	}
	if _, ok := impl.ParsePath(strings.Repeat("1", 10000) + "c02"); ok {
		t.Error("a long Id")
	}
}

func TestConsoleLimits(t *testing.T) {
	if impl.MaxLines != 60 || impl.MaxLineLen != 200 {
		t.Error(impl.MaxLines, impl.MaxLineLen)
	}
}

// Each command, in a town that changes from line to line.
func TestConsoleCommands(t *testing.T) {
	o := wantAnswers(t, impl.Town{},
		"new 1c02 2c13 3w00 4b31", "ok", "paths", "1c02 2c13 3w00 4b31", "town", "0 full 4 0 1 0", "audit", "ok", "plan", "1:5 | 2 3 4:7", "stages", "1 3",
		"conflicts 1", "2 3 4", "conflicts 3", "1", "conflicts 9", "-", "wait 1", "14", "wait 2", "12", "wait 9", "0", "siren 2", "7", "siren 1", "0", "siren 3", "-1", "siren 9", "-1",
		"call 3", "ok", "call 3", "no", "call 9", "no", "run 6", "ok", "lights", "crrr", "seen", "crrr", "control", "1 @ 5 > 2 3 4 in 2", "run 2", "ok", "lights", "rggg", "control", "2 3 4 @ 0",
		"bus 4", "ok", "bus 4", "no", "bus 1", "no", "bus 9", "no", "help 1", "ok", "help 3", "no", "help 9", "no", "control", "2 3 4 @ 1", "town", "9 full 4 0 3 0",
		"shown 0", "grrr", "shown 5", "grrr", "shown 6", "crrr", "shown 8", "rggg", "shown 1000000000000", "rggg", "report 1 3", "1 3 g 3 0", "report 2 3", "2 3 r -1 1", "report 1 9", "1 9 r -1 2", "report 1 10", "no", "report 9 3", "no", "report 3 9", "3 9 g 1 0",
		"verdict 1 2 3", "second", "verdict 2 1 3", "first", "verdict 2 3 3", "both", "verdict 2 3 9", "neither", "verdict 1 1 3", "neither", "verdict 1 2 10", "no", "verdict 9 2 3", "no", "verdict 1 9 3", "no",
		"break 1 0", "ok", "lights", "rrrr", "seen", "....", "audit", "ok", "town", "9 blink 4 0 4 0", "break 1 2", "no", "break 9 0", "no", "mend 1 0", "ok", "mend 4 0", "ok", "mend 4 2", "no", "lights", "rggg", "break 4 1", "ok", "seen", "rgg.", "lights", "rggg", "mend 4 1", "ok",
		"power 1", "no", "power 0", "ok", "power 0", "no", "lights", "rrrr", "seen", "....", "town", "9 dark 4 0 4 0", "power 1", "ok", "run 1", "ok", "run 100", "ok", "run 0", "no", "run 101", "no", "run 1000000000000", "no", "town", "110 full 4 0 3 0",
		// A town that is there is replaced by another one.
		"new 1c00", "what", "new 2c13 1c02", "no", "new 1c02 1c02", "no", "town", "110 full 4 0 3 0", "new 20b31", "ok", "town", "0 full 1 0 1 0", "paths", "20b31", "lights", "g",
		"new 1w00 2w01 3w02", "what", "new 1w00 2w11 3w22 4w33 5w00 6w11 7w22 8w33 9w00 10w11 11w22 12w33", "ok", "stages", "12", "new 1w00 2w11 3w22 4w33 5w00 6w11 7w22 8w33 9w00 10w11 11w22 12w33 13w00", "no", "plan", "1 2 3 4 5 6 7 8 9 10 11 12:7",
	)
	if !impl.IsTown(o) || len(o.Paths) != 12 {
		t.Error(o)
	}
}

// Commands to the zero town.
func TestConsoleWithoutTown(t *testing.T) {
	o := wantAnswers(t, impl.Town{},
		"lights", "-", "seen", "-", "control", "- @ 0", "paths", "-", "plan", "-", "stages", "-", "conflicts 1", "-", "wait 1", "0", "siren 1", "-1", "shown 0", "no", "report 1 0", "no", "verdict 1 2 0", "no", "town", "0 dark 0 0 0 0", "audit", "town",
		"call 1", "no", "bus 1", "no", "help 1", "no", "break 1 0", "no", "mend 1 0", "no", "power 0", "no", "power 1", "no", "run 1", "no", "new 2c02 1c13", "no", "new", "what", "", "what",
	)
	if !sameTown(o, impl.Town{}) {
		t.Error(o)
	}
	// Towns that are not valid answer, too, and stay as they are.
	for i, o := range notTowns() {
		for word, count := range commandCounts() {
			line := word + strings.Repeat(" "+strconv.Itoa(i%5), count)
			if got, _ := wantLine(t, o, line); !sameTown(got, o) {
				t.Errorf("%q changes %v to %v", line, o, got)
			}
		}
		if got, out := impl.ConsoleLine(o, "new 3b01"); out != "ok" || !sameTown(got, newTown([]impl.Path{bus(3, 0, 1)})) {
			t.Errorf("new in %v is %v, %q", o, got, out)
		}
	}
}

// A word too few, one too many, and one that is not what it should be.
func TestConsoleWords(t *testing.T) {
	towns := []impl.Town{knownTowns()[1], {}}
	for word, count := range commandCounts() {
		numbers := []string{"1", "0", "1"}[:count]
		line := strings.Join(append([]string{word}, numbers...), " ")
		for _, o := range towns {
			if _, out := wantLine(t, o, line); out == "what" {
				t.Errorf("ConsoleLine(%q) is what", line)
			}
			// Blanks at the beginning, at the end, and several between the words, make no difference.
			want, answer := impl.ConsoleLine(o, line)
			for _, other := range []string{" " + line, line + " ", "   " + strings.ReplaceAll(line, " ", "     ") + "   ", "  " + line} {
				if got, out := impl.ConsoleLine(o, other); out != answer || !sameTown(got, want) {
					t.Errorf("ConsoleLine(%q) = %v, %q; want %q", other, got, out, answer)
				}
			}
			wantWhat(t, o, line+" 1", line+" x", line+" "+word, strings.ToUpper(line), strings.ToUpper(word[:1])+line[1:], line+"\t", "\t"+line, line+"\n", "x "+line, word+word, word[1:], word+"s 1", "1 "+line, line+" -", line+" \t ", line+"\x00", line+"\u00a0")
			if count > 0 {
				wantWhat(t, o, word, strings.TrimSuffix(line, " "+numbers[count-1]), strings.ReplaceAll(line, " ", "\t"), strings.ReplaceAll(line, " ", ""), strings.ReplaceAll(line, " ", ","))
			}
			for i := range count {
				for _, bad := range []string{"x", "-1", "+1", "01", "00", "1x", "x1", "1.0", "1e3", "0x1", "1000000000001", "99999999999999999999999", "18446744073709551617", "١", "１", "--", "1_0", "'1'", "1c02"} {
					changed := slices.Clone(numbers)
					changed[i] = bad
					wantWhat(t, o, strings.Join(append([]string{word}, changed...), " "))
				}
				for _, good := range []string{"1000000000000", "999999999999", "7", "4294967297"} {
					changed := slices.Clone(numbers)
					changed[i] = good
					wantLine(t, o, strings.Join(append([]string{word}, changed...), " "))
				}
			}
		}
	}
	for _, o := range towns {
		wantWhat(t, o, "", " ", "     ", "\t", "\n", " \t ", "what", "ok", "no", "new", "new ", "  new  ", "New 1c02", "NEW 1c02", "news 1c02", "new1c02", "new\t1c02", "new x", "new 1", "new 1c02 x", "new x 1c02", "new 1c02 2", "new 1c02,2c13", "new 1c02\t2c13", "new new 1c02", "1c02", "1", "power 2", "power 3", "power 1000000000000", "power on", "power", "power 0 1", "power -1", "lights 1", "town 0", "audit 1", "run", "run x", "run 1 1", "call", "call 1 2", "report 1", "verdict 1 2", "verdict 1 2 3 4", "exit", "help", "help me", "\x00", "\xff", "é", "lights\rseen", "lights;seen")
		for _, word := range notPaths() {
			// A word with blanks in it is several words.
			if strings.Contains(word, " ") || word == "" {
				wantLine(t, o, "new "+word)
				continue
			}
			wantWhat(t, o, "new "+word, "new 1c02 "+word, "new "+word+" 20c02")
		}
	}
}

func TestConsoleLineLengths(t *testing.T) {
	o := knownTowns()[1]
	for _, line := range []string{"town", "call 3", "new 1c02 2c13", "lights", "verdict 1 2 3", "no such line"} {
		want, answer := wantLine(t, o, line)
		for _, long := range []string{line + strings.Repeat(" ", 200-len(line)), strings.Repeat(" ", 200-len(line)) + line} {
			if got, out := impl.ConsoleLine(o, long); len(long) != 200 || out != answer || !sameTown(got, want) {
				t.Errorf("ConsoleLine of %q with %d bytes is %v, %q; want %q", line, len(long), got, out, answer)
			}
			wantWhat(t, o, long+" ", " "+long, long+strings.Repeat(" ", 10000))
		}
	}
	wantWhat(t, o, strings.Repeat("x", 200), strings.Repeat("x", 201), strings.Repeat(" ", 200), strings.Repeat(" ", 201), strings.Repeat("a ", 100), strings.Repeat("é", 100), strings.Repeat("é", 101))
	// The length is that in bytes.
	if _, out := impl.ConsoleLine(o, "town"+strings.Repeat(" ", 196)); out != townText(o) {
		t.Error(out)
	}
}

// drawLine draws a line that is well formed most often.
func drawLine(source *rand.Rand, o impl.Town) string {
	var words []string
	for word := range commandCounts() {
		words = append(words, word)
	}
	slices.Sort(words)
	word := append(words, "call", "run", "run", "run", "new", "bus", "help")[source.Intn(len(words)+7)]
	line := word
	if word == "new" && source.Intn(3) > 0 {
		return "town"
	}
	for range commandCounts()[word] {
		n := source.Intn(6)
		if source.Intn(4) == 0 {
			n = source.Intn(o.Now + 5)
		}
		line += strings.Repeat(" ", 1+source.Intn(6)/5) + strconv.Itoa(n)
	}
	if word == "new" {
		line += " " + pathsText(stagedCrossings(int64(source.Intn(50)), 13)[3+source.Intn(13)])
	}
	switch source.Intn(15) {
	case 0:
		at := source.Intn(len(line))
		line = line[:at] + string(" 0x1c\t"[source.Intn(6)]) + line[at:]
	case 1:
		at := source.Intn(len(line))
		line = line[:at] + line[at+1:]
	}
	return line
}

func TestConsoleLine(t *testing.T) {
	source := rand.New(rand.NewSource(401))
	answers := map[string]int{}
	for _, o := range someTowns(402, 60) {
		for range 40 {
			after, out := wantLine(t, o, drawLine(source, o))
			answers[out]++
			o = after
		}
	}
	if min(answers["ok"], answers["no"], answers["what"]) < 100 {
		t.Error(answers["ok"], answers["no"], answers["what"])
	}
}

func TestRunConsole(t *testing.T) {
	cases := []struct {
		text string
		want []string
	}{
		// No line; newlines at the end, one and two; empty lines between.
		{"", nil}, {"\n", []string{"what"}}, {"\n\n", []string{"what", "what"}}, {"town", []string{"0 dark 0 0 0 0"}}, {"town\n", []string{"0 dark 0 0 0 0"}}, {"town\n\n", []string{"0 dark 0 0 0 0", "what"}}, {"\ntown", []string{"what", "0 dark 0 0 0 0"}}, {"lights\n\nseen\n", []string{"-", "what", "-"}}, {" ", []string{"what"}}, {"town\r\ntown", []string{"what", "0 dark 0 0 0 0"}},
		// A town goes on from line to line, also over lines that are none.
		{"new 1c02 2c13\ncall 2\nwhat\nrun 7\nlights\ntown", []string{"ok", "ok", "what", "ok", "cr", "7 full 2 1 2 0"}}, {"new 1c02\nnew 2c13\npaths\nnew\npaths\nnew 3c00\npaths\n", []string{"ok", "ok", "2c13", "what", "2c13", "what", "2c13"}}, {"new 3c02 1c02\npaths", []string{"no", "-"}},
		{"town" + strings.Repeat(" ", 197) + "\ntown" + strings.Repeat(" ", 196), []string{"what", "0 dark 0 0 0 0"}},
	}
	for _, c := range cases {
		if got, ok := impl.RunConsole(c.text); !ok || !slices.Equal(got, c.want) {
			t.Errorf("RunConsole(%q) = %q, %v; want %q", c.text, got, ok, c.want)
		}
	}
	// MaxLines lines and one more, with a newline at the end and without, and lines that are empty.
	for _, line := range []string{"audit", "", "x"} {
		for count := 57; count <= 64; count++ {
			text := strings.Repeat(line+"\n", count)
			for lines, text := range map[int]string{count: text, count + 1: text + "audit", count + 2: text + "\naudit\n", count + 3: text + "\n\nx"} {
				got, ok := impl.RunConsole(text)
				if ok != (lines <= 60) || ok && len(got) != lines || !ok && len(got) != 0 {
					t.Errorf("RunConsole of %d lines is %q, %v", lines, got, ok)
				}
			}
		}
	}
	if got, ok := impl.RunConsole(strings.Repeat("\n", 100000)); ok || len(got) != 0 {
		t.Error("too many lines")
	}
}

// Promise 40: the console answers every line, just once and with one line, whatever stands in it, and in the end the town is valid or
// none.
func TestTheConsoleAnswersEveryLine(t *testing.T) {
	source := rand.New(rand.NewSource(403))
	for range 60 {
		o, lines := newTown(cross()), []string{"new 1c02 2c13 3w00 4b31"}
		answers := []string{"ok"}
		for range source.Intn(59) {
			line := drawLine(source, o)
			if source.Intn(10) == 0 {
				noise := make([]byte, source.Intn(12))
				for i := range noise {
					noise[i] = "newcalrut 0123wb\t\x00\xff-"[source.Intn(20)]
				}
				line = string(noise)
			}
			next, answer := impl.ConsoleLine(o, line)
			if answer == "" || strings.Contains(answer, "\n") || !impl.IsTown(next) || answer == "what" && !sameTown(next, o) {
				t.Fatalf("ConsoleLine(%v, %q) = %v, %q", o, line, next, answer)
			}
			o, lines, answers = next, append(lines, line), append(answers, answer)
		}
		text := strings.Join(lines, "\n") + "\n"
		if got, ok := impl.RunConsole(text); !ok || !slices.Equal(got, answers) {
			t.Fatalf("RunConsole(%q) = %q, %v; want %q", text, got, ok, answers)
		}
	}
}

func TestConsolesAreOnCopies(t *testing.T) {
	source := rand.New(rand.NewSource(404))
	for i, o := range append(someTowns(405, 40), notTowns()...) {
		if len(o.Record) > 60 || i%3 > 0 {
			continue
		}
		wantUntouchedTown(t, "a line", o, func(o impl.Town) {
			for _, line := range []string{"", "power 2", "new 1c02 2c13", "new 2c13 1c02", "lights", "audit", drawLine(source, o), drawLine(source, o)} {
				wantOwnTown(t, line, func() impl.Town { after, _ := impl.ConsoleLine(o, line); return after })
			}
		})
	}
	wantOwnList(t, "RunConsole", "x", func() []string { out, _ := impl.RunConsole("new 1c02\ntown\nlights"); return out })
}
