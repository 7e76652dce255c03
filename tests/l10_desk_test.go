package tests

import (
	"fmt"
	"regexp"
	"runtime"
	"slices"
	"strconv"
	"strings"
	"sync"
	"testing"
	"time"

	"loop.example/g00778/impl"
)

// The forms of lines.
var (
	slackForm  = formOf(regexp.MustCompile(`^slack N N$`))
	loadForm   = formOf(regexp.MustCompile(`^load N `))
	oneForm    = formOf(regexp.MustCompile(`^(unload|cancel|tick|stall) N$`))
	submitForm = formOf(regexp.MustCompile(`^submit N N N$`))
	sumForm    = formOf(regexp.MustCompile(`^sum N$`))
)

// wantLines are those of a text, as the chapter says it.
func wantLines(text string) []string {
	lines := strings.Split(text, "\n")
	if last := len(lines) - 1; lines[last] == "" {
		return lines[:last]
	}
	return lines
}

// numbersIn are those behind the verb of a line that has a form.
func numbersIn(line string) []int {
	var list []int
	for _, word := range strings.Fields(line)[1:] {
		x, err := strconv.Atoi(word)
		if err != nil {
			return list
		}
		list = append(list, x)
	}
	return list
}

// wantDeskStep is the step of a line; false where it has none.
func wantDeskStep(r impl.Runtime, line string) (impl.Step, bool) {
	switch {
	case loadForm.MatchString(line):
		m, ok := wantPlan(strings.SplitN(line, " ", 3)[2])
		if !ok {
			return impl.Step{}, false
		}
		return load(numbersIn(line)[0], m), true
	case oneForm.MatchString(line):
		kinds := map[string]int{"unload": 1, "cancel": 3, "tick": 4, "stall": 5}
		return impl.Step{Kind: kinds[strings.Fields(line)[0]], A: numbersIn(line)[0]}, true
	case submitForm.MatchString(line):
		n := numbersIn(line)
		x := impl.Tensor{}
		if n[0] >= 0 && n[0] < 4 && r.Loaded[n[0]] {
			in := r.Models[n[0]].In
			x = impl.Tensor{Shape: in, Data: same(in.H*in.W*in.C, min(max(n[2], -128), 127))}
		}
		return submit(n[0], n[1], x), true
	}
	return impl.Step{}, false
}

// wantAsked is what a line tells that has no step.
func wantAsked(r impl.Runtime, line string) string {
	late, _ := lateAndOthers(r.Sched)
	switch line {
	case "queue":
		return wantQueue(r)
	case "now":
		return fmt.Sprint(r.Sched.Now)
	case "left":
		return fmt.Sprint(total(remains(r.Sched)))
	case "late":
		if len(late) == 0 {
			return "-"
		}
		return strings.Trim(fmt.Sprint(late), "[]")
	}
	if sumForm.MatchString(line) {
		if at := numbersIn(line)[0]; at >= 0 && at < 4 && r.Loaded[at] {
			return fmt.Sprint(wantSum(bytesOf(r.Models[at])))
		}
	}
	return "bad"
}

// wantDesk is what each line tells, and the runtime behind them.
func wantDesk(text string) ([]string, impl.Runtime, bool) {
	lines := wantLines(text)
	if len(text) > 4000 || len(lines) > 100 || slices.ContainsFunc(lines, func(line string) bool { return len(line) > 200 }) {
		return nil, impl.Runtime{}, false
	}
	r, _ := wantNew(0, 1)
	var told []string
	for i, line := range lines {
		x, ok := wantDeskStep(r, line)
		switch {
		case i == 0 && slackForm.MatchString(line):
			told = append(told, "bad")
			if n := numbersIn(line); among(0, 1000, n[0]) && among(0, 20, n[1]) {
				r, _ = wantNew(n[0], n[1])
				told[0] = "ok"
			}
		case ok:
			then, events := wantStep(r, x)
			texts := strings.Join(textsOf(events), "; ")
			if len(events) == 0 {
				texts = "-"
			}
			r, told = then, append(told, texts)
		default:
			told = append(told, wantAsked(r, line))
		}
	}
	return told, r, true
}

// wantDone is what DoStep comes to, one after the other, from what the first line names on.
func wantDone(lines []string) impl.Runtime {
	r, _ := impl.NewRuntime(0, 1)
	if len(lines) > 0 && slackForm.MatchString(lines[0]) {
		n := numbersIn(lines[0])
		if named, ok := impl.NewRuntime(n[0], n[1]); ok {
			r = named
		}
	}
	for _, line := range lines {
		if x, ok := wantDeskStep(r, line); ok {
			r, _ = impl.DoStep(r, x)
		}
	}
	return r
}

func joined(told []string) string {
	if len(told) == 0 {
		return ""
	}
	return strings.Join(told, "\n") + "\n"
}

// checkDesk holds both functions of one text against the chapter, and DeskEnd against DoStep. It answers what each line tells.
func checkDesk(t *testing.T, text string) ([]string, impl.Runtime, bool) {
	t.Helper()
	told, want, wantOk := wantDesk(text)
	out, ok := impl.RunDesk(text)
	if out != joined(told) || ok != wantOk {
		t.Fatalf("RunDesk(%q)\n= %q, %t\nnot %q, %t", text, out, ok, joined(told), wantOk)
	}
	r, ok := impl.DeskEnd(text)
	if ok != wantOk || !equalRuntime(r, want) || !ok && !isZeroRuntime(r) {
		t.Fatalf("DeskEnd(%q)\n= %v, %t\nnot %v, %t", text, r, ok, want, wantOk)
	}
	if ok && (!impl.RuntimeOk(r) || !equalRuntime(r, wantDone(wantLines(text))) || strings.Count(out, "\n") != len(wantLines(text))) {
		t.Fatalf("DeskEnd(%q) = %v, not %v; told are %q", text, r, wantDone(wantLines(text)), out)
	}
	return told, r, ok
}

// said is a line and what it tells.
type said struct{ line, told string }

// checkTalk holds what each line of a talk tells, in letters; with a byte 10 at the end and without.
func checkTalk(t *testing.T, talk []said) impl.Runtime {
	t.Helper()
	var lines, told []string
	for _, s := range talk {
		lines, told = append(lines, s.line), append(told, s.told)
	}
	text := strings.Join(lines, "\n")
	got, r, ok := checkDesk(t, text)
	if !ok || !slices.Equal(got, told) {
		for i := range min(len(got), len(told)) {
			if got[i] != told[i] {
				t.Fatalf("line %d: %q tells %q, not %q", i, lines[i], got[i], told[i])
			}
		}
		t.Fatalf("%q tells %q, %t, not %q", text, got, ok, told)
	}
	if out, ok := impl.RunDesk(text); !ok || out != joined(told) {
		t.Fatalf("%q tells %q, %t", text, out, ok)
	}
	if out, ok := impl.RunDesk(text + "\n"); !ok || out != joined(told) {
		t.Fatalf("%q with a byte 10 behind tells %q, %t", text, out, ok)
	}
	return r
}

const briefPlan = "2x2x1 > relu 0 > max 2 1" // costs 1 and 1

// Each verb in letters, with what it is refused for.
func TestDeskInLetters(t *testing.T) {
	r := checkTalk(t, []said{
		{"slack 2 3", "ok"},
		{"queue", "-"}, {"now", "0"}, {"left", "0"}, {"late", "-"},
		{"load 0 " + briefPlan, "load 0 cost 2"},
		{"load 0 " + briefPlan, "refuse 0 code 1"},
		{"load 4 " + briefPlan, "refuse 0 code 1"},
		{"load -1 " + briefPlan, "refuse 0 code 1"},
		{"load 999999999 " + briefPlan, "refuse 0 code 1"},
		{"load 0", "bad"}, {"load", "bad"}, {"load 1", "bad"}, {"load 1 ", "bad"}, {"load 1 2x2x1", "bad"}, {"load 1 2x2x1 > foo", "bad"}, {"load 9 foo", "bad"}, {"load 1 2x2x1 > max 3 1", "bad"}, {"load 1 2 2x2x1 > relu 0", "bad"}, {"load " + briefPlan, "bad"}, {"load x " + briefPlan, "bad"}, {"load 01 " + briefPlan, "bad"},
		{"load 1 8x8x8 > conv 8 3 1 1000 9 0 1", "refuse 0 code 2"},
		{"load 3 1x1x1 > flat", "load 3 cost 1"},
		{"submit 0 5 300", "admit 1 due 5"},
		{"submit 0 9 -300", "admit 2 due 9"},
		{"submit 0 3 1", "refuse 2 code 6"},
		{"submit 1 50 0", "refuse 2 code 1"}, {"submit 4 50 0", "refuse 2 code 1"}, {"submit -1 50 0", "refuse 2 code 1"}, {"submit -1 -1 -999", "refuse 2 code 1"},
		{"submit 0 -1 0", "refuse 2 code 8"}, {"submit 0 1000001 0", "refuse 2 code 8"}, {"submit 0 1000000 0", "admit 3 due 1000000"},
		{"queue", "1:0/2 0 due 5, 2:0/2 0 due 9, 3:0/2 0 due 1000000"},
		{"left", "6"}, {"late", "-"}, {"now", "0"},
		{"tick 0", "-"}, {"stall 0", "-"}, {"tick 201", "refuse 4 code 8"}, {"tick -1", "refuse 4 code 8"}, {"stall 201", "refuse 5 code 8"}, {"stall -1", "refuse 5 code 8"},
		{"now", "0"},
		{"tick 1", "-"}, {"now", "1"}, {"queue", "1:1/2 1 due 5, 2:0/2 0 due 9, 3:0/2 0 due 1000000"}, {"left", "5"},
		{"stall 2", "-"}, {"now", "3"}, {"left", "5"},
		{"cancel 7", "refuse 3 code 7"}, {"cancel 0", "refuse 3 code 7"}, {"cancel -1", "refuse 3 code 7"}, {"cancel 3", "cancel 3"}, {"cancel 3", "refuse 3 code 7"},
		{"tick 200", "done 1 at 4: 1x1x1: 127; done 2 at 6: 1x1x1: 0"},
		{"now", "203"}, {"left", "0"}, {"queue", "-"},
		{"unload 1", "refuse 1 code 1"}, {"unload 4", "refuse 1 code 1"}, {"unload -1", "refuse 1 code 1"}, {"unload 0", "drop 0"}, {"unload 0", "refuse 1 code 1"},
		{"slack 1 1", "bad"}, {"stall 200", "-"}, {"now", "403"}, {"", "bad"}, {"foo", "bad"},
	})
	if r.Sched.Slack != 2 || r.Sched.Age != 3 || r.Sched.Now != 403 || r.Sched.Next != 4 || !slices.Equal(r.Loaded, []bool{false, false, false, true}) {
		t.Errorf("%v", r)
	}
}

// An X is cut to eight bits, and stands at each place.
func TestSubmitsOfManyNumbers(t *testing.T) {
	for x, cut := range map[string]string{"0": "0", "1": "1", "-1": "-1", "127": "127", "128": "127", "129": "127", "-128": "-128", "-129": "-128", "999999999": "127", "-999999999": "-128"} {
		checkTalk(t, []said{
			{"load 2 2x1x3 > flat", "load 2 cost 1"}, {"submit 2 9 " + x, "admit 1 due 9"}, {"tick 1", "done 1 at 1: 1x1x6:" + strings.Repeat(" "+cut, 6)},
		})
	}
}

// Several events of one line, and several that are late.
func TestSeveralOfALine(t *testing.T) {
	checkTalk(t, []said{
		{"load 0 " + briefPlan, "load 0 cost 2"}, {"load 1 2x2x1 > max 2 1", "load 1 cost 1"},
		{"submit 0 4 1", "admit 1 due 4"}, {"submit 1 5 2", "admit 2 due 5"}, {"submit 0 8 3", "admit 3 due 8"}, {"submit 1 20 4", "admit 4 due 20"}, {"submit 0 30 5", "admit 5 due 30"},
		{"late", "-"}, {"stall 3", "-"}, {"late", "-"}, {"stall 1", "-"}, {"late", "1"}, {"stall 1", "-"}, {"late", "1 2"}, {"stall 3", "-"}, {"late", "1 2 3"}, {"left", "8"},
		{"submit 1 50 0", "refuse 2 code 6"},
		{"unload 0", "cancel 1; cancel 3; cancel 5; drop 0"}, {"late", "2"}, {"queue", "2:0/1 0 due 5, 4:0/1 0 due 20"},
		{"tick 1", "done 2 at 9: 1x1x1: 2"}, {"late", "-"}, {"unload 1", "cancel 4; drop 1"}, {"queue", "-"},
	})
	// As many at once as there may be.
	talk := []said{{"load 3 1x1x1 > relu -7", "load 3 cost 1"}}
	var done, gone []string
	for i := 1; i <= 12; i++ {
		talk = append(talk, said{"submit 3 90 " + strconv.Itoa(-i), fmt.Sprintf("admit %d due 90", i)})
		done = append(done, fmt.Sprintf("done %d at %d: 1x1x1: %d", i, i, max(-i, -7)))
		gone = append(gone, fmt.Sprintf("cancel %d", i))
	}
	talk = append(talk, said{"submit 3 90 1", "refuse 2 code 5"})
	checkTalk(t, append(slices.Clone(talk), said{"tick 20", strings.Join(done, "; ")}))
	checkTalk(t, append(slices.Clone(talk), said{"unload 3", strings.Join(gone, "; ") + "; drop 3"}))
	checkTalk(t, append(slices.Clone(talk), said{"stall 90", "-"}, said{"late", "1 2 3 4 5 6 7 8 9 10 11 12"}, said{"left", "12"}))
}

func TestSumsOfADesk(t *testing.T) {
	flatSum, _ := impl.EncodeModel(model(shape(1, 1, 1), flat()))
	briefSum, _ := impl.EncodeModel(brief())
	one, two := strconv.Itoa(impl.SumOf(flatSum)), strconv.Itoa(impl.SumOf(briefSum))
	checkTalk(t, []said{
		{"sum 0", "bad"}, {"load 0 1x1x1 > flat", "load 0 cost 1"}, {"load 3 " + briefPlan, "load 3 cost 2"},
		{"sum 0", one}, {"sum 3", two}, {"sum 1", "bad"}, {"sum 2", "bad"}, {"sum 4", "bad"}, {"sum -1", "bad"}, {"sum 999999999", "bad"}, {"sum -999999999", "bad"},
		{"sum", "bad"}, {"sum x", "bad"}, {"sum 00", "bad"}, {"sum 0 0", "bad"}, {"sum 0 ", "bad"}, {"sum -0", "bad"}, {"sum +0", "bad"},
		{"unload 0", "drop 0"}, {"sum 0", "bad"}, {"sum 3", two},
	})
}

// What the first line names, where NewRuntime takes it; a later one is bad.
func TestSlackLines(t *testing.T) {
	named := map[string][2]int{
		"slack 0 0": {0, 0}, "slack 0 1": {0, 1}, "slack 5 7": {5, 7}, "slack 1000 20": {1000, 20}, "slack 1000 0": {1000, 0}, "slack 0 20": {0, 20}, "slack 999 19": {999, 19},
	}
	for line, want := range named {
		for _, rest := range [][]said{nil, {{"now", "0"}}, {{"slack 3 4", "bad"}}, {{"slack 3 4", "bad"}, {line, "bad"}, {"slack 2000 1", "bad"}, {"queue", "-"}}} {
			r := checkTalk(t, append([]said{{line, "ok"}}, rest...))
			if r.Sched.Slack != want[0] || r.Sched.Age != want[1] {
				t.Errorf("%q gives %v", line, r.Sched)
			}
		}
		for _, ahead := range []string{"", "now", "bad", "slack", "slack 1001 1", "slack 0", " ", "tick 0"} {
			_, r, ok := checkDesk(t, ahead+"\n"+line+"\n"+line)
			if out, _ := impl.RunDesk(ahead + "\n" + line + "\n" + line); !ok || !strings.HasSuffix(out, "\nbad\nbad\n") || r.Sched.Slack != 0 || r.Sched.Age != 1 {
				t.Errorf("%q behind %q tells %q and gives %v", line, ahead, out, r.Sched)
			}
		}
	}
	for _, line := range []string{
		"slack 1001 1", "slack 0 21", "slack -1 1", "slack 0 -1", "slack 999999999 999999999", "slack 1001 21", "slack", "slack ", "slack 0", "slack 0 ", "slack 0 1 ", "slack 0 1 2", "slack 0 1 x", "slack  0 1", "slack 0  1", " slack 0 1", "slack x 1", "slack 0 x", "slack 00 1", "slack 0 01", "slack -0 1", "slack +1 1", "slack 0\t1", "slack\t0 1", "slack 0 1\r", "slack 0,1", "Slack 0 1", "slacks 0 1", "slac 0 1", "slack 1000000000 1", "slack 5 5 2x2x1 > relu 0", "slack 5 2x2x1 > relu 0", "",
	} {
		for _, rest := range [][]said{{{"now", "0"}}, {{"slack 3 4", "bad"}, {line, "bad"}, {"now", "0"}}} {
			r := checkTalk(t, append([]said{{line, "bad"}}, rest...))
			if r.Sched.Slack != 0 || r.Sched.Age != 1 {
				t.Errorf("%q gives %v", line, r.Sched)
			}
		}
	}
	// The slack counts: with 3 there is no time.
	for slack, told := range []string{"admit 1 due 4", "admit 1 due 4", "admit 1 due 4", "refuse 2 code 6"} {
		checkTalk(t, []said{{fmt.Sprintf("slack %d 1", slack), "ok"}, {"load 0 " + briefPlan, "load 0 cost 2"}, {"submit 0 4 1", told}})
	}
	// The age counts: without one, who is late waits until the other one is done.
	for age, told := range []string{"done 2 at 9: 1x1x1: 2; done 1 at 11: 1x1x1: 1", "done 1 at 9: 1x1x1: 1; done 2 at 11: 1x1x1: 2"} {
		checkTalk(t, []said{{fmt.Sprintf("slack 0 %d", age), "ok"}, {"load 0 " + briefPlan, "load 0 cost 2"}, {"submit 0 5 1", "admit 1 due 5"}, {"submit 0 50 2", "admit 2 due 50"}, {"stall 7", "-"}, {"tick 9", told}})
	}
}

// A text whose first line is no slack line has the runtime of slack 0 and age 1.
func TestDesksWithoutASlackLine(t *testing.T) {
	want, _ := wantNew(0, 1)
	for _, text := range []string{"", "\n", "now", "bad\nslack 7 7", "slack 1001 1", "\nslack 7 7"} {
		if _, r, ok := checkDesk(t, text); !ok || !equalRuntime(r, want) {
			t.Errorf("%q gives %v, %t", text, r, ok)
		}
	}
}

// The lines of a text: ahead of each byte 10, and what is behind the last one, if that is not empty.
func TestLinesOfAText(t *testing.T) {
	for text, want := range map[string]string{
		"": "", "\n": "bad\n", "\n\n": "bad\nbad\n", "now": "0\n", "now\n": "0\n", "now\n\n": "0\nbad\n", "\nnow": "bad\n0\n", "now\nnow": "0\n0\n", "now\n\nnow": "0\nbad\n0\n", "now\n\n\nnow\n": "0\nbad\nbad\n0\n",
		"now\r\nnow\r\n": "bad\nbad\n", "now\rnow": "bad\n", "now\x00": "bad\n", "now\v": "bad\n", "now\f": "bad\n", "now\u2028now": "bad\n", "now\u0085": "bad\n", " ": "bad\n", " \n": "bad\n", "now\n ": "0\nbad\n", "\x00": "bad\n", "\xff\n\xfe": "bad\nbad\n", "now now": "bad\n", "now;now": "bad\n",
	} {
		if out, ok := impl.RunDesk(text); !ok || out != want {
			t.Errorf("%q tells %q, %t, not %q", text, out, ok, want)
		}
		checkDesk(t, text)
	}
}

// rightLines are one of each verb; none of them is bad behind deskHead.
func rightLines() []string {
	return []string{"load 1 2x2x1 > relu 0", "unload 0", "submit 0 50 7", "cancel 1", "tick 3", "stall 4", "queue", "now", "left", "late", "sum 0"}
}

const deskHead = "slack 1 2\nload 0 " + briefPlan + "\nsubmit 0 40 5\ntick 1\n"

// wrongLines are like line, each with one thing wrong.
func wrongLines(line string) []string {
	verb, rest, _ := strings.Cut(line, " ")
	list := []string{"", " " + line, line + " ", line + "  ", "\t" + line, line + "\t", line + "\r", line + "\x00", "  " + line, strings.ToUpper(line), strings.ToUpper(line[:1]) + line[1:], line[1:], "x" + line, "un" + line, line + ";", line + " now", line + " x", line + " -", line + " 2x2x1 > relu 0 > flat > x", "load " + line, "1 " + line, rest, verb + "s " + rest, verb + ":" + rest, verb + ". " + rest}
	words := strings.Split(line, " ")
	if verb == "load" {
		words = []string{"load", "1", "2x2x1 > relu 0"}
	} else {
		list = append(list, line+" 0", line+" 1", line+" 1 1", line+" 2x2x1 > relu 0", line+" > relu 0")
	}
	for i := range words {
		list = append(list, strings.Join(slices.Delete(slices.Clone(words), i, i+1), " "))
		for _, gap := range []string{"  ", "\t", "\r", "\u00a0", ",", ""} {
			if i > 0 {
				list = append(list, strings.Join(words[:i], " ")+gap+strings.Join(words[i:], " "))
			}
		}
		if i > 0 && i < 4 && verb != "load" || i == 1 {
			for _, word := range notNumbers() {
				other := slices.Clone(words)
				other[i] = word
				list = append(list, strings.Join(other, " "))
			}
		}
		for _, word := range []string{"", "x", "5", "-"} {
			if i > 0 {
				list = append(list, strings.Join(slices.Insert(slices.Clone(words), i, word), " "))
			}
		}
	}
	return list
}

// Each verb with a word too few, too many, or that is no number, with other blanks and with another name: the line is bad, and does nothing.
func TestLinesThatAreBad(t *testing.T) {
	_, before, _ := checkDesk(t, deskHead)
	bad := 0
	for _, line := range rightLines() {
		if told, _, _ := checkDesk(t, deskHead+line); told[4] == "bad" {
			t.Errorf("%q is bad", line)
		}
		for _, other := range wrongLines(line) {
			if slices.Contains(rightLines(), other) {
				t.Errorf("%q is right", other)
			}
			told, r, ok := checkDesk(t, deskHead+other+"\nnow")
			if !ok || len(told) != 6 || told[4] != "bad" || told[5] != "1" || !equalRuntime(r, before) {
				t.Errorf("%q tells %q, %t", other, told, ok)
			}
			bad++
		}
	}
	for _, line := range []string{"foo", "help", "quit", "step 1", "run 1", "done 1", "drop 0", "admit 1", "Slack 0 1", "ticks 1", "wait 1", "0", "1", "-", "> relu 0", briefPlan, "2x2x1", "loaded 0 " + briefPlan, strings.Repeat("x", 200), strings.Repeat(" ", 200), strings.Repeat("1 ", 100), "tick" + strings.Repeat(" 1", 90)} {
		if told, r, ok := checkDesk(t, deskHead+line); !ok || told[4] != "bad" || !equalRuntime(r, before) {
			t.Errorf("%q tells %q, %t", line, told, ok)
		}
		bad++
	}
	if bad < 700 {
		t.Errorf("only %d lines are bad", bad)
	}
}

// Numbers of lines: those that are none are bad, and of those that are the runtime says what it does with them.
func TestNumbersOfLines(t *testing.T) {
	for word, want := range map[string]string{"0": "-", "1": "-", "200": "done 1 at 2: 1x1x1: 5", "201": "refuse 4 code 8", "-1": "refuse 4 code 8", "999999999": "refuse 4 code 8", "-999999999": "refuse 4 code 8", "1000000000": "bad", "-1000000000": "bad", "00": "bad", "-0": "bad", "01": "bad", "-01": "bad", "-": "bad", "+1": "bad", "1-": "bad", "--1": "bad"} {
		checkTalk(t, []said{{"load 0 " + briefPlan, "load 0 cost 2"}, {"submit 0 40 5", "admit 1 due 40"}, {"tick " + word, want}})
	}
	for word, want := range map[string]string{"0": "-", "200": "-", "201": "refuse 5 code 8", "-1": "refuse 5 code 8", "0200": "bad"} {
		checkTalk(t, []said{{"stall " + word, want}})
	}
	for _, line := range []string{"unload N", "cancel N", "tick N", "stall N", "sum N", "submit N 1 1", "submit 0 N 1", "submit 0 50 N", "load N " + briefPlan, "slack N 1", "slack 1 N"} {
		for _, word := range append(notNumbers(), "0", "1", "2", "3", "4", "-1", "127", "128", "-128", "-129", "200", "201", "1000", "1001", "999999999", "-999999999", "1000000", "1000001") {
			text := strings.Replace(line, "N", word, 1)
			told, _, ok := checkDesk(t, deskHead+text)
			first, _, _ := checkDesk(t, text+"\nnow")
			if !numberForm.MatchString(word) && (!ok || told[4] != "bad" || first[0] != "bad") {
				t.Errorf("%q tells %q and %q", text, told, first)
			}
		}
	}
}

// A line may have 200 bytes, and not 201, wherever it stands.
func TestBytesOfALine(t *testing.T) {
	for _, size := range []int{198, 199, 200, 201, 202, 1000} {
		for _, long := range []string{strings.Repeat("x", size), strings.Repeat(" ", size), strings.Repeat("1", size), strings.Repeat("x", size-1) + "\r", strings.Repeat("x", size-2) + "é"} {
			for _, text := range []string{long, long + "\n", "now\n" + long, long + "\nnow", "now\n" + long + "\nnow\n", strings.Repeat("now\n", 99) + long, strings.Repeat("now\n", 99) + long + "\n"} {
				told, _, ok := checkDesk(t, text)
				if ok != (size <= 200) || ok && !slices.Contains(told, "bad") {
					t.Errorf("with a line of %d bytes: %q, %t", size, told, ok)
				}
			}
		}
	}
	// A load of 200 bytes is carried out; a plan by itself of 200 bytes does not fit into a line.
	for size := 180; size <= 200; size++ {
		plan := planOf(t, size)
		told, r, ok := checkDesk(t, "load 1 "+plan)
		fits := len("load 1 ")+size <= 200
		if ok != fits || fits && (!r.Loaded[1] || !strings.HasPrefix(told[0], "load 1 cost ")) {
			t.Errorf("with a plan of %d bytes: %q, %t", size, told, ok)
		}
	}
}

// A text may have 100 lines, and not 101.
func TestNumberOfLines(t *testing.T) {
	for _, line := range []string{"now", "", "x", "stall 1", strings.Repeat("x", 30), "queue"} {
		for n := 97; n <= 103; n++ {
			lines := slices.Repeat([]string{line}, n)
			text := strings.Join(lines, "\n")
			if line != "" {
				if told, _, ok := checkDesk(t, text); ok != (n <= 100) || ok && len(told) != n {
					t.Errorf("of %d lines %q: %d, %t", n, line, len(told), ok)
				}
			}
			if told, _, ok := checkDesk(t, text+"\n"); ok != (n <= 100) || ok && len(told) != n {
				t.Errorf("of %d lines %q with a byte 10 behind each: %d, %t", n, line, len(told), ok)
			}
		}
	}
	// What stands behind the last byte 10 is a line only if it is not empty.
	for _, end := range []string{"", "x", " ", "now", "\n", "\r"} {
		if _, _, ok := checkDesk(t, strings.Repeat("now\n", 100)+end); ok != (end == "") {
			t.Errorf("100 lines with %q behind: %t", end, ok)
		}
	}
}

// A text may have 4000 bytes, and not 4001.
func TestBytesOfAText(t *testing.T) {
	for _, size := range []int{39, 79, 99, 199} {
		text := strings.Repeat(strings.Repeat("x", size)+"\n", 4000/(size+1))
		for _, c := range []struct {
			text string
			want bool
		}{
			{text, true}, {text[1:], true}, {text[:3999], true}, {"x" + text[:3999], true}, {"x" + text, false}, {text + "\n", false}, {text + "x", false}, {text + text, false},
		} {
			told, r, ok := checkDesk(t, c.text)
			if ok != c.want || ok && len(told) != 4000/(size+1) || !ok && !isZeroRuntime(r) {
				t.Errorf("%d bytes in lines of %d: %t, %d lines", len(c.text), size, ok, len(told))
			}
		}
	}
	// Each limit alone, and all of them at once.
	for _, text := range []string{strings.Repeat("x", 4000), strings.Repeat("x", 4001), strings.Repeat("\n", 4000), strings.Repeat("\n", 4001), strings.Repeat("now\n", 1000), strings.Repeat("x", 1<<20), strings.Repeat("\n", 1<<20)} {
		if out, ok := impl.RunDesk(text); ok || out != "" {
			t.Errorf("%d bytes: %q", len(text), out)
		}
		checkDesk(t, text)
	}
}

// drawLine is mostly right, and mostly not refused.
func drawLine(next func(n int) int) string {
	plans := []string{briefPlan, "2x2x1 > max 2 1", "1x2x2 > dense 3 1000000 3 1 -9 > relu 0", "4x4x1 > conv 4 3 1 900000 2 5 3 > flat", "3x3x1 > avg 2 1 > relu -5 > max 2 1 > flat", "8x8x8 > relu 3 > avg 3 2", "8x8x8 > conv 8 3 1 1 1 1 1", "2x2x1", "2x2x1 > max 3 1"}
	switch next(16) {
	case 0, 1, 2:
		return fmt.Sprintf("load %d %s", next(6)-1, plans[next(len(plans))])
	case 3:
		return fmt.Sprintf("unload %d", next(12)-1)
	case 4, 5, 6:
		return fmt.Sprintf("submit %d %d %d", next(4), next(80)-1, next(400)-200)
	case 7:
		return fmt.Sprintf("cancel %d", next(12))
	case 8, 9:
		return fmt.Sprintf("tick %d", next(9))
	case 10:
		return []string{"tick 30", "tick 200", "tick 201", "tick -1", "stall 200", "stall 201", "stall 30"}[next(7)]
	case 11:
		return fmt.Sprintf("stall %d", next(30))
	case 12:
		return fmt.Sprintf("sum %d", next(5)-1)
	case 13:
		return fmt.Sprintf("slack %d %d", next(6), next(4))
	}
	return []string{"queue", "now", "left", "late"}[next(4)]
}

// turned is text with one byte put, left out or turned.
func turned(text string, next func(n int) int) string {
	if text == "" {
		return text
	}
	at, sign := next(len(text)), string(" 0123456789-+x>lqsut\t\r\n"[next(23)])
	return []string{text[:at] + sign + text[at+1:], text[:at] + sign + text[at:], text[:at] + text[at+1:]}[next(3)]
}

// drawTalk has up to so many lines; its first one may be a slack line. One line of so many is turned; where it is crowded, many requests have time.
func drawTalk(next func(n int) int, most, rare int) string {
	var lines []string
	if next(3) > 0 {
		lines = append(lines, fmt.Sprintf("slack %d %d", next(4), next(4)))
	}
	lines = append(lines, "load 0 "+briefPlan)
	crowded := next(3) == 0
	for range next(most) {
		line := drawLine(next)
		if crowded && next(2) == 0 {
			line = fmt.Sprintf("submit 0 %d %d", 500+next(100), next(100))
		}
		if next(rare) == 0 {
			line = turned(line, next)
		}
		lines = append(lines, line)
	}
	return strings.Join(lines, "\n") + strings.Repeat("\n", next(2))
}

// Promise 13: over drawn talks DeskEnd is what DoStep, one after the other, comes to, and RunDesk tells as many lines as there are.
func TestDrawnTalks(t *testing.T) {
	next := draws(30)
	counts := map[string]int{}
	for i := range 900 {
		text := drawTalk(next, 90, 3+i%20)
		told, r, ok := checkDesk(t, text)
		if !ok {
			counts["no talk"]++
			continue
		}
		for k, line := range wantLines(text) {
			verb, _, _ := strings.Cut(line, " ")
			kind, _, _ := strings.Cut(told[k], " ")
			counts[verb+": "+kind]++
			if kind == "refuse" {
				counts[told[k]]++
			}
			if strings.Contains(told[k], "; ") {
				counts[verb+" of several"]++
			}
			if verb == "late" && strings.Contains(told[k], " ") {
				counts["several are late"]++
			}
		}
		counts[fmt.Sprintf("age %d", r.Sched.Age)]++
	}
	for _, want := range []string{"load: load", "load: bad", "unload: drop", "unload: cancel", "unload of several", "submit: admit", "cancel: cancel", "tick: done", "tick: -", "tick of several", "stall: -", "slack: ok", "slack: bad", "queue: -", "late: -", "several are late", "sum: bad", "age 0", "age 1", "age 2", "age 3",
		"refuse 0 code 1", "refuse 0 code 2", "refuse 1 code 1", "refuse 2 code 1", "refuse 2 code 5", "refuse 2 code 6", "refuse 2 code 8", "refuse 3 code 7", "refuse 4 code 8", "refuse 5 code 8"} {
		if counts[want] < 10 {
			t.Errorf("%q: only %d", want, counts[want])
		}
	}
}

// Behind each line of a talk the runtime is what DoStep comes to, and the lines tell the same, whatever stands behind them.
func TestTalksThatAreCut(t *testing.T) {
	next := draws(31)
	for range 25 {
		text := drawTalk(next, 60, 10)
		all, _, ok := checkDesk(t, text)
		for n, lines := 0, wantLines(text); ok && n <= len(lines); n++ {
			told, _, ok := checkDesk(t, strings.Join(lines[:n], "\n"))
			if !ok || len(told) == n && !slices.Equal(told, all[:n]) {
				t.Fatalf("%d lines of %q tell %q, %t, not %q", n, text, told, ok, all[:n])
			}
		}
	}
}

// Texts of any bytes are answered.
func TestDesksOfAnyBytes(t *testing.T) {
	next := draws(32)
	for i := range 4000 {
		b := make([]byte, next(300))
		for k := range b {
			b[k] = byte(next(256))
			if i%2 == 0 {
				b[k] = " 0123456789x>-\nloadtickqueuesubmit"[next(34)]
			}
		}
		text := string(b)
		checkDesk(t, text)
		checkPlan(t, text)
		if m, ok := impl.ParsePlan(text); ok {
			t.Errorf("%q is %v", text, m)
		}
	}
}

// A runtime that is answered is new memory, no two lists of it share any, and nothing of it is kept from one call to another.
func TestDeskAnswersAreNew(t *testing.T) {
	talks := []string{"", deskHead, "load 0 " + briefPlan + "\nload 1 " + briefPlan + "\nload 3 4x4x1 > conv 4 3 1 900000 2 5 3 > dense 2 1 1 1 1\nsubmit 3 90 5\nsubmit 3 90 5\nsubmit 0 190 5\nsubmit 0 195 5\ntick 4\nsubmit 3 200 5"}
	next := draws(33)
	for range 20 {
		talks = append(talks, drawTalk(next, 60, 30))
	}
	for _, text := range talks {
		r, ok := impl.DeskEnd(text)
		if !ok {
			continue
		}
		checkOwnRuntime(t, r, nil)
		overwriteRuntime(r)
		checkDesk(t, text)
	}
}

// The same call gives the same answer each time, also when several are under way at once.
func TestDesksAreTheSameEachTime(t *testing.T) {
	next := draws(34)
	talks := []string{strings.Repeat("now\n", 100), strings.Repeat("now\n", 101), deskHead + strings.Repeat("x", 201) + "\nnow", "", "\n"}
	for range 5 {
		talks = append(talks, drawTalk(next, 80, 9))
	}
	for _, text := range talks {
		told, want, wantOk := wantDesk(text)
		var all sync.WaitGroup
		for range 8 {
			all.Go(func() {
				for range 10 {
					out, ok := impl.RunDesk(text)
					r, okToo := impl.DeskEnd(text)
					if out != joined(told) || ok != wantOk || okToo != wantOk || !equalRuntime(r, want) {
						t.Errorf("%q tells %q, %t, not %q, %t", text, out, ok, joined(told), wantOk)
					}
				}
			})
		}
		all.Wait()
	}
}

// No goroutine is left behind a desk, nor behind a text that is left ahead of its end.
func TestNoGoroutineIsLeftAtTheDesk(t *testing.T) {
	next := draws(35)
	before := runtime.NumGoroutine()
	for range 20 {
		for _, text := range []string{drawTalk(next, 60, 9), strings.Repeat("now\n", 200), strings.Repeat("x", 300) + "\nnow\nnow", "now\n" + strings.Repeat("x", 201), "", strings.Repeat("x", 5000)} {
			impl.RunDesk(text)
			impl.DeskEnd(text)
		}
	}
	for range 200 {
		if runtime.NumGoroutine() <= before {
			return
		}
		time.Sleep(10 * time.Millisecond)
	}
	t.Errorf("%d goroutines are left", runtime.NumGoroutine()-before)
}
