package tests

import (
	"fmt"
	"regexp"
	"slices"
	"strconv"
	"strings"
	"testing"

	"loop.example/g00778/impl"
)

// number is what the chapter takes for one.
const number = `(?:0|-?[1-9][0-9]{0,8})`

var planForm = regexp.MustCompile(`^N(xN){2}( > (dense( N){5}|conv( N){7}|max( N){2}|avg( N){2}|relu N|flat))*$`)

var numberForm = regexp.MustCompile(`^` + number + `$`)

// formOf is the form in which each N stands for a number.
func formOf(form *regexp.Regexp) *regexp.Regexp {
	return regexp.MustCompile(strings.ReplaceAll(form.String(), "N", number))
}

var wantPlanForm = formOf(planForm)

// uniform is l with as many Weights as it wants, each x, and Biases of 0; without any where it wants none or too many.
func uniform(l impl.Layer, each, x int) impl.Layer {
	if among(1, 8, l.Out) && among(0, 600, each) {
		l.Weights, l.Bias = same(l.Out*each, x), same(l.Out, 0)
	}
	return l
}

func wantPlanLayer(s impl.Shape, text string) impl.Layer {
	words := strings.Fields(text)
	n := make([]int, 8)
	for i, word := range words[1:] {
		n[i], _ = strconv.Atoi(word)
	}
	switch words[0] {
	case "dense":
		return uniform(impl.Layer{Kind: 0, Out: n[0], Mult: n[1] * 1000, Shift: n[2], Zero: n[3]}, s.H*s.W*s.C, n[4])
	case "conv":
		if !among(1, 3, n[1]) {
			return impl.Layer{}
		}
		return uniform(impl.Layer{Kind: 1, Out: n[0], Size: n[1], Step: n[2], Mult: n[3] * 1000, Shift: n[4], Zero: n[5]}, n[1]*n[1]*s.C, n[6])
	case "max":
		return pool(2, n[0], n[1])
	case "avg":
		return pool(3, n[0], n[1])
	case "relu":
		return relu(n[0])
	}
	return flat()
}

// wantPlan is the model of a plan, by the chapter's table.
func wantPlan(text string) (impl.Model, bool) {
	if len(text) > 200 || !wantPlanForm.MatchString(text) {
		return impl.Model{}, false
	}
	parts := strings.Split(text, " > ")
	var m impl.Model
	if n, err := fmt.Sscanf(parts[0], "%dx%dx%d", &m.In.H, &m.In.W, &m.In.C); n != 3 || err != nil {
		panic(text)
	}
	s := m.In
	for _, part := range parts[1:] {
		l := wantPlanLayer(s, part)
		then, ok := wantShape(s, l)
		if !ok {
			return impl.Model{}, false
		}
		m.Layers, s = append(m.Layers, l), then
	}
	if !wantOk(m) {
		return impl.Model{}, false
	}
	return m, true
}

// wantPlanText is the plan of a model, where there is one.
func wantPlanText(m impl.Model) (string, bool) {
	if !wantOk(m) {
		return "", false
	}
	text := fmt.Sprintf("%dx%dx%d", m.In.H, m.In.W, m.In.C)
	for _, l := range m.Layers {
		if l.Mult%1000 != 0 || slices.ContainsFunc(l.Weights, func(x int) bool { return x != l.Weights[0] }) || slices.ContainsFunc(l.Bias, func(x int) bool { return x != 0 }) {
			return "", false
		}
		switch l.Kind {
		case 0:
			text += fmt.Sprintf(" > dense %d %d %d %d %d", l.Out, l.Mult/1000, l.Shift, l.Zero, l.Weights[0])
		case 1:
			text += fmt.Sprintf(" > conv %d %d %d %d %d %d %d", l.Out, l.Size, l.Step, l.Mult/1000, l.Shift, l.Zero, l.Weights[0])
		case 2:
			text += fmt.Sprintf(" > max %d %d", l.Size, l.Step)
		case 3:
			text += fmt.Sprintf(" > avg %d %d", l.Size, l.Step)
		case 4:
			text += fmt.Sprintf(" > relu %d", l.Zero)
		case 5:
			text += " > flat"
		}
	}
	if len(text) > 200 {
		return "", false
	}
	return text, true
}

// checkPlan holds ParsePlan of one text against the chapter, and that its PlanText is the text again.
func checkPlan(t *testing.T, text string) bool {
	t.Helper()
	want, wantOk := wantPlan(text)
	got, ok := impl.ParsePlan(text)
	if ok != wantOk || !impl.SameModel(got, want) || ok != impl.ModelOk(got) {
		t.Fatalf("ParsePlan(%q) = %v, %t, not %v, %t", text, got, ok, want, wantOk)
	}
	if !ok && !isZeroModel(got) {
		t.Fatalf("ParsePlan(%q) = %v", text, got)
	}
	if again, written := impl.PlanText(got); ok && (!written || again != text) || written != ok {
		t.Fatalf("PlanText of %q = %q, %t", text, again, written)
	}
	return ok
}

// checkPlanText holds PlanText of one model, right or not, against the chapter, and that its ParsePlan is the model again.
func checkPlanText(t *testing.T, m impl.Model) bool {
	t.Helper()
	want, wantOk := wantPlanText(m)
	got, ok := impl.PlanText(m)
	if got != want || ok != wantOk {
		t.Fatalf("PlanText(%v) = %q, %t, not %q, %t", m, got, ok, want, wantOk)
	}
	if again, read := impl.ParsePlan(got); ok && (!read || !impl.SameModel(again, m)) {
		t.Fatalf("ParsePlan(%q) = %v, %t, not %v", got, again, read, m)
	}
	return ok
}

// goodPlans have each kind of layer at the first place, between and at the last, and each number of layers.
func goodPlans() []string {
	return []string{
		"1x1x1 > flat",
		"2x2x1 > relu 0 > max 2 1",
		"3x3x1 > conv 2 2 1 1500000 3 0 4 > relu -2",
		"8x8x2 > avg 2 2 > conv 3 2 1 1000000 6 0 -128 > relu -20 > max 3 2 > flat > dense 2 1000000 4 9 127",
		"1x1x8 > dense 8 2147483 31 127 -128 > dense 1 0 0 -128 0 > dense 8 1 4 -1 1",
		"4x4x4 > dense 8 1073741 7 0 10 > conv 8 1 1 1073741 5 1 -7 > avg 1 2 > relu 127 > flat",
		"8x8x8 > conv 8 3 2 2147483 0 -7 2",
		"5x7x3 > max 3 1 > avg 1 1 > avg 3 2",
		"2x3x4 > relu -128 > relu 127 > relu 0 > relu 10 > relu -10 > relu 100",
		"2x1x4 > flat > flat > flat > flat",
	}
}

func TestDeskLimits(t *testing.T) {
	if impl.MaxTalk != 4000 || impl.MaxTalkLines != 100 || impl.MaxLineBytes != 200 {
		t.Error("a limit is another")
	}
}

// Each kind of layer, field by field.
func TestPlansInFields(t *testing.T) {
	for _, c := range []struct {
		text string
		m    impl.Model
	}{
		{"1x2x3 > flat", model(shape(1, 2, 3), flat())},
		{"4x5x6 > relu -7", model(shape(4, 5, 6), relu(-7))},
		{"4x5x6 > max 3 2", model(shape(4, 5, 6), pool(2, 3, 2))},
		{"4x5x6 > avg 2 1", model(shape(4, 5, 6), pool(3, 2, 1))},
		{"1x2x3 > dense 2 1500 9 -4 -5", model(shape(1, 2, 3), impl.Layer{Kind: 0, Out: 2, Mult: 1500000, Shift: 9, Zero: -4, Weights: same(12, -5), Bias: same(2, 0)})},
		{"4x5x2 > conv 3 2 1 77 8 6 9", model(shape(4, 5, 2), impl.Layer{Kind: 1, Out: 3, Size: 2, Step: 1, Mult: 77000, Shift: 8, Zero: 6, Weights: same(24, 9), Bias: same(3, 0)})},
		// The Weights are as many as the Shape that comes to the layer wants, not that of In.
		{"4x5x2 > max 2 2 > dense 1 0 0 0 3", model(shape(4, 5, 2), pool(2, 2, 2), impl.Layer{Kind: 0, Out: 1, Weights: same(8, 3), Bias: same(1, 0)})},
		{"2x2x1 > conv 5 1 1 1 1 1 1 > conv 1 2 2 3 4 5 0", model(shape(2, 2, 1),
			impl.Layer{Kind: 1, Out: 5, Size: 1, Step: 1, Mult: 1000, Shift: 1, Zero: 1, Weights: same(5, 1), Bias: same(5, 0)},
			impl.Layer{Kind: 1, Out: 1, Size: 2, Step: 2, Mult: 3000, Shift: 4, Zero: 5, Weights: same(20, 0), Bias: same(1, 0)})},
	} {
		got, ok := impl.ParsePlan(c.text)
		if !ok || !impl.SameModel(got, c.m) {
			t.Errorf("ParsePlan(%q) = %v, %t, not %v", c.text, got, ok, c.m)
		}
		if text, ok := impl.PlanText(c.m); !ok || text != c.text {
			t.Errorf("PlanText(%v) = %q, %t, not %q", c.m, text, ok, c.text)
		}
		checkPlan(t, c.text)
		checkPlanText(t, c.m)
	}
}

func TestGoodPlans(t *testing.T) {
	for _, text := range goodPlans() {
		if !checkPlan(t, text) {
			t.Errorf("%q is not read", text)
		}
	}
}

// notNumbers are words that are none; the last ones are right but for other letters.
func notNumbers() []string {
	return []string{"", "-0", "00", "01", "-01", "-00", "-", "--1", "+1", "+0", "1000000000", "-1000000000", "0000000001", "1-", "1_0", "1.0", "1e2", "0x1", "x", "one", "1\t", "\t1", "1\r", "\x001", "1\xff", "１", "٣", "²"}
}

// Each number of each plan is put by words that are numbers, in the bounds of the field or not, and by words that are none.
func TestEachNumberOfAPlan(t *testing.T) {
	numbers := []string{"0", "1", "2", "-1", "3", "8", "9", "31", "32", "-128", "127", "128", "-129", "2147483", "2147484", "123456789", "999999999", "-999999999"}
	digits := regexp.MustCompile(`-?[0-9]+`)
	read := map[string]int{}
	for _, text := range goodPlans() {
		for _, at := range digits.FindAllStringIndex(text, -1) {
			put := func(word string) string { return text[:at[0]] + word + text[at[1]:] }
			for _, word := range numbers {
				if checkPlan(t, put(word)) {
					read[word]++
				}
			}
			for _, word := range notNumbers() {
				if numberForm.MatchString(word) || checkPlan(t, put(word)) {
					t.Errorf("%q is read", put(word))
				}
			}
		}
	}
	// No field may have -129, and no Mult more than 2147483.
	for i, word := range numbers {
		if bad := word == "-129" || i >= 14; (read[word] == 0) != bad {
			t.Errorf("%s is read in %d plans", word, read[word])
		}
	}
}

// Numbers of 9 digits are numbers, though no field may have one; of 10 digits they are none.
func TestNumbersOfManyDigits(t *testing.T) {
	for _, word := range []string{"999999999", "-999999999", "1000000000", "-1000000000", "18446744073709551617", strings.Repeat("9", 60)} {
		for _, text := range []string{"Nx1x1 > flat", "1x1xN > conv 1 1 1 1 1 1 1", "1x1x1 > relu N", "1x1x1 > dense N 1 1 1 1", "1x1x1 > dense 1 1 N 1 1", "2x2x1 > conv 8 N 1 1 1 1 1", "2x2x1 > conv N N N N N N N", "2x2x1 > max N 1"} {
			if text = strings.ReplaceAll(text, "N", word); checkPlan(t, text) {
				t.Errorf("%q is read", text)
			}
		}
	}
}

func TestSidesOfAPlan(t *testing.T) {
	for head, want := range map[string]bool{
		"2x2x1": true, "8x8x8": true, "1x1x1": true, "9x1x1": false, "1x9x1": false, "1x1x9": false, "0x1x1": false, "1x0x1": false, "1x1x0": false, "-1x1x1": false, "1x1x-1": false,
		"2x2": false, "2": false, "": false, "2x2x1x1": false, "2x2x": false, "x2x2": false, "2xx1": false, "x": false, "2X2X1": false, "2*2*1": false, "2 x2x1": false, "2x 2x1": false, "2x2x 1": false, "2 2 1": false, " 2x2x1": false, "2x2x1 ": false, "2×2×1": false, "02x2x1": false, "2x2x+1": false, "2x2x1:": false, "2x2x1,": false, "2,2,1": false, "2x2x1 1": false, "relu 0": false, "flat": false,
	} {
		if got := checkPlan(t, head+" > relu 5"); got != want {
			t.Errorf("with %q: %t", head, got)
		}
		// Sides alone are no model.
		for _, text := range []string{head, head + " ", head + " > ", head + " >", head + ">"} {
			if checkPlan(t, text) {
				t.Errorf("%q is read", text)
			}
		}
	}
}

func TestSignsBetweenLayers(t *testing.T) {
	for between, want := range map[string]bool{
		" > ": true, ">": false, " >": false, "> ": false, "  > ": false, " >  ": false, " > > ": false, " >> ": false, "\t> ": false, " >\t": false, "\r> ": false, " >\n": false, " ": false, "": false, ", ": false, " < ": false, "; ": false, " > flat > ": true, " > > flat > ": false, " >flat > ": false,
	} {
		for _, text := range []string{"2x2x1" + between + "relu 5", "2x1x3 > relu 5" + between + "relu 7", "2x1x3 > max 1 1" + between + "relu 7 > flat"} {
			if got := checkPlan(t, text); got != want {
				t.Errorf("%q: %t", text, got)
			}
		}
	}
	for _, text := range goodPlans() {
		for _, end := range []string{" > ", " >", ">", " ", "  ", "\n", "\t", "\r", "\x00", " > \n", " >  ", " > x", " 1", " 0", " -", ".", ";"} {
			if checkPlan(t, text+end) || checkPlan(t, end+text) {
				t.Errorf("%q is read with %q behind or ahead", text, end)
			}
		}
	}
}

// Each layer with a word too few, a word too many, and with other names.
func TestWordsOfALayer(t *testing.T) {
	for _, layer := range []string{"dense 2 3 4 5 6", "conv 2 1 1 3 4 5 6", "max 1 1", "avg 1 1", "relu 5", "flat"} {
		words := strings.Split(layer, " ")
		around := []string{"1x2x3 > ", "1x2x3 > relu 0 > "}
		bad := []string{strings.ToUpper(layer), strings.ToUpper(layer[:1]) + layer[1:], layer[1:], "x" + layer, "pool 1 1", "dense", "softmax 1", "relu6 5", "0 " + layer, "1x2x3"}
		for i := range words {
			short := slices.Delete(slices.Clone(words), i, i+1)
			bad = append(bad, strings.Join(short, " "))
			for _, word := range append(notNumbers(), "1", "0", "7", "relu", "x") {
				long := slices.Insert(slices.Clone(words), i+1, word)
				bad = append(bad, strings.Join(long, " "))
			}
			for _, gap := range []string{"  ", "\t", "\r", "\n", "", "\u00a0", ",", "\v", "\f", "\x00"} {
				if i > 0 && gap+words[i] != words[i] {
					bad = append(bad, strings.Join(words[:i], " ")+gap+strings.Join(words[i:], " "))
				}
			}
		}
		for _, head := range around {
			for _, end := range []string{"", " > relu 1"} {
				if !checkPlan(t, head+layer+end) {
					t.Errorf("%q is not read", head+layer+end)
				}
				for _, other := range bad {
					if checkPlan(t, head+other+end) {
						t.Errorf("%q is read", head+other+end)
					}
				}
			}
		}
	}
}

// Names of layers are not those of others with as many numbers.
func TestNamesOfLayers(t *testing.T) {
	names := map[string]int{"dense": 5, "conv": 7, "max": 2, "avg": 2, "relu": 1, "flat": 0}
	for name, want := range names {
		for n := range 9 {
			text := "4x2x1 > " + name + strings.Repeat(" 1", n)
			if got := checkPlan(t, text); got != (n == want) {
				t.Errorf("%q: %t", text, got)
			}
		}
	}
}

// Mults are taken times 1000; they and the Shifts at both ends and beyond.
func TestMultsAndShiftsOfAPlan(t *testing.T) {
	for _, form := range []string{"1x1x2 > dense 1 M S 0 1", "1x1x2 > conv 1 1 1 M S 0 1"} {
		for word, want := range map[string]bool{"0": true, "1": true, "2147482": true, "2147483": true, "2147484": false, "2147483647": false, "999999999": false, "-1": false, "-2147483": false} {
			text := strings.NewReplacer("M", word, "S", "0").Replace(form)
			ok := checkPlan(t, text)
			mult, _ := strconv.Atoi(word)
			if m, _ := impl.ParsePlan(text); ok != want || ok && m.Layers[0].Mult != mult*1000 {
				t.Errorf("%q: %t, %v", text, ok, m)
			}
		}
		for word, want := range map[string]bool{"0": true, "1": true, "30": true, "31": true, "32": false, "63": false, "64": false, "-1": false, "999999999": false} {
			text := strings.NewReplacer("M", "1", "S", word).Replace(form)
			ok := checkPlan(t, text)
			shift, _ := strconv.Atoi(word)
			if m, _ := impl.ParsePlan(text); ok != want || ok && m.Layers[0].Shift != shift {
				t.Errorf("%q: %t, %v", text, ok, m)
			}
		}
	}
}

func TestPlansOfModelsThatAreNotOk(t *testing.T) {
	for _, text := range []string{
		"3x3x1 > flat", "2x2x1 > max 3 1", "2x2x1 > max 0 1", "2x2x1 > max 2 3", "2x2x1 > avg 2 0", "2x2x1 > max 2 1 > max 2 1", "8x8x8 > dense 1 1 1 1 1", "8x8x2 > dense 1 1 1 1 1", "1x1x1 > dense 0 1 1 1 1", "1x1x1 > dense 9 1 1 1 1", "1x1x1 > dense -1 1 1 1 1",
		"1x1x1 > dense 1 1 1 128 1", "1x1x1 > dense 1 1 1 -129 1", "1x1x1 > dense 1 1 1 1 128", "1x1x1 > dense 1 1 1 1 -129", "1x1x1 > conv 1 1 1 1 1 1 128", "1x1x1 > conv 1 1 1 1 1 1 -129", "3x3x1 > conv 1 4 1 1 1 1 1", "3x3x1 > conv 1 0 1 1 1 1 1", "3x3x1 > conv 1 -1 1 1 1 1 1", "3x3x1 > conv 1 1 3 1 1 1 1", "3x3x1 > conv 9 1 1 1 1 1 1", "2x3x1 > conv 1 3 1 1 1 1 1",
		"1x1x1 > relu 128", "1x1x1 > relu -129", "1x1x1 > flat > flat > flat > flat > flat > flat > flat", "1x1x1" + strings.Repeat(" > flat", 27), "9x9x9 > relu 1", "0x0x0 > dense 8 1 1 1 1", "-2x-2x2 > conv 8 2 1 1 1 1 1", "999999999x999999999x999999999 > dense 8 1 1 1 1", "1x1x999999999 > conv 8 3 1 1 1 1 1", "3x3x-9 > conv 8 3 1 1 1 1 1", "8x8x8 > conv 999999999 999999999 1 1 1 1 1", "8x8x8 > dense 999999999 1 1 1 1",
	} {
		if !wantPlanForm.MatchString(text) {
			t.Errorf("%q is no plan", text)
		}
		if checkPlan(t, text) {
			t.Errorf("%q is read", text)
		}
	}
	// Six layers are a model, none and seven are not.
	for n := range 9 {
		if got := checkPlan(t, "1x1x1"+strings.Repeat(" > relu 0", n)); got != (n >= 1 && n <= 6) {
			t.Errorf("of %d layers: %t", n, got)
		}
	}
}

// planOf is a right plan with just so many bytes, but for its length: of six layers whose Mults have as many digits as it takes.
func planOf(t *testing.T, size int) string {
	t.Helper()
	mults := []string{"2147483", "2147483", "2147483", "2147483", "2147483", "2147483"}
	for i := 0; ; i++ {
		text := "8x8x8"
		for _, mult := range mults {
			text += " > conv 8 1 1 " + mult + " 31 -128 -128"
		}
		if len(text) == size {
			return text
		}
		if len(mults[i%6]) < 2 {
			t.Fatalf("no plan has %d bytes", size)
		}
		mults[i%6] = mults[i%6][1:]
		mults[i%6] = "1" + mults[i%6][1:]
	}
}

// A plan may have 200 bytes, and not 201.
func TestBytesOfAPlan(t *testing.T) {
	for size := 180; size <= 209; size++ {
		text := planOf(t, size)
		ok := checkPlan(t, text)
		if len(text) != size || ok != (size <= 200) {
			t.Errorf("a plan of %d bytes: %t", len(text), ok)
		}
		m := model(shape(8, 8, 8))
		for _, part := range strings.Split(text, " > ")[1:] {
			m.Layers = append(m.Layers, wantPlanLayer(m.In, part))
		}
		if !impl.ModelOk(m) {
			t.Fatalf("%v is not right", m)
		}
		if got := checkPlanText(t, m); got != ok {
			t.Errorf("a model whose plan has %d bytes: %t", size, got)
		}
	}
	// Bytes count, not letters, and also where it is no plan at all.
	for _, text := range []string{strings.Repeat("x", 200), strings.Repeat("x", 201), strings.Repeat("é", 101), strings.Repeat(" > ", 1000), strings.Repeat("1x", 5000), strings.Repeat("0", 1<<20), "1x1x1 > flat" + strings.Repeat(" ", 188), "1x1x1 > flat" + strings.Repeat("\n", 189)} {
		if checkPlan(t, text) {
			t.Errorf("%q is read", text)
		}
	}
}

// regular is m with Weights all of one number, with no Bias, and with Mults that are multiples of 1000.
func regular(m impl.Model, next func(n int) int) impl.Model {
	m = cloneModel(m)
	for i, l := range m.Layers {
		if len(l.Weights) > 0 {
			l.Mult -= l.Mult % 1000
			l.Weights, l.Bias = same(len(l.Weights), next(256)-128), same(len(l.Bias), 0)
			m.Layers[i] = l
		}
	}
	return m
}

// drawModel is right, mostly: each layer is right for what comes to it, but there may be none.
func drawModel(next func(n int) int) impl.Model {
	edge := func(least, most int) int { return []int{least, least + next(most-least+1), most}[next(3)] }
	s := shape(1+next(8), 1+next(8), 1+next(8))
	m := model(s)
	for range 1 + next(6) {
		mult, shift, zero, x := edge(0, 2147483)*1000, edge(0, 31), edge(-128, 127), edge(-128, 127)
		l := []impl.Layer{
			uniform(impl.Layer{Kind: 0, Out: 1 + next(8), Mult: mult, Shift: shift, Zero: zero}, s.H*s.W*s.C, x),
			uniform(impl.Layer{Kind: 1, Out: 1 + next(8), Size: 1, Step: 1 + next(2), Mult: mult, Shift: shift, Zero: zero}, s.C, x),
			uniform(impl.Layer{Kind: 1, Out: 1 + next(8), Size: 2, Step: 1 + next(2), Mult: mult, Shift: shift, Zero: zero}, 4*s.C, x),
			pool(2, 1+next(3), 1+next(2)), pool(3, 1+next(3), 1+next(2)), relu(zero), flat(),
		}[next(7)]
		if then, ok := wantShape(s, l); ok {
			m.Layers, s = append(m.Layers, l), then
		}
	}
	return m
}

// Promise 13: plans are read as they were written, from models and from texts.
func TestPlansAreReadAsTheyWereWritten(t *testing.T) {
	next := draws(20)
	read, kinds := 0, map[int]int{}
	for range 4000 {
		m := drawModel(next)
		if !checkPlanText(t, m) {
			continue
		}
		read++
		for _, l := range m.Layers {
			kinds[l.Kind]++
		}
		text, _ := impl.PlanText(m)
		checkPlan(t, text)
	}
	if read < 3000 || len(kinds) != 6 {
		t.Errorf("%d were read: %v", read, kinds)
	}
	for _, m := range slices.Concat(goodModels(), longModels()) {
		checkPlanText(t, m)
		if m = regular(m, next); !checkPlanText(t, m) {
			t.Errorf("%v has no plan", m)
		}
	}
}

// Plans with a byte put, left out or turned are read only where they are plans of their own.
func TestTurnedPlans(t *testing.T) {
	next := draws(21)
	signs := "0123456789-+x> densconvmaxgrlufti\t\n\r.\x00\xff"
	read := 0
	for range 60000 {
		text := goodPlans()[next(len(goodPlans()))]
		at, sign := next(len(text)), string(signs[next(len(signs))])
		text = []string{text[:at] + sign + text[at+1:], text[:at] + sign + text[at:], text[:at] + text[at+1:], text[:at]}[next(4)]
		if checkPlan(t, text) {
			read++
		}
	}
	if read < 1000 {
		t.Errorf("only %d were read", read)
	}
}

// Plans whose layers are drawn without a look at what comes to them, with numbers around their bounds.
func TestDrawnPlans(t *testing.T) {
	next := draws(22)
	numbers := map[string]int{"dense": 5, "conv": 7, "max": 2, "avg": 2, "relu": 1, "flat": 0}
	names := []string{"dense", "conv", "max", "avg", "relu", "flat"}
	words := []string{"1", "2", "1", "2", "3", "8", "0", "-1", "31", "127", "-128", "9", "32", "128", "01", "-0", "1000"}
	read := 0
	for range 40000 {
		text := fmt.Sprintf("%dx%dx%d", 1+next(4), 1+next(4), 1+next(3))
		for range 1 + next(3) {
			name := names[next(6)]
			text += " > " + name
			for range numbers[name] {
				text += " " + words[next(1+next(len(words)))]
			}
		}
		if checkPlan(t, text) {
			read++
		}
	}
	if read < 5000 {
		t.Errorf("only %d were read", read)
	}
}

// Models for which there is no plan, each for one reason alone.
func TestModelsWithoutAPlan(t *testing.T) {
	next := draws(23)
	for _, m := range append(goodModels(), longModels()[:100]...) {
		m = regular(m, next)
		if !checkPlanText(t, m) {
			continue
		}
		for place, l := range m.Layers {
			for _, other := range spoiled(l) {
				if n := swapped(m, place, other); checkPlanText(t, n) {
					t.Errorf("%v has a plan", n)
				}
			}
		}
		for _, in := range []impl.Shape{{}, shape(0, m.In.W, m.In.C), shape(9, m.In.W, m.In.C), shape(m.In.H, m.In.W, -1)} {
			n := m
			if n.In = in; checkPlanText(t, n) {
				t.Errorf("%v has a plan", n)
			}
		}
	}
	for _, m := range append(badModels(), impl.Model{}) {
		if checkPlanText(t, m) {
			t.Errorf("%v has a plan", m)
		}
	}
}

// spoiled are layers like l, each with one thing that no plan has.
func spoiled(l impl.Layer) []impl.Layer {
	var list []impl.Layer
	for i := range l.Weights {
		for _, by := range []int{-1, 1, 300} {
			if len(l.Weights) == 1 && by != 300 {
				continue // one Weight alone is all one number
			}
			other := cloneLayer(l)
			other.Weights[i] += by
			list = append(list, other)
		}
	}
	for i := range l.Bias {
		for _, x := range []int{-1, 1, 1000000, -1000000, 1000001} {
			other := cloneLayer(l)
			other.Bias[i] = x
			list = append(list, other)
		}
	}
	unused := map[int][]string{0: {"Size", "Step"}, 2: {"Out", "Mult", "Shift", "Zero"}, 3: {"Out", "Mult", "Shift", "Zero"}, 4: {"Out", "Size", "Step", "Mult", "Shift"}, 5: {"Out", "Size", "Step", "Mult", "Shift", "Zero"}}
	for _, name := range unused[l.Kind] {
		list = append(list, with(l, name, 1), with(l, name, -1), with(l, name, 1000))
	}
	if len(l.Weights) > 0 {
		for _, by := range []int{-1, 1, 500, 999, 2147484000, 1000000000000} {
			list = append(list, with(l, "Mult", l.Mult+by))
		}
		list = append(list, with(l, "Shift", 1000000000), with(l, "Zero", -1000000000), with(l, "Mult", -1000))
		few, many := cloneLayer(l), cloneLayer(l)
		few.Weights, many.Weights = few.Weights[1:], append(many.Weights, many.Weights[0])
		list = append(list, few, many)
	} else {
		other := l
		other.Weights = []int{0}
		list = append(list, other)
		other.Weights, other.Bias = nil, []int{0}
		list = append(list, other)
	}
	return append(list, with(l, "Kind", 6), with(l, "Kind", -1))
}

func TestPlanArgumentsAreLeft(t *testing.T) {
	next := draws(24)
	for _, m := range append(goodModels(), badModels()[:60]...) {
		for _, m := range []impl.Model{roomyModel(m), roomyModel(regular(m, next))} {
			before := cloneModel(m)
			impl.PlanText(m)
			if !impl.SameModel(m, before) || !modelHasRoom(m) {
				t.Fatalf("%v was written into: %v", before, m)
			}
		}
	}
}

// Answers are new memory: what is written into one is not seen in the next one, nor in another list of the same one.
func TestPlanAnswersAreNew(t *testing.T) {
	for _, text := range append(goodPlans(), "1x1x8 > dense 8 1 1 1 1 > dense 8 1 1 1 1 > dense 8 1 1 1 1", "4x4x1 > conv 1 2 1 1 1 1 0 > conv 1 2 1 1 1 1 0") {
		want, _ := wantPlan(text)
		m, _ := impl.ParsePlan(text)
		checkOwnLists(t, m)
		overwriteModel(m)
		if again, ok := impl.ParsePlan(text); !ok || !impl.SameModel(again, want) {
			t.Fatalf("ParsePlan(%q) = %v, %t, not %v", text, again, ok, want)
		}
	}
}
