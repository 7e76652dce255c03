package tests

import (
	"fmt"
	"math"
	"slices"
	"sync"
	"testing"

	"loop.example/g00778/impl"
)

func wantFirstOther(a, b []impl.Step) int {
	for place := 0; ; place++ {
		switch {
		case place == len(a) && place == len(b):
			return -1
		case place == len(a) || place == len(b) || !equalStep(a[place], b[place]):
			return place
		}
	}
}

func wantTicksOf(steps []impl.Step) []int {
	var list []int
	for n := range steps {
		list = append(list, len(wantFlags(steps[:n+1])))
	}
	return list
}

// wantCutTrace looks for the first step with which there are more ticks than that.
func wantCutTrace(steps []impl.Step, tick int) []impl.Step {
	for n, end := range wantTicksOf(steps) {
		if end > tick {
			return steps[:n]
		}
	}
	return steps
}

func wantStepText(x impl.Step) string {
	text := fmt.Sprintf("%d %d %d", x.Kind, x.A, x.B)
	if len(x.Data) > 0 {
		text += fmt.Sprintf(" data %d", len(x.Data))
	}
	if wantTensorOk(x.Input) {
		text += " input " + wantTensorText(x.Input)
	}
	return text
}

func wantQuiet(slack, age int, steps []impl.Step) []int {
	r, ok := wantNew(slack, age)
	if !ok || len(steps) > 200 {
		return nil
	}
	var list []int
	for place, x := range steps {
		then, events := wantStep(r, x)
		if r = then; len(events) == 0 {
			list = append(list, place)
		}
	}
	return list
}

// wantReplay leaves aside what follows from the chapter: that the same steps have the same events.
func wantReplay(slack, age int, steps []impl.Step) bool {
	_, written := wantTrace(steps)
	_, ok := wantNew(slack, age)
	return written && ok
}

// checkEnds holds TicksOf, and CutTrace at each tick and beside it, against the chapter.
func checkEnds(t *testing.T, steps []impl.Step) {
	t.Helper()
	want := wantTicksOf(steps)
	if got := impl.TicksOf(steps); !slices.Equal(got, want) {
		t.Fatalf("TicksOf(%v) = %v, not %v", steps, got, want)
	}
	list := around(0, len(wantFlags(steps)))
	for _, end := range want {
		list = append(list, end-1, end, end+1)
	}
	slices.Sort(list)
	for _, tick := range slices.Compact(list) {
		if got := impl.CutTrace(steps, tick); !equalSteps(got, wantCutTrace(steps, tick)) {
			t.Fatalf("CutTrace(%v, %d) = %v", steps, tick, got)
		}
	}
}

// checkReplay holds what the chapter says of a script that is played, and answers whether it is the same when it is played again.
func checkReplay(t *testing.T, slack, age int, steps []impl.Step) bool {
	t.Helper()
	want := wantReplay(slack, age, steps)
	if got := impl.ReplaySame(slack, age, steps); got != want {
		t.Fatalf("ReplaySame(%d, %d, %v) = %t", slack, age, steps, got)
	}
	if got, want := impl.QuietSteps(slack, age, steps), wantQuiet(slack, age, steps); !slices.Equal(got, want) {
		t.Fatalf("QuietSteps(%d, %d, %v) = %v, not %v", slack, age, steps, got, want)
	}
	return want
}

// checkSame holds SameStep, both ways, and FirstOther against the chapter.
func checkSame(t *testing.T, a, b impl.Step, want bool) {
	t.Helper()
	if impl.SameStep(a, b) != want || impl.SameStep(b, a) != want {
		t.Fatalf("SameStep(%v, %v) = %t, and the other way %t", a, b, impl.SameStep(a, b), impl.SameStep(b, a))
	}
	place := -1
	if !want {
		place = 1
	}
	if got := impl.FirstOther([]impl.Step{{}, a, {}}, []impl.Step{{}, b, {}}); got != place {
		t.Fatalf("FirstOther with %v and %v = %d", a, b, got)
	}
}

// Each field that differs alone, in one step; lists in their lengths and at each place.
func TestSameStep(t *testing.T) {
	const most = math.MaxInt
	full := impl.Step{Kind: 2, A: 1, B: 40, Data: []byte{0, 1, 255, 128}, Input: small(1, -2, 3, -4)}
	wide := impl.Step{Kind: most, A: math.MinInt, B: most, Data: data(7000), Input: shaped(most, math.MinInt, 0, spread(600, -1<<40, 1<<40)...)}
	for _, x := range append(append(odd(), someSteps()...), full, wide) {
		same := x
		same.Data, same.Input = slices.Clone(x.Data), clone(x.Input)
		checkSame(t, x, x, true)
		checkSame(t, x, same, true)
		for _, y := range changes(x, 77) {
			checkSame(t, x, y, false)
		}
		for place, d := range x.Data {
			y := x
			y.Data = putAt(x.Data, place, d+1)
			checkSame(t, x, y, false)
		}
		for _, n := range []int{0, 1, len(x.Data) / 2, len(x.Data) - 1} {
			y := x
			if in(n, 0, len(x.Data)-1) {
				y.Data = x.Data[:n]
				checkSame(t, x, y, false)
				y.Data = x.Data[n+1:]
				checkSame(t, x, y, false)
			}
		}
		for n := range x.Input.Data {
			y := x
			y.Input.Data = x.Input.Data[:n]
			checkSame(t, x, y, false)
			y.Input.Data = x.Input.Data[n+1:]
			checkSame(t, x, y, false)
		}
		y := x
		y.Data = append(slices.Clone(x.Data), 0)
		checkSame(t, x, y, false)
		y = x
		y.Input.Data = append(slices.Clone(x.Input.Data), 0)
		checkSame(t, x, y, false)
	}
	list := append(odd(), full, wide)
	for i, a := range list {
		for k, b := range list {
			checkSame(t, a, b, i == k)
		}
	}
}

func TestSameStepInFields(t *testing.T) {
	for _, c := range []struct {
		a, b impl.Step
		want bool
	}{
		{impl.Step{}, impl.Step{}, true}, {impl.Step{Data: []byte{}}, impl.Step{}, true}, {impl.Step{Input: impl.Tensor{Data: []int{}}}, impl.Step{}, true}, {ticks(3), ticks(3), true}, {ticks(3), ticks(4), false}, {ticks(3), stalled(3), false}, {impl.Step{A: 1}, impl.Step{B: 1}, false}, {impl.Step{Kind: 1}, impl.Step{A: 1}, false},
		{impl.Step{Data: []byte{0}}, impl.Step{}, false}, {impl.Step{Data: []byte{0}}, impl.Step{Data: []byte{0, 0}}, false}, {impl.Step{Data: []byte{1, 2}}, impl.Step{Data: []byte{2, 1}}, false},
		{impl.Step{Input: tensor(2, 1, 1, 5, 6)}, impl.Step{Input: tensor(1, 2, 1, 5, 6)}, false}, {impl.Step{Input: tensor(2, 1, 1, 5, 6)}, impl.Step{Input: tensor(1, 1, 2, 5, 6)}, false}, {impl.Step{Input: tensor(2, 1, 1, 5, 6)}, impl.Step{Input: tensor(2, 1, 1, 6, 5)}, false}, {impl.Step{Input: tensor(2, 1, 1, 5, 6)}, impl.Step{Input: tensor(2, 1, 1, 5, 6)}, true},
		// Tensors that are not TensorOk are the same field by field too.
		{impl.Step{Input: shaped(0, 0, 0, 1)}, impl.Step{Input: shaped(0, 0, 0, 1)}, true}, {impl.Step{Input: shaped(0, 0, 0, 1)}, impl.Step{Input: shaped(0, 0, 0, 2)}, false}, {impl.Step{Input: shaped(2, 2, 1)}, impl.Step{Input: shaped(2, 2, 1)}, true}, {impl.Step{Input: shaped(2, 2, 1)}, impl.Step{}, false}, {impl.Step{Input: shaped(9, 9, 9, 300)}, impl.Step{Input: shaped(9, 9, 9, 300)}, true}, {impl.Step{Input: shaped(2, 2, 1, 0, 0, 0, 0)}, impl.Step{Input: shaped(2, 2, 1)}, false},
		{impl.Step{A: 1 << 32}, impl.Step{}, false}, {impl.Step{A: math.MinInt}, impl.Step{A: math.MaxInt}, false}, {impl.Step{B: 256}, impl.Step{}, false}, {impl.Step{Input: shaped(0, 0, 0, 256)}, impl.Step{Input: shaped(0, 0, 0, 0)}, false},
	} {
		checkSame(t, c.a, c.b, c.want)
	}
}

func TestFirstOther(t *testing.T) {
	a, b, c := ticks(1), stalled(1), submit(0, 9, small(1, 2, 3, 4))
	for _, k := range []struct {
		a, b []impl.Step
		want int
	}{
		{nil, nil, -1}, {nil, []impl.Step{}, -1}, {nil, []impl.Step{a}, 0}, {nil, []impl.Step{{}}, 0}, {nil, []impl.Step{a, b, c}, 0}, {[]impl.Step{a}, []impl.Step{a}, -1}, {[]impl.Step{a}, []impl.Step{b}, 0}, {[]impl.Step{a}, []impl.Step{a, a}, 1}, {[]impl.Step{a, b, c}, []impl.Step{a, b}, 2}, {[]impl.Step{a, b, c}, []impl.Step{a, c}, 1}, {[]impl.Step{a, b, c}, []impl.Step{b}, 0},
		{[]impl.Step{a, b, c}, []impl.Step{a, b, c}, -1}, {[]impl.Step{a, b, c}, []impl.Step{a, b, a}, 2}, {[]impl.Step{a, b, c}, []impl.Step{a, a, c}, 1}, {[]impl.Step{a, b, c}, []impl.Step{c, b, a}, 0}, {[]impl.Step{a, b, c}, []impl.Step{a, a, a}, 1}, {[]impl.Step{{}, {}}, []impl.Step{{}}, 1}, {[]impl.Step{a, b, c}, []impl.Step{b, c}, 0},
	} {
		if got, back := impl.FirstOther(k.a, k.b), impl.FirstOther(k.b, k.a); got != k.want || back != k.want {
			t.Errorf("FirstOther(%v, %v) = %d, and the other way %d, not %d", k.a, k.b, got, back, k.want)
		}
	}
	// There is no limit to how many there are.
	for _, n := range []int{1, 2, 13, 200, 201, 1000} {
		list := slices.Repeat(odd(), n)[:n]
		for _, m := range []int{0, 1, n - 1, n, n + 1} {
			other := slices.Repeat(odd(), n+1)[:m]
			if got, want := impl.FirstOther(list, other), wantFirstOther(list, other); got != want || impl.FirstOther(other, list) != want {
				t.Fatalf("FirstOther of %d and %d = %d, not %d", n, m, got, want)
			}
		}
		for place := range list {
			for _, x := range []impl.Step{{Kind: 78}, {}} {
				other := putAt(list, place, x)
				if got, want := impl.FirstOther(list, other), wantFirstOther(list, other); got != want {
					t.Fatalf("FirstOther of %d with another one at %d = %d", n, place, got)
				}
			}
		}
	}
}

// ticking are 3 ticks, nothing, 5, nothing, none that are refused, 200 and 1.
func ticking() []impl.Step {
	return []impl.Step{ticks(3), cancel(1), stalled(5), load(0, brief()), ticks(-1), stalled(201), {Kind: 6, A: 9}, ticks(0), ticks(200), stalled(0), stalled(1)}
}

func TestTicksOf(t *testing.T) {
	const least, most = math.MinInt, math.MaxInt
	for _, c := range []struct {
		steps []impl.Step
		want  []int
	}{
		{nil, nil}, {[]impl.Step{}, nil}, {[]impl.Step{{}}, []int{0}}, {[]impl.Step{ticks(7)}, []int{7}}, {[]impl.Step{stalled(7)}, []int{7}}, {[]impl.Step{ticks(1), ticks(1), ticks(1)}, []int{1, 2, 3}}, {ticking(), []int{3, 3, 8, 8, 8, 8, 8, 8, 208, 208, 209}},
		// Steps that are refused take none, and so do the other kinds.
		{[]impl.Step{ticks(200), ticks(201), ticks(-1), stalled(200), stalled(201), stalled(-1)}, []int{200, 200, 200, 400, 400, 400}}, {[]impl.Step{ticks(least), stalled(least), ticks(most), stalled(most), ticks(1<<32 + 1)}, []int{0, 0, 0, 0, 0}}, {[]impl.Step{cancel(5), unload(3), submit(1, 9, small()), load(2, brief()), {Kind: -4, A: 4}, {Kind: 6, A: 4}, {Kind: least, A: 4}, {Kind: most, A: 4}}, make([]int, 8)},
		{[]impl.Step{{Kind: 4, A: 3, B: -1, Data: []byte{1}, Input: small(1)}}, []int{3}},
	} {
		if got := impl.TicksOf(c.steps); !slices.Equal(got, c.want) {
			t.Errorf("TicksOf(%v) = %v, not %v", c.steps, got, c.want)
		}
		checkEnds(t, c.steps)
	}
	// Neither MaxSteps nor MaxTick ends it, as no sentence names them there.
	steps := slices.Repeat([]impl.Step{ticks(150), stalled(200), cancel(1)}, 4000)
	got := impl.TicksOf(steps)
	for place, end := range got {
		if end != place/3*350+[]int{150, 350, 350}[place%3] {
			t.Fatalf("at %d of %d: %d", place, len(steps), end)
		}
	}
	if len(got) != 12000 || got[11999] != impl.EndTick(steps) {
		t.Errorf("%d, the last of them %d", len(got), got[len(got)-1])
	}
}

func TestCutTrace(t *testing.T) {
	for _, c := range []struct{ tick, want int }{
		// Met exactly, and passed by one.
		{0, 0}, {1, 0}, {2, 0}, {3, 2}, {4, 2}, {7, 2}, {8, 8}, {9, 8}, {207, 8}, {208, 10}, {209, 11}, {210, 11}, {1000000, 11}, {1000001, 11}, {math.MaxInt, 11}, {math.MaxInt - 1, 11},
		{-1, 0}, {-2, 0}, {-200, 0}, {math.MinInt, 0}, {math.MinInt + 1, 0}, {1 << 32, 11}, {-1 << 32, 0},
	} {
		if got := impl.CutTrace(ticking(), c.tick); !equalSteps(got, ticking()[:c.want]) {
			t.Errorf("CutTrace at %d = %v, not %d steps", c.tick, got, c.want)
		}
		for _, none := range [][]impl.Step{nil, {}} {
			if got := impl.CutTrace(none, c.tick); len(got) != 0 {
				t.Errorf("CutTrace of nothing at %d = %v", c.tick, got)
			}
		}
	}
	// Steps that take no tick: with a tick below 0 already the first one is above it.
	for _, c := range []struct {
		steps []impl.Step
		tick  int
		want  int
	}{
		{[]impl.Step{{}, {}}, 0, 2}, {[]impl.Step{{}, {}}, -1, 0}, {[]impl.Step{cancel(1), ticks(1)}, 0, 1}, {[]impl.Step{cancel(1), ticks(1)}, 1, 2}, {[]impl.Step{cancel(1), ticks(1)}, -1, 0}, {[]impl.Step{ticks(0)}, 0, 1}, {[]impl.Step{ticks(0)}, -1, 0}, {[]impl.Step{ticks(1), cancel(1)}, 0, 0}, {[]impl.Step{ticks(201), stalled(-1)}, 0, 2},
		{[]impl.Step{ticks(2), ticks(5), ticks(0), cancel(3)}, 6, 1}, {[]impl.Step{ticks(2), ticks(5), ticks(0), cancel(3)}, 7, 4}, {[]impl.Step{ticks(2), ticks(5), ticks(0), cancel(3)}, 2, 1}, {[]impl.Step{ticks(2), ticks(0), ticks(5)}, 2, 2}, {[]impl.Step{ticks(2), ticks(5), ticks(1)}, 1, 0},
	} {
		if got := impl.CutTrace(c.steps, c.tick); !equalSteps(got, c.steps[:c.want]) {
			t.Errorf("CutTrace(%v, %d) = %v, not %d steps", c.steps, c.tick, got, c.want)
		}
	}
	// More steps and ticks than are played, and steps that are not written.
	steps := slices.Repeat([]impl.Step{ticks(150), stalled(200), {Kind: math.MinInt, Data: data(40), Input: shaped(9, 9, 9, math.MaxInt)}}, 4000)
	for _, c := range []struct{ tick, want int }{{149, 0}, {150, 1}, {349, 1}, {350, 3}, {1000000 - 1, 8571}, {1400000 - 1, 11998}, {1400000, 12000}} {
		if got := impl.CutTrace(steps, c.tick); !equalSteps(got, steps[:c.want]) {
			t.Errorf("CutTrace of %d at %d: %d steps, not %d", len(steps), c.tick, len(got), c.want)
		}
	}
}

func TestStepText(t *testing.T) {
	for _, c := range []struct {
		x    impl.Step
		want string
	}{
		{impl.Step{}, "0 0 0"}, {ticks(3), "4 3 0"}, {impl.Step{Kind: 1, A: 2, B: 3}, "1 2 3"}, {impl.Step{Kind: -1, A: -200, B: -3}, "-1 -200 -3"}, {impl.Step{Kind: math.MinInt, A: math.MaxInt, B: math.MinInt + 1}, "-9223372036854775808 9223372036854775807 -9223372036854775807"}, {impl.Step{Kind: 10, A: 100, B: 1000}, "10 100 1000"},
		{impl.Step{Data: []byte{}}, "0 0 0"}, {impl.Step{Data: []byte{0}}, "0 0 0 data 1"}, {impl.Step{A: 2, Data: []byte("PM1")}, "0 2 0 data 3"}, {impl.Step{Data: make([]byte, 6000)}, "0 0 0 data 6000"}, {impl.Step{Data: make([]byte, 6001)}, "0 0 0 data 6001"}, {impl.Step{Data: make([]byte, 1000000)}, "0 0 0 data 1000000"},
		{submit(0, 5, small(-1, 2, 3, -4)), "2 0 5 input 2x2x1: -1 2 3 -4"}, {impl.Step{Input: tensor(1, 1, 1, 0)}, "0 0 0 input 1x1x1: 0"}, {impl.Step{Kind: 4, A: 1, Input: tensor(1, 2, 1, -128, 127)}, "4 1 0 input 1x2x1: -128 127"}, {impl.Step{Kind: 2, Data: []byte{1, 2}, Input: tensor(1, 1, 3, 7, 8, 9)}, "2 0 0 data 2 input 1x1x3: 7 8 9"},
		// Inputs that are not TensorOk: too few, too many, too great, no Shape, too many in all.
		{submit(0, 5, small(-1, 2, 3)), "2 0 5"}, {submit(0, 5, small(-1, 2, 3, 4, 5)), "2 0 5"}, {submit(0, 5, small(-1, 2, 3, 128)), "2 0 5"}, {submit(0, 5, small(-129, 2, 3, 4)), "2 0 5"}, {impl.Step{Input: shaped(0, 0, 0, 1)}, "0 0 0"}, {impl.Step{Input: shaped(1, 1, 1)}, "0 0 0"}, {impl.Step{Input: shaped(9, 1, 1, 1, 2, 3, 4, 5, 6, 7, 8, 9)}, "0 0 0"}, {impl.Step{Input: shaped(-1, -1, 1, 5)}, "0 0 0"}, {impl.Step{Data: []byte{1}, Input: shaped(1, 1, 1, math.MinInt)}, "0 0 0 data 1"},
	} {
		if got := impl.StepText(c.x); got != c.want {
			t.Errorf("StepText(%v) = %q, not %q", c.x, got, c.want)
		}
	}
	for _, x := range slices.Concat(goodTensors(), badTensors()) {
		for _, d := range [][]byte{nil, {1}, data(77)} {
			s := impl.Step{Kind: 2, A: -7, B: 9, Data: d, Input: x}
			if got, want := impl.StepText(s), wantStepText(s); got != want {
				t.Fatalf("StepText(%v) = %q, not %q", s, got, want)
			}
		}
	}
	for _, x := range append(odd(), someSteps()...) {
		if got, want := impl.StepText(x), wantStepText(x); got != want {
			t.Errorf("StepText(%v) = %q, not %q", x, got, want)
		}
	}
}

// fine is a script in which nothing is refused.
func fine() []impl.Step {
	return []impl.Step{load(0, brief()), submit(0, 9, small(1, -2, 3, -4)), ticks(1), stalled(3), ticks(1), submit(0, 9, small(5, 6, 7, 8)), unload(0)}
}

func TestReplaySame(t *testing.T) {
	wide := impl.Step{Kind: 4, A: 1, B: mostPut + 1}
	for _, c := range []struct {
		steps []impl.Step
		want  bool
	}{
		{nil, true}, {[]impl.Step{}, true}, {[]impl.Step{{}}, true}, {fine(), true}, {someSteps(), true}, {odd(), true}, {fates(), true}, {ticking(), true}, {make([]impl.Step, 200), true}, {slices.Repeat([]impl.Step{ticks(200)}, 200), true},
		// What is played, but not written: a number that no event tells is too wide, there are too many bytes or numbers, or the trace is too long.
		{[]impl.Step{wide}, false}, {append(fine(), wide), false}, {[]impl.Step{{Kind: 4, B: leastPut - 1}}, false}, {[]impl.Step{{Kind: 4, A: 3, B: mostPut}}, true}, {[]impl.Step{{Kind: 4, A: 3, B: leastPut}}, true}, {[]impl.Step{{Kind: math.MinInt}}, false}, {[]impl.Step{{Kind: 9, A: math.MaxInt}}, false},
		{[]impl.Step{{Data: data(6000)}}, true}, {[]impl.Step{{Data: data(6001)}}, false}, {[]impl.Step{{Kind: 4, Data: data(6001)}}, false}, {[]impl.Step{{Kind: 4, Input: impl.Tensor{Data: make([]int, 512)}}}, true}, {[]impl.Step{{Kind: 4, Input: impl.Tensor{Data: make([]int, 513)}}}, false},
		{lengthened(t, 20000, 3), true}, {lengthened(t, 20001, 3), false}, {lengthened(t, 20000, 2), true}, {lengthened(t, 20001, 2), false},
		// Neither played nor written.
		{make([]impl.Step, 201), false}, {make([]impl.Step, 1000), false},
	} {
		if got := impl.ReplaySame(0, 1, c.steps); got != c.want {
			t.Errorf("ReplaySame(0, 1, %d steps) = %t", len(c.steps), got)
		}
		checkReplay(t, 0, 1, c.steps)
	}
}

// A slack or an age that NewSched does not take, and both ends of it; with steps that are fine, with none and with some that are not.
func TestReplaysThatAreNotPlayed(t *testing.T) {
	played := 0
	for _, slack := range append(around(0, 1000), 2) {
		for _, age := range append(around(0, 20), 2) {
			ok := in(slack, 0, 1000) && in(age, 0, 20)
			for _, steps := range [][]impl.Step{fine(), nil, ticking()} {
				if checkReplay(t, slack, age, steps) != ok {
					t.Fatalf("with %d and %d: %t", slack, age, !ok)
				}
				if quiet := impl.QuietSteps(slack, age, steps); !ok && len(quiet) != 0 || ok && len(steps) == 11 && len(quiet) != 6 {
					t.Fatalf("with %d and %d are quiet %v", slack, age, quiet)
				}
				if ok {
					played++
				}
			}
			if checkReplay(t, slack, age, []impl.Step{{Kind: 4, B: math.MaxInt}}) || checkReplay(t, slack, age, make([]impl.Step, 201)) {
				t.Fatalf("with %d and %d what is not written is the same", slack, age)
			}
		}
	}
	if played != 7*7*3 {
		t.Errorf("%d were played", played)
	}
}

func TestQuietSteps(t *testing.T) {
	x := small(1, -2, 3, -4)
	for _, c := range []struct {
		steps []impl.Step
		want  []int
	}{
		{nil, nil}, {[]impl.Step{ticks(1)}, []int{0}}, {[]impl.Step{ticks(0)}, []int{0}}, {[]impl.Step{stalled(0)}, []int{0}}, {[]impl.Step{stalled(200), ticks(200)}, []int{0, 1}},
		// Steps that are refused tell of it.
		{[]impl.Step{ticks(201), ticks(-1), stalled(201), stalled(-1)}, nil}, {[]impl.Step{{}, unload(0), submit(0, 9, x), cancel(1), {Kind: 6}, {Kind: -1}}, nil}, {ticking(), []int{0, 2, 7, 8, 9, 10}}, {[]impl.Step{ticks(math.MaxInt), ticks(math.MinInt), {Kind: math.MaxInt}, ticks(1)}, []int{3}},
		// Ticks by which a request is done are heard, those between its layers are not.
		{fine(), []int{2, 3}}, {[]impl.Step{load(0, brief()), submit(0, 9, x), ticks(2), ticks(2)}, []int{3}}, {[]impl.Step{load(0, brief()), submit(0, 9, x), ticks(1), ticks(1)}, []int{2}}, {[]impl.Step{load(0, brief()), submit(0, 9, x), stalled(5), ticks(0), ticks(1), ticks(0), ticks(1), ticks(1)}, []int{2, 3, 4, 5, 7}},
		// A request that is gone leaves the ticks quiet in which it would have been done.
		{[]impl.Step{load(0, brief()), submit(0, 9, x), cancel(1), ticks(5)}, []int{3}}, {[]impl.Step{load(0, brief()), submit(0, 9, x), unload(0), ticks(5)}, []int{3}},
		{[]impl.Step{load(0, brief()), submit(0, 9, x), submit(0, 9, x), ticks(3), ticks(1), ticks(1)}, []int{5}},
	} {
		if got := impl.QuietSteps(0, 1, c.steps); !slices.Equal(got, c.want) {
			t.Errorf("QuietSteps(0, 1, %v) = %v, not %v", c.steps, got, c.want)
		}
		checkReplay(t, 0, 1, c.steps)
	}
	// The slack and the age are those that are asked for: with a slack of 3 there is not time enough.
	steps := []impl.Step{load(0, brief()), submit(0, 4, x), ticks(1), ticks(1)}
	if got, more := impl.QuietSteps(2, 1, steps), impl.QuietSteps(3, 1, steps); !slices.Equal(got, []int{2}) || !slices.Equal(more, []int{2, 3}) {
		t.Errorf("%v, %v", got, more)
	}
	// An age of 1 picks the late one first, none never does, and the other request is done behind it.
	steps = []impl.Step{load(0, brief()), submit(0, 2, x), stalled(9), submit(0, 5, x), submit(0, 4, x), ticks(2), ticks(1), ticks(1), ticks(1), ticks(1)}
	for age := range 4 {
		checkReplay(t, 0, age, steps)
	}
	for _, n := range []int{199, 200, 201, 202} {
		got := impl.QuietSteps(0, 1, slices.Repeat([]impl.Step{ticks(1)}, n))
		if n > 200 && len(got) != 0 || n <= 200 && (len(got) != n || got[n-1] != n-1) {
			t.Errorf("of %d steps %v are quiet", n, got)
		}
	}
}

// Promise 17: what is read from a trace plays to the same events, and to the same runtime.
func TestTracesPlayTheSame(t *testing.T) {
	next := draws(155)
	same, refused, quiet := 0, 0, 0
	for i := range 90 {
		slack, age := next(3), next(4)
		steps := drawScript(next, slack, age, i%5)
		if i%3 > 0 {
			steps = steps[:4+next(len(steps)-4)]
		}
		switch i % 10 {
		case 0:
			steps = slices.Insert(steps, next(len(steps)), slices.Repeat([]impl.Step{{Kind: 5, A: 1, Data: data(5000)}}, 4)...)
		case 1:
			steps[next(len(steps))].Input.Shape.H = mostPut + 1
		}
		b, ok := checkTrace(t, steps)
		if checkReplay(t, slack, age, steps) != ok {
			t.Fatalf("%v are the same when they are played again: %t", steps, !ok)
		}
		checkEnds(t, steps)
		if !ok {
			refused++
			continue
		}
		back, _ := impl.ReadTrace(b)
		r, events, _ := impl.PlayRuntime(slack, age, steps)
		then, again, played := impl.PlayRuntime(slack, age, back)
		if !played || !equalEvents(again, events) || !equalRuntime(then, r) || impl.FirstOther(back, steps) != -1 {
			t.Fatalf("%v plays to %v, not %v", back, again, events)
		}
		same++
		quiet += len(impl.QuietSteps(slack, age, back))
		// A trace that is cut at a tick plays to the events ahead of it.
		tick := next(impl.EndTick(steps) + 2)
		part := impl.CutTrace(back, tick)
		_, ahead, _ := impl.PlayRuntime(slack, age, part)
		if impl.EndTick(part) > tick || len(ahead) > len(events) || !equalEvents(ahead, events[:len(ahead)]) {
			t.Fatalf("cut at %d, %v plays to %v", tick, steps, ahead)
		}
		if len(part) < len(steps) && impl.TicksOf(steps)[len(part)] <= tick {
			t.Fatalf("cut at %d, %v has %d steps only", tick, steps, len(part))
		}
	}
	if same < 40 || refused < 9 || quiet < 300 {
		t.Errorf("%d were the same, %d not written, %d steps quiet", same, refused, quiet)
	}
}

func TestArgumentsOfReplaysAreLeft(t *testing.T) {
	for _, before := range append(scripts(), odd(), someSteps(), ticking(), fine(), make([]impl.Step, 201), []impl.Step{{Data: data(6001), Input: impl.Tensor{Data: make([]int, 600)}}}) {
		for _, slack := range []int{0, -1} {
			steps, others := roomySteps(before), roomySteps(before)
			for i, x := range steps {
				impl.StepText(x)
				impl.SameStep(x, others[i])
			}
			impl.FirstOther(steps, others)
			impl.ReplaySame(slack, 1, steps)
			overwrite(impl.QuietSteps(slack, 1, steps), 1018)
			overwrite(impl.TicksOf(steps), 1019)
			for _, tick := range []int{-1, 0, 3, 8, 200, math.MaxInt} {
				overwriteSteps(impl.CutTrace(steps, tick))
			}
			for _, list := range [][]impl.Step{steps, others} {
				if !equalSteps(list, before) || !stepsHaveRoom(list) {
					t.Fatalf("%v were written into, or share memory with an answer: %v", before, list)
				}
			}
		}
	}
}

// Steps of an argument that share their lists have lists of their own in the answer.
func TestListsOfACutTraceAreItsOwn(t *testing.T) {
	x := impl.Step{Kind: 2, A: 1, Data: data(30), Input: small(1, -2, 3, -4)}
	list := impl.CutTrace([]impl.Step{x, x, ticks(1), x, {Data: x.Data[5:20]}, {Input: shaped(1, 1, 2, x.Input.Data[1:3]...)}, ticks(9), x}, 5)
	if len(list) != 6 {
		t.Fatalf("%v", list)
	}
	checkOwnSteps(t, list)
	if !equalStep(x, impl.Step{Kind: 2, A: 1, Data: data(30), Input: small(1, -2, 3, -4)}) {
		t.Errorf("%v was written into", x)
	}
	steps := slices.Repeat(append(odd(), ticks(2)), 9)
	all := impl.CutTrace(steps, math.MaxInt)
	checkOwnSteps(t, all)
	overwriteSteps(all)
	if !equalSteps(impl.CutTrace(steps, math.MaxInt), slices.Repeat(append(odd(), ticks(2)), 9)) {
		t.Error("two answers share memory")
	}
}

// The same call gives the same answer each time, also when several are under way at once.
func TestReplaysAreTheSameEachTime(t *testing.T) {
	next := draws(156)
	scripts := append(scripts(), odd(), someSteps(), fine(), fates(), make([]impl.Step, 201))
	for kind := range 3 {
		scripts = append(scripts, drawScript(next, 1, 2, kind)[:60])
	}
	for _, steps := range scripts {
		b, ok := wantTrace(steps)
		same, quiet, ends := wantReplay(1, 2, steps), wantQuiet(1, 2, steps), wantTicksOf(steps)
		var all sync.WaitGroup
		for range 4 {
			all.Go(func() {
				for range 3 {
					got, gotOk := impl.TraceOf(steps)
					if gotOk != ok || ok && !slices.Equal(got, b) || impl.ReplaySame(1, 2, steps) != same || !slices.Equal(impl.QuietSteps(1, 2, steps), quiet) || !slices.Equal(impl.TicksOf(steps), ends) || !equalSteps(impl.CutTrace(steps, 4), wantCutTrace(steps, 4)) {
						t.Errorf("%v give another answer", steps)
					}
					back, code := impl.ReadTrace(got)
					if ok && (code != 0 || !equalSteps(back, steps)) {
						t.Errorf("%v are read as %v, %d", steps, back, code)
					}
				}
			})
		}
		all.Wait()
	}
}
