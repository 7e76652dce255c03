package tests

import (
	"math"
	"runtime"
	"slices"
	"sync"
	"testing"
	"time"

	"loop.example/g00778/impl"
)

func entry(id int, m impl.Model, x impl.Tensor, at, due, end int, done bool) impl.Entry {
	return impl.Entry{Id: id, Model: m, Input: x, At: at, Due: due, End: end, Done: done}
}

func equalEntry(a, b impl.Entry) bool {
	return a.Id == b.Id && impl.SameModel(a.Model, b.Model) && equal(a.Input, b.Input) && a.At == b.At && a.Due == b.Due && a.End == b.End && a.Done == b.Done
}

// wantEntries go through the script step by step.
func wantEntries(slack, age int, steps []impl.Step) []impl.Entry {
	r, ok := wantNew(slack, age)
	if !ok || len(steps) > 200 {
		return nil
	}
	var list []impl.Entry
	for _, x := range steps {
		then, events := wantStep(r, x)
		for _, e := range events {
			i := slices.IndexFunc(list, func(o impl.Entry) bool { return o.Id == e.A })
			switch e.Kind {
			case 2:
				list = append(list, entry(e.A, r.Models[x.A], x.Input, r.Sched.Now, e.B, -1, false))
			case 3:
				list[i].End, list[i].Done = e.B, true
			case 4:
				list[i].End = r.Sched.Now
			}
		}
		r = then
	}
	return list
}

// wantFlags tell of each tick whether it is stalled; the first one is tick 1.
func wantFlags(steps []impl.Step) []bool {
	var flags []bool
	for _, x := range steps {
		if (x.Kind == 4 || x.Kind == 5) && x.A >= 0 && x.A <= 200 {
			flags = append(flags, slices.Repeat([]bool{x.Kind == 5}, x.A)...)
		}
	}
	return flags
}

func wantStalled(flags []bool, from, to int) int {
	n := 0
	for i, stalled := range flags {
		if tick := i + 1; stalled && tick > from && tick <= to {
			n++
		}
	}
	return n
}

// told is what chapter 9 tells of a script beside its Entries.
type told struct {
	promised []int
	lates    []int
	waits    []int
	kept     bool
	right    bool
}

func wantTold(slack, age int, steps []impl.Step) told {
	r, events, ok := wantPlayRuntime(slack, age, steps)
	w := told{kept: ok, right: ok}
	flags := wantFlags(steps)
	entries := wantEntries(slack, age, steps)
	for _, e := range entries {
		inTime := e.Done && e.End <= e.Due
		if (e.Done || e.End < 0) && e.Due <= r.Sched.Now && wantStalled(flags, e.At, e.Due) <= slack {
			w.promised = append(w.promised, e.Id)
			w.kept = w.kept && inTime
		}
		if e.Done && !inTime {
			w.lates = append(w.lates, e.Id)
		}
		if e.Done {
			w.waits = append(w.waits, e.End-e.At)
		}
	}
	for _, e := range events {
		if e.Kind == 3 {
			at := slices.IndexFunc(entries, func(o impl.Entry) bool { return o.Id == e.A })
			w.right = w.right && equal(e.Out, wantEval(entries[at].Model, entries[at].Input))
		}
	}
	return w
}

func gotTold(slack, age int, steps []impl.Step) told {
	return told{
		promised: impl.PromisedOf(slack, age, steps), lates: impl.LateDones(slack, age, steps), waits: impl.WaitsOf(slack, age, steps),
		kept: impl.PromisesKept(slack, age, steps), right: impl.AnswersRight(slack, age, steps),
	}
}

func equalTold(a, b told) bool {
	return slices.Equal(a.promised, b.promised) && slices.Equal(a.lates, b.lates) && slices.Equal(a.waits, b.waits) && a.kept == b.kept && a.right == b.right
}

// checkStory holds each function of one script against the chapter, and answers what the chapter gives.
func checkStory(t *testing.T, slack, age int, steps []impl.Step) ([]impl.Entry, told) {
	t.Helper()
	entries, want := wantEntries(slack, age, steps), wantTold(slack, age, steps)
	if got := impl.EntriesOf(slack, age, steps); !slices.EqualFunc(got, entries, equalEntry) {
		t.Fatalf("EntriesOf(%d, %d, %v)\n= %v\nnot %v", slack, age, steps, got, entries)
	}
	if got := gotTold(slack, age, steps); !equalTold(got, want) {
		t.Fatalf("of %d, %d, %v is told\n%v\nnot %v", slack, age, steps, got, want)
	}
	flags := wantFlags(steps)
	for _, e := range entries {
		checkStalled(t, steps, flags, e.At, e.Due)
	}
	if got := impl.EndTick(steps); got != len(flags) {
		t.Fatalf("EndTick(%v) = %d, not %d", steps, got, len(flags))
	}
	return entries, want
}

func checkStalled(t *testing.T, steps []impl.Step, flags []bool, from, to int) {
	t.Helper()
	if got, want := impl.StalledBetween(steps, from, to), wantStalled(flags, from, to); got != want {
		t.Fatalf("StalledBetween(%v, %d, %d) = %d, not %d", steps, from, to, got, want)
	}
}

// fates has requests that are done, that are cancelled by their Ids and with their models, and one that is neither. At both places another model follows while Entries of the first one stand.
func fates() []impl.Step {
	x, y, z := small(-1, 2, 3, -4), small(9, 8, 7, 6), small(-5, 6, -7, 8)
	return []impl.Step{
		load(0, brief()), load(1, heavy()), ticks(201), stalled(-1), stalled(0),
		submit(0, 9, x), submit(1, 40, y), submit(0, 60, z), submit(1, 5, y),
		ticks(1), cancel(3), cancel(3), ticks(2), submit(0, 30, x), submit(1, 50, y), submit(2, 50, y),
		stalled(4), unload(1), unload(1), load(1, brief()), submit(1, 20, z),
		ticks(1), unload(0), load(0, chainy()), submit(0, 100, x), ticks(3),
	}
}

func TestEntriesInNumbers(t *testing.T) {
	x, y, z := small(-1, 2, 3, -4), small(9, 8, 7, 6), small(-5, 6, -7, 8)
	want := []impl.Entry{
		entry(1, brief(), x, 0, 9, 2, true),
		entry(2, heavy(), y, 0, 40, 7, false),
		entry(3, brief(), z, 0, 60, 1, false),
		entry(4, brief(), x, 3, 33, 8, false),
		entry(5, heavy(), y, 3, 53, 7, false),
		entry(6, brief(), z, 7, 27, 9, true),
		entry(7, chainy(), x, 8, 108, -1, false),
	}
	if got := impl.EntriesOf(0, 0, fates()); !slices.EqualFunc(got, want, equalEntry) {
		t.Errorf("%v, not %v", got, want)
	}
	for end := range fates() {
		checkStory(t, 0, 0, fates()[:end])
	}
	if got := impl.WaitsOf(0, 0, fates()); !slices.Equal(got, []int{2, 2}) {
		t.Errorf("the waits are %v", got)
	}
	// The four stalled ticks are between 0 and the Due of the first one; no other Due has come.
	for slack := range 6 {
		_, w := checkStory(t, slack, 0, fates())
		if promised := slack >= 4; len(w.promised) == 1 != promised || !w.kept || !w.right || len(w.lates) != 0 {
			t.Errorf("with slack %d: %v", slack, w)
		}
	}
}

// A request that is cancelled is not promised, whatever its Due, nor one of which it is not known yet.
func TestWhoWasCancelledIsNotPromised(t *testing.T) {
	x := small(1, -2, 3, -4)
	head := []impl.Step{load(2, brief()), load(1, brief()), submit(2, 5, x), submit(1, 7, x), submit(2, 9, x)}
	for _, c := range []struct {
		name     string
		steps    []impl.Step
		promised []int
		waits    []int
	}{
		{"nobody", []impl.Step{ticks(9)}, []int{1, 2, 3}, []int{2, 4, 6}},
		{"by its Id", []impl.Step{cancel(2), ticks(9)}, []int{1, 3}, []int{2, 4}},
		{"under way", []impl.Step{ticks(1), cancel(1), ticks(8)}, []int{2, 3}, []int{3, 5}},
		{"with its model", []impl.Step{ticks(2), unload(2), ticks(7)}, []int{1, 2}, []int{2, 4}},
		{"when it is done", []impl.Step{ticks(6), cancel(1), cancel(3), unload(2), ticks(3)}, []int{1, 2, 3}, []int{2, 4, 6}},
		{"behind its Due", []impl.Step{stalled(8), cancel(1), ticks(3)}, nil, []int{11}},
		{"not yet", []impl.Step{ticks(8)}, []int{1, 2}, []int{2, 4, 6}},
	} {
		_, w := checkStory(t, 0, 0, append(slices.Clone(head), c.steps...))
		if !slices.Equal(w.promised, c.promised) || !slices.Equal(w.waits, c.waits) {
			t.Errorf("%s: %v", c.name, w)
		}
	}
}

// Several Entries of one tick come by their Ids, though they are done in another order; what is refused takes no tick.
func TestEntriesOfOneTick(t *testing.T) {
	one := model(shape(1, 1, 8), dense(8, 8, 1<<30, 6, -7)) // costs 5
	x, y := some(shape(1, 1, 8)), tensor(1, 1, 8, 1, 2, 3, 4, 5, 6, 7, 8)
	steps := []impl.Step{
		stalled(201), ticks(-1), load(3, one), submit(3, 18, x), submit(3, 4, y), submit(3, 5, y), ticks(0), submit(3, 9, x), submit(3, 12, x),
		stalled(4), ticks(201), ticks(15), stalled(-1), submit(3, 4, x), submit(3, 5, x), ticks(math.MaxInt), submit(3, 10, y), stalled(math.MinInt), submit(3, 15, y), ticks(3),
	}
	want := []impl.Entry{
		entry(1, one, x, 0, 18, 19, true), entry(2, one, y, 0, 5, 9, true), entry(3, one, x, 0, 12, 14, true),
		entry(4, one, x, 19, 24, -1, false), entry(5, one, y, 19, 29, -1, false), entry(6, one, y, 19, 34, -1, false),
	}
	if got := impl.EntriesOf(0, 0, steps); !slices.EqualFunc(got, want, equalEntry) {
		t.Errorf("%v, not %v", got, want)
	}
	_, w := checkStory(t, 0, 0, steps)
	if !slices.Equal(w.lates, []int{1, 2, 3}) || !slices.Equal(w.waits, []int{19, 9, 14}) || len(w.promised) != 0 {
		t.Errorf("%v", w)
	}
	_, w = checkStory(t, 0, 0, append(steps, ticks(11)))
	if !slices.Equal(w.promised, []int{4, 5}) || !slices.Equal(w.waits, []int{19, 9, 14, 5, 10}) {
		t.Errorf("%v", w)
	}
}

// What came of n requests that are asked for at once, each of which is done by itself.
func TestTheMostEntries(t *testing.T) {
	x := small(1, -2, 3, -4)
	for _, late := range []bool{false, true} {
		steps := []impl.Step{load(0, brief())}
		for len(steps)+2 <= impl.MaxSteps {
			steps = append(steps, submit(0, 2, x))
			if steps = append(steps, ticks(2)); late {
				steps = append(steps[:len(steps)-1], stalled(1), ticks(2))
			}
		}
		entries, w := checkStory(t, 0, 0, steps)
		if late && (len(w.lates) != 66 || len(w.promised) != 0) || !late && (len(w.promised) != 99 || len(w.lates) != 0) {
			t.Errorf("%d Entries: %v", len(entries), w)
		}
	}
}

// What is loaded twice, or again at another place, and asked the same, is one thing; another model or another input is not.
func TestAnswersOfOthers(t *testing.T) {
	x, y := small(1, -2, 3, -4), small(-1, 2, -3, 4)
	steps := []impl.Step{load(0, chainy()), load(1, heavy()), load(2, chainy())}
	want := []impl.Tensor{}
	for turn := range 3 {
		for _, in := range []impl.Tensor{x, y, x} {
			for place, m := range []impl.Model{chainy(), heavy(), chainy()} {
				if turn == 2 {
					m = brief()
				}
				steps, want = append(steps, submit(place, 100, in), ticks(20)), append(want, wantEval(m, in))
			}
		}
		for place := range 3 {
			again := load(place, []impl.Model{chainy(), heavy(), chainy()}[place])
			if turn == 1 {
				again = load(place, brief())
			}
			steps = append(steps, unload(place), again)
		}
	}
	_, events := playing(t, 0, 3, steps)
	outs := 0
	for _, e := range events {
		if e.Kind == 3 {
			if !equal(e.Out, want[e.A-1]) {
				t.Errorf("done %d with %v, not %v", e.A, e.Out, want[e.A-1])
			}
			outs++
		}
	}
	entries, w := checkStory(t, 0, 3, steps)
	if outs != 27 || len(entries) != 27 || !w.right || len(w.waits) != 27 {
		t.Errorf("%d outs, %d entries, %v", outs, len(entries), w)
	}
}

// Stalls at the edges of a span: the tick from is not in it, the tick to is.
func TestStalledBetweenInNumbers(t *testing.T) {
	// Stalled are the ticks 4, 5, 8 and 9.
	steps := []impl.Step{ticks(3), stalled(2), load(0, brief()), submit(0, 90, small(1, 2, 3, 4)), stalled(0), stalled(-1), stalled(201), ticks(201), cancel(7), unload(0), {Kind: 6, A: 4}, {Kind: -5, A: 4}, ticks(2), stalled(1), stalled(1), ticks(3)}
	for _, c := range []struct{ from, to, want int }{
		{0, 12, 4}, {0, 0, 0}, {0, 3, 0}, {0, 4, 1}, {0, 5, 2}, {0, 6, 2}, {2, 4, 1}, {3, 4, 1}, {3, 5, 2}, {3, 6, 2}, {4, 5, 1}, {4, 4, 0}, {5, 5, 0}, {5, 7, 0}, {4, 8, 2}, {3, 8, 3}, {3, 9, 4},
		{5, 4, 0}, {6, 3, 0}, {9, 3, 0}, {12, 0, 0}, {8, 9, 1}, {7, 9, 2}, {9, 10, 0}, {9, 12, 0}, {8, 40, 1}, {12, 40, 0}, {40, 50, 0},
		{-1, 4, 1}, {-9, 12, 4}, {-9, -1, 0}, {-9, 0, 0}, {0, -9, 0}, {5, -9, 0}, {-5, 40, 4},
		{math.MinInt, math.MaxInt, 4}, {math.MaxInt, math.MinInt, 0}, {math.MinInt, math.MinInt, 0}, {math.MaxInt, math.MaxInt, 0}, {math.MinInt, 8, 3}, {4, math.MaxInt, 3}, {math.MaxInt, 8, 0}, {4, math.MinInt, 0},
	} {
		if got := impl.StalledBetween(steps, c.from, c.to); got != c.want {
			t.Errorf("from %d to %d are %d stalled, not %d", c.from, c.to, got, c.want)
		}
	}
}

func TestStalledBetweenAndEndTick(t *testing.T) {
	next := draws(9)
	scripts := [][]impl.Step{nil, {stalled(200)}, {stalled(201)}, {stalled(-1)}, {ticks(200)}, {ticks(201), stalled(1)}, {{Kind: 5, A: 3, B: -1, Data: []byte{1}, Input: small(1)}}, fates()}
	for range 40 {
		var steps []impl.Step
		for range next(30) {
			steps = append(steps, impl.Step{Kind: []int{4, 5, 4, 5, 5, 0, 3, 6}[next(8)], A: []int{0, 1, 2, 3, 5, 8, -1, 201}[next(8)]})
		}
		scripts = append(scripts, steps)
	}
	for _, steps := range scripts {
		flags := wantFlags(steps)
		if got := impl.EndTick(steps); got != len(flags) {
			t.Fatalf("EndTick(%v) = %d, not %d", steps, got, len(flags))
		}
		for from := -2; from <= len(flags)+2; from += 1 + len(flags)/40 {
			for to := -2; to <= len(flags)+2; to += 1 + len(flags)/40 {
				checkStalled(t, steps, flags, from, to)
			}
		}
		for _, from := range around(0, 1000000) {
			for _, to := range around(0, 1000000) {
				checkStalled(t, steps, flags, from, to)
			}
		}
	}
}

// These two ask neither for MaxSteps nor for MaxTick, as no sentence names them there.
func TestTicksOfManySteps(t *testing.T) {
	steps := slices.Repeat([]impl.Step{ticks(100), stalled(200), {Kind: 4, A: 201}, cancel(1)}, 4000)
	if got := impl.EndTick(steps); got != 1200000 {
		t.Errorf("EndTick = %d", got)
	}
	for _, c := range []struct{ from, to, want int }{{0, 1200000, 800000}, {999900, 1000000, 0}, {999899, 1000001, 2}, {999900, 1000200, 200}, {1000000, 1000101, 101}, {1000199, 1000300, 1}, {1199999, 1200001, 1}, {1200000, 1300000, 0}, {-1, math.MaxInt, 800000}} {
		if got := impl.StalledBetween(steps, c.from, c.to); got != c.want {
			t.Errorf("from %d to %d are %d stalled, not %d", c.from, c.to, got, c.want)
		}
	}
	for _, c := range []struct {
		steps []impl.Step
		want  int
	}{
		{nil, 0}, {[]impl.Step{ticks(0), stalled(0)}, 0}, {[]impl.Step{ticks(200), stalled(200)}, 400}, {[]impl.Step{ticks(201), stalled(201), ticks(-1), stalled(-1)}, 0}, {[]impl.Step{ticks(7), ticks(201), stalled(5)}, 12},
		{[]impl.Step{{Kind: 0, A: 3}, {Kind: 1, A: 3}, {Kind: 2, A: 3, B: 4}, {Kind: 3, A: 3}, {Kind: 6, A: 3}, {Kind: -4, A: 3}, {Kind: 260, A: 3}}, 0}, {[]impl.Step{ticks(math.MaxInt), stalled(math.MinInt), ticks(1 << 32), ticks(1<<32 + 5)}, 0},
	} {
		if got := impl.EndTick(c.steps); got != c.want {
			t.Errorf("EndTick(%v) = %d, not %d", c.steps, got, c.want)
		}
	}
}

// A Due that is Now at the end has come; one that is a tick more has not.
func TestDuesAtTheEnd(t *testing.T) {
	x := small(1, -2, 3, -4)
	for _, c := range []struct {
		due, ticks int
		want       []int
	}{
		{4, 5, []int{1}}, {5, 5, []int{1}}, {6, 5, nil}, {2, 2, []int{1}}, {2, 1, nil}, {3, 2, nil}, {1000000, 200, nil},
	} {
		for _, head := range [][]impl.Step{{load(0, brief())}, {load(0, brief()), ticks(3), stalled(4)}} {
			steps := append(slices.Clone(head), submit(0, c.due, x), ticks(c.ticks), cancel(9), stalled(0))
			if _, w := checkStory(t, 0, 0, steps); !slices.Equal(w.promised, c.want) || !w.kept {
				t.Errorf("due in %d, behind %d ticks: %v", c.due, c.ticks, w)
			}
		}
	}
}

// A request that has just time enough, for each slack: with as many stalled ticks it is done at its Due, with one more a tick above it.
func TestStalledTicksAtTheSlack(t *testing.T) {
	x := small(1, -2, 3, -4)
	for _, slack := range []int{0, 1, 2, 5, 100, 200, 999, 1000} {
		for _, more := range []int{-1, 0, 1} {
			n := max(slack+more, 0)
			runs := append(slices.Repeat([]impl.Step{stalled(200)}, n/200), stalled(n%200))
			// What is stalled up to At and behind Due does not count.
			steps := append([]impl.Step{load(0, brief()), stalled(9), submit(0, slack+1, x), submit(0, slack+2, x)}, runs...)
			steps = append(steps, ticks(1), ticks(1), stalled(9))
			entries, w := checkStory(t, slack, 1, steps)
			if want := []impl.Entry{entry(1, brief(), x, 9, 11+slack, 11+n, true)}; !slices.EqualFunc(entries, want, equalEntry) {
				t.Errorf("%v, not %v", entries, want)
			}
			if promised := n <= slack; len(w.promised) == 1 != promised || len(w.lates) == 1 == promised || w.waits[0] != 2+n || !w.kept {
				t.Errorf("slack %d, %d stalled: %v", slack, n, w)
			}
		}
	}
}

// The stalled ticks count up to the Due, also when the request was done long ahead of it.
func TestStalledTicksBehindTheEnd(t *testing.T) {
	x := small(1, -2, 3, -4)
	for due := 4; due < 9; due++ {
		_, w := checkStory(t, 2, 0, []impl.Step{load(0, brief()), submit(0, due, x), ticks(2), stalled(10)})
		if promised := due <= 4; len(w.promised) == 1 != promised || !slices.Equal(w.waits, []int{2}) || len(w.lates) != 0 {
			t.Errorf("due at %d: %v", due, w)
		}
	}
	// One that met too many stalled ticks is not promised, be it done in time, late or not at all.
	for n, want := range []told{{kept: true, right: true}, {kept: true, right: true}, {lates: []int{1}, waits: []int{12}, kept: true, right: true}} {
		if _, w := checkStory(t, 2, 0, []impl.Step{load(0, brief()), submit(0, 4, x), stalled(10), ticks(n)}); !equalTold(w, want) {
			t.Errorf("%d ticks: %v", n, w)
		}
	}
}

func TestRefusedBy(t *testing.T) {
	for _, c := range []struct {
		events []impl.Event
		want   []int
	}{
		{nil, make([]int, 9)},
		{[]impl.Event{{Kind: 5}}, []int{1, 0, 0, 0, 0, 0, 0, 0, 0}},
		{[]impl.Event{{Kind: 5, B: 8}, {Kind: 5, A: -7, B: 8, Out: small(1)}, {Kind: 5, A: 9, B: 8}}, []int{0, 0, 0, 0, 0, 0, 0, 0, 3}},
		{[]impl.Event{{Kind: 5, B: -1}, {Kind: 5, B: 9}, {Kind: 5, B: math.MinInt}, {Kind: 5, B: math.MaxInt}, {Kind: 5, B: 1 << 32}, {Kind: 5, B: 256}}, make([]int, 9)},
		{[]impl.Event{{Kind: 0, B: 1}, {Kind: 1, B: 2}, {Kind: 2, B: 3}, {Kind: 3, B: 4}, {Kind: 4, B: 5}, {Kind: 6, B: 6}, {Kind: -5, B: 7}, {Kind: 261, B: 8}, {Kind: 4}}, make([]int, 9)},
		{[]impl.Event{{Kind: 5, B: 3}, {Kind: 5, B: 1}, {Kind: 5, B: 3}, {Kind: 5, B: 7}, {Kind: 3, B: 3}, {Kind: 5, B: 0}, {Kind: 5, B: 9}, {Kind: 5, B: 5}}, []int{1, 1, 0, 2, 0, 1, 0, 1, 0}},
	} {
		if got := impl.RefusedBy(c.events); !slices.Equal(got, c.want) {
			t.Errorf("RefusedBy(%v) = %v, not %v", c.events, got, c.want)
		}
	}
	for code := range 9 {
		want := make([]int, 9)
		want[code] = 4
		if got := impl.RefusedBy(slices.Repeat([]impl.Event{{Kind: 5, A: code - 1, B: code}, {Kind: 2, B: code}}, 4)); !slices.Equal(got, want) {
			t.Errorf("%v, not %v", got, want)
		}
	}
	_, events := playing(t, 0, 0, append(fates(), load(3, dear()), submit(0, -1, small(1)), submit(0, 1, small(1)), impl.Step{Kind: 9}))
	if got := impl.RefusedBy(events); !slices.Equal(got, []int{0, 2, 1, 2, 0, 0, 1, 1, 3}) {
		t.Errorf("%v of %q", got, textsOf(events))
	}
}

// working has that much work left; it is right for 0 .. 600.
func working(t *testing.T, n int) impl.Runtime {
	t.Helper()
	r := empty(impl.Sched{Now: 7, Next: 4})
	for place, m := range []impl.Model{wide(), chainy(), model(shape(2, 2, 1), relus(6)...)} {
		r = holding(r, place, m)
	}
	left := n
	for place, cost := range []int{107, 11} {
		for ; left >= cost; left -= cost {
			r = asked(r, place, 0, 5+n-left)
		}
	}
	for ; left > 0; left -= min(left, 6) {
		r = asked(r, 2, 6-min(left, 6), 500)
	}
	if !wantRuntimeOk(r) || total(remains(r.Sched)) != n {
		t.Fatalf("%v has not %d left", r, n)
	}
	return r
}

func remains(s impl.Sched) []int {
	var list []int
	for _, x := range s.Tasks {
		list = append(list, wantRemain(s, x.Id))
	}
	return list
}

func wantDrain(r impl.Runtime) []impl.Step {
	if !wantRuntimeOk(r) {
		return nil
	}
	left := total(remains(r.Sched))
	steps := slices.Repeat([]impl.Step{ticks(200)}, left/200)
	if left%200 > 0 {
		steps = append(steps, ticks(left%200))
	}
	return steps
}

// drained is r behind its DrainSteps: each request is done once, or Now has come to its end.
func drained(t *testing.T, r impl.Runtime) impl.Runtime {
	t.Helper()
	steps := impl.DrainSteps(r)
	if want := wantDrain(r); !slices.EqualFunc(steps, want, equalStep) {
		t.Fatalf("DrainSteps(%v) = %v, not %v", r, steps, want)
	}
	left := total(remains(r.Sched))
	then, dones := r, []int(nil)
	for _, x := range steps {
		next, events := impl.DoStep(then, x)
		then, dones = next, append(dones, impl.DonesOf(events)...)
		if len(impl.DonesOf(events)) != len(events) {
			t.Fatalf("%v tells %q", x, textsOf(events))
		}
	}
	slices.Sort(dones)
	if !impl.RuntimeOk(then) || then.Sched.Now != min(r.Sched.Now+left, 1000000) || len(dones)+len(then.Requests) != len(r.Requests) {
		t.Fatalf("%v comes to %v", r, then)
	}
	if r.Sched.Now+left <= 1000000 {
		var ids []int
		for _, q := range r.Requests {
			ids = append(ids, q.Id)
		}
		if len(then.Requests) != 0 || !slices.Equal(dones, ids) {
			t.Fatalf("%v comes to %v, done are %v", r, then, dones)
		}
	} else if len(then.Requests) == 0 {
		t.Fatalf("%v comes to %v ahead of time", r, then)
	}
	return then
}

func TestDrainStepsInNumbers(t *testing.T) {
	for _, c := range []struct {
		work int
		want []int
	}{
		{0, nil}, {1, []int{1}}, {2, []int{2}}, {199, []int{199}}, {200, []int{200}}, {201, []int{200, 1}}, {399, []int{200, 199}}, {400, []int{200, 200}}, {401, []int{200, 200, 1}}, {600, []int{200, 200, 200}},
	} {
		r := working(t, c.work)
		var want []impl.Step
		for _, n := range c.want {
			want = append(want, ticks(n))
		}
		if got := impl.DrainSteps(r); !slices.EqualFunc(got, want, equalStep) || impl.WorkLeft(r.Sched) != c.work {
			t.Errorf("for %d: %v, not %v", c.work, got, want)
		}
		drained(t, r)
		if c.work == 0 {
			continue
		}
		// With one tick less a request is left.
		want[len(want)-1].A--
		for _, x := range want {
			r, _ = impl.DoStep(r, x)
		}
		if len(r.Requests) == 0 {
			t.Errorf("nothing is left of %d one tick ahead", c.work)
		}
	}
}

// Promise 12, at each number of work.
func TestBehindDrainStepsNothingIsLeft(t *testing.T) {
	for n := range 250 {
		drained(t, working(t, n))
	}
	for _, r := range goodRuntimes() {
		drained(t, r)
	}
	long := model(shape(8, 8, 8), pool(2, 1, 1), conv(6, 3, 1, 8, 1<<30, 9, 0), conv(8, 3, 1, 6, 1<<30, 9, 0)) // costs 1439
	r := holding(empty(impl.Sched{Slack: 3, Age: 5, Turns: 999998, Next: 20}), 2, long)
	for i := range 12 {
		r = asked(r, 2, i%3, 20000-i)
	}
	if then := drained(t, under(r, 20, 8)); then.Sched.Now < 10000 {
		t.Errorf("%v is not long", then)
	}
}

// There are as many ticks where Now does not come so far.
func TestDrainStepsNearMaxTick(t *testing.T) {
	for _, work := range []int{1, 5, 200, 201, 400} {
		for _, short := range []int{-1, 0, 1, work} {
			r := working(t, work)
			r.Sched.Now = min(1000000-work+short, 1000000)
			if then := drained(t, r); len(then.Requests) == 0 != (short <= 0) {
				t.Errorf("%d are left at %d: %v", work, r.Sched.Now, then)
			}
		}
	}
	for now := 999985; now <= 1000000; now++ {
		drained(t, ending(now))
	}
}

func TestDrainStepsOfRuntimesThatAreNotOk(t *testing.T) {
	for _, c := range append(flaws(), flaw{"the zero value", impl.Runtime{}}, flaw{"without a Next", empty(impl.Sched{})}) {
		if got := impl.DrainSteps(c.r); len(got) != 0 {
			t.Errorf("%s: %v", c.name, got)
		}
	}
}

func TestSameEvents(t *testing.T) {
	x, y := small(1, -2, 3, -4), small(1, -2, 3, 4)
	done := impl.Event{Kind: 3, A: 4, B: 70, Out: x}
	for _, c := range []struct {
		name string
		a, b []impl.Event
		want bool
	}{
		{"nothing", nil, []impl.Event{}, true},
		{"one and none", []impl.Event{done}, nil, false},
		{"one without a text and none", []impl.Event{{Kind: 6}}, nil, false},
		{"one and two", []impl.Event{done}, []impl.Event{done, done}, false},
		{"a beginning", []impl.Event{done, {Kind: 1}}, []impl.Event{done}, false},
		{"two and two", []impl.Event{done, {Kind: 1}}, []impl.Event{done, {Kind: 1}}, true},
		{"another order", []impl.Event{done, {Kind: 1}}, []impl.Event{{Kind: 1}, done}, false},
		{"the last is another", []impl.Event{done, done, {Kind: 1}}, []impl.Event{done, done, {Kind: 4}}, false},
		{"texts that are told together", []impl.Event{{Kind: 1, A: 1}, {Kind: 6}}, []impl.Event{{Kind: 6}, {Kind: 1, A: 1}}, false},
		{"A of a load", []impl.Event{{A: 1, B: 5}}, []impl.Event{{A: 2, B: 5}}, false},
		{"B of a load", []impl.Event{{A: 1, B: 5}}, []impl.Event{{A: 1, B: 6}}, false},
		{"Out of a load", []impl.Event{{A: 1, B: 5, Out: x}}, []impl.Event{{A: 1, B: 5}}, true},
		{"A of a drop", []impl.Event{{Kind: 1, A: 1}}, []impl.Event{{Kind: 1, A: 2}}, false},
		{"B of a drop", []impl.Event{{Kind: 1, A: 1, B: 5}}, []impl.Event{{Kind: 1, A: 1, B: 6, Out: x}}, true},
		{"A of an admit", []impl.Event{{Kind: 2, A: 1}}, []impl.Event{{Kind: 2, A: 2}}, false},
		{"B of an admit", []impl.Event{{Kind: 2, A: 1}}, []impl.Event{{Kind: 2, A: 1, B: 1}}, false},
		{"Out of an admit", []impl.Event{{Kind: 2, A: 1, Out: x}}, []impl.Event{{Kind: 2, A: 1, Out: y}}, true},
		{"A of a done", []impl.Event{done}, []impl.Event{{Kind: 3, A: 5, B: 70, Out: x}}, false},
		{"B of a done", []impl.Event{done}, []impl.Event{{Kind: 3, A: 4, B: 71, Out: x}}, false},
		{"a number of a done", []impl.Event{done}, []impl.Event{{Kind: 3, A: 4, B: 70, Out: y}}, false},
		{"the Shape of a done", []impl.Event{done}, []impl.Event{{Kind: 3, A: 4, B: 70, Out: tensor(1, 2, 2, 1, -2, 3, -4)}}, false},
		{"Outs of which none is a tensor", []impl.Event{{Kind: 3, A: 4, B: 70, Out: small(1)}}, []impl.Event{{Kind: 3, A: 4, B: 70, Out: tensor(1, 1, 1, 128)}}, true},
		{"A of a cancel", []impl.Event{{Kind: 4, A: 1}}, []impl.Event{{Kind: 4, A: -1}}, false},
		{"B of a cancel", []impl.Event{{Kind: 4, A: 1, B: 3, Out: y}}, []impl.Event{{Kind: 4, A: 1, B: 9}}, true},
		{"A of a refuse", []impl.Event{{Kind: 5, A: 1, B: 3}}, []impl.Event{{Kind: 5, A: 2, B: 3}}, false},
		{"B of a refuse", []impl.Event{{Kind: 5, A: 1, B: 3}}, []impl.Event{{Kind: 5, A: 1, B: 4}}, false},
		{"Out of a refuse", []impl.Event{{Kind: 5, A: 1, B: 3, Out: x}}, []impl.Event{{Kind: 5, A: 1, B: 3}}, true},
		{"Kind", []impl.Event{{Kind: 1, A: 1}}, []impl.Event{{Kind: 4, A: 1}}, false},
		{"other Kinds", []impl.Event{{Kind: 6, A: 1, B: 2, Out: x}, {Kind: -1}}, []impl.Event{{Kind: 99}, {Kind: 7, A: 8}}, true},
		{"another Kind and a Kind", []impl.Event{{Kind: 6}}, []impl.Event{{Kind: 0}}, false},
	} {
		if impl.SameEvents(c.a, c.b) != c.want || impl.SameEvents(c.b, c.a) != c.want || !impl.SameEvents(c.a, c.a) || !impl.SameEvents(c.b, c.b) {
			t.Errorf("%s: SameEvents(%v, %v) is not %t", c.name, c.a, c.b, c.want)
		}
	}
	_, events := playing(t, 0, 0, fates())
	for i := range events {
		other := slices.Clone(events)
		other[i].A++
		if impl.SameEvents(events, other) || impl.SameEvents(events[:i], events) || !impl.SameEvents(events[:i], other[:i]) {
			t.Errorf("%q and %q", textsOf(events), textsOf(other))
		}
	}
}

// A script that is not played has no Entries, and nothing of it is kept or right.
func TestStoriesOfNoPlay(t *testing.T) {
	x := small(1, -2, 3, -4)
	steps := []impl.Step{load(0, brief()), submit(0, 1002, x), submit(0, 1005, x), stalled(200), stalled(200), stalled(200), stalled(200), stalled(200), ticks(2), stalled(3), ticks(2)}
	played := 0
	for _, slack := range append(around(0, 1000), 2) {
		for _, age := range append(around(0, 20), 2) {
			entries, w := checkStory(t, slack, age, steps)
			ok := slack >= 0 && slack <= 1000 && age >= 0 && age <= 20
			if len(entries) == 2 != ok || len(w.waits) == 2 != ok || w.kept != ok || w.right != ok || !ok && len(w.promised)+len(w.lates)+len(entries) != 0 {
				t.Errorf("with %d and %d: %v, %v", slack, age, entries, w)
			}
			if ok {
				played++
			}
		}
	}
	if played != 7*7 {
		t.Errorf("%d were played", played)
	}
	if w := gotTold(0, 0, nil); !w.kept || !w.right || len(w.promised)+len(w.lates)+len(w.waits)+len(impl.EntriesOf(0, 0, nil)) != 0 {
		t.Errorf("of no steps is told %v", w)
	}
	// MaxSteps are played, one more is not; the steps take their ticks all the same.
	for _, n := range []int{199, 200, 201, 202} {
		head := []impl.Step{load(0, brief()), submit(0, 2, x), ticks(2), submit(0, 2, x), stalled(1), ticks(2)}
		steps := append(head, slices.Repeat([]impl.Step{stalled(1)}, n-len(head))...)
		entries, w := checkStory(t, 0, 0, steps)
		want := told{}
		if n <= 200 {
			want = told{promised: []int{1}, lates: []int{2}, waits: []int{2, 3}, kept: true, right: true}
		}
		if !equalTold(w, want) || len(entries) != len(want.waits) || impl.EndTick(steps) != n-1 || impl.StalledBetween(steps, 0, n) != n-5 {
			t.Errorf("%d steps: %v, %v", n, entries, w)
		}
	}
}

// drawTight is a step for r: its submits have just time enough, a little less or a little more, and stalls are rare.
func drawTight(next func(n int) int, r impl.Runtime, rare int) impl.Step {
	switch k := next(24); {
	case k < 9:
		place := next(4)
		b := r.Sched.Slack + impl.TotalCost(r.Models[place]) + next(impl.WorkLeft(r.Sched)+3) - next(2)
		return submit(place, b, small(next(256)-128, next(256)-128, next(256)-128, next(256)-128))
	case k == 9 && next(4) == 0:
		return cancel(r.Sched.Next - 1 - next(7))
	case k == 10 && next(5) == 0:
		return unload(next(4))
	case k < 12:
		return load(next(4), []impl.Model{brief(), chainy(), heavy(), model(shape(2, 2, 1), relus(1+next(6))...)}[next(4)])
	case next(rare) == 0:
		return stalled(1 + next(3))
	}
	return ticks(next(5))
}

// drawScript is of one of three kinds: with many requests at once, with any steps, or with Dues that can just be kept.
func drawScript(next func(n int) int, slack, age, kind int) []impl.Step {
	r, _ := impl.NewRuntime(slack, age)
	steps := []impl.Step{load(0, brief()), load(1, chainy()), load(2, heavy()), load(3, model(shape(2, 2, 1), relus(6)...))}
	for _, x := range steps {
		r, _ = impl.DoStep(r, x)
	}
	n, rare := 60+next(130), 2+next(40)
	for range n {
		x := drawStep(next, kind == 0)
		if kind > 1 {
			x = drawTight(next, r, rare)
		}
		steps = append(steps, x)
		r, _ = impl.DoStep(r, x)
	}
	return steps
}

// tally counts what became of requests, to see that each of it came up often enough.
type tally struct {
	promised, just, lates, lost, open, cancelled, replaced int
}

func (c *tally) count(slack int, steps []impl.Step, entries []impl.Entry, w told, r impl.Runtime) {
	flags := wantFlags(steps)
	c.promised += len(w.promised)
	c.lates += len(w.lates)
	for _, e := range entries {
		met := wantStalled(flags, e.At, e.Due)
		switch {
		case e.End < 0:
			c.open++
		case !e.Done:
			c.cancelled++
		case e.End == e.Due && met == slack:
			c.just++
		case met > slack && e.Due <= len(flags):
			c.lost++
		}
		if !slices.ContainsFunc(r.Models, func(m impl.Model) bool { return impl.SameModel(m, e.Model) }) {
			c.replaced++
		}
	}
}

// Promises 10, 11 and 12 over drawn scripts.
func TestPromisesOfDrawnScripts(t *testing.T) {
	next := draws(11)
	var c tally
	for turn := range 150 {
		slack, age := next(5), next(5)
		steps := drawScript(next, slack, age, turn%5)
		r, events := playing(t, slack, age, steps)
		entries, w := checkStory(t, slack, age, steps)
		if !w.kept || !w.right || !impl.RuntimeOk(r) {
			t.Fatalf("of %d, %d, %v is told %v", slack, age, steps, w)
		}
		for _, id := range w.promised {
			e := entries[id-1]
			if e.Id != id || !e.Done || e.End > e.Due || slices.Contains(w.lates, id) {
				t.Fatalf("of %d, %d, %v is promised %v", slack, age, steps, e)
			}
		}
		refused := total(impl.RefusedBy(events))
		if len(entries) != r.Sched.Next-1 || impl.EndTick(steps) != r.Sched.Now || len(w.waits) != len(impl.DonesOf(events)) || refused != len(slices.DeleteFunc(slices.Clone(events), func(e impl.Event) bool { return e.Kind != 5 })) {
			t.Fatalf("%v, %d refused, do not come up to %v, %v", entries, refused, r, events)
		}
		c.count(slack, steps, entries, w, r)
		drained(t, r)
		checkDrainedStory(t, slack, age, steps, impl.DrainSteps(r))
	}
	if c.promised < 1000 || c.just < 50 || c.lates < 100 || c.lost < 100 || c.open < 100 || c.cancelled < 100 || c.replaced < 100 {
		t.Errorf("too little came up: %+v", c)
	}
}

// checkDrainedStory holds that each request which a script has left is done by the drain behind it, and that what was promised still is.
func checkDrainedStory(t *testing.T, slack, age int, steps, drain []impl.Step) {
	t.Helper()
	whole := append(slices.Clone(steps), drain...)
	if len(whole) > 200 {
		return
	}
	ahead := impl.EntriesOf(slack, age, steps)
	for i, e := range impl.EntriesOf(slack, age, whole) {
		if e.End < 0 || ahead[i].End < 0 && !e.Done || ahead[i].End >= 0 && !equalEntry(ahead[i], e) {
			t.Fatalf("%v behind %v", e, whole)
		}
	}
	promised := impl.PromisedOf(slack, age, whole)
	for _, id := range impl.PromisedOf(slack, age, steps) {
		if !slices.Contains(promised, id) {
			t.Fatalf("%d is not promised any more behind %v", id, whole)
		}
	}
	if !impl.PromisesKept(slack, age, whole) || !impl.AnswersRight(slack, age, whole) {
		t.Fatalf("not kept, or not right, behind %v", whole)
	}
}

// Promises 10 and 11: each place and length of one stall, with each cancel and unload, between two requests that have just time enough.
func TestPromisesWithAStallAtEachTick(t *testing.T) {
	x, y := small(-7, 100, 3, -128), small(90, 1, -1, 55)
	inTime, late := 0, 0
	for tick := range 24 {
		for n := range 5 {
			for _, between := range [][]impl.Step{nil, {cancel(1)}, {cancel(2)}, {unload(0)}, {unload(0), load(0, brief()), submit(0, 8, x)}, {submit(0, 50, y)}} {
				steps := append([]impl.Step{load(0, chainy()), load(1, heavy()), submit(0, 23, x), submit(1, 12, y), ticks(tick), stalled(n)}, between...)
				_, w := checkStory(t, 2, 2, append(steps, ticks(80)))
				if !w.kept || !w.right {
					t.Fatalf("%v behind %v", w, steps)
				}
				inTime, late = inTime+len(w.promised), late+len(w.lates)
			}
		}
	}
	if inTime < 500 || late < 50 {
		t.Errorf("only %d are promised, and %d late", inTime, late)
	}
}

// roomySteps are steps with room behind each list, and behind them all.
func roomySteps(steps []impl.Step) []impl.Step {
	list := append(slices.Clone(steps), ticks(77), ticks(78))[:len(steps)]
	for i, x := range list {
		list[i] = roomyStep(x)
	}
	return list
}

func stepsHaveRoom(steps []impl.Step) bool {
	for _, x := range steps {
		if !bytesHaveRoom(x.Data) || !hasRoom(x.Input.Data) {
			return false
		}
	}
	behind := steps[:len(steps)+2][len(steps):]
	return equalStep(behind[0], ticks(77)) && equalStep(behind[1], ticks(78))
}

func overwriteEntries(entries []impl.Entry) {
	for _, e := range entries {
		overwriteModel(e.Model)
		overwrite(e.Input.Data, 1011)
	}
	entries = entries[:cap(entries)]
	for i := range entries {
		entries[i] = impl.Entry{Id: 1012}
	}
}

func TestStoryArgumentsAreLeft(t *testing.T) {
	next := draws(12)
	scripts := [][]impl.Step{fates(), nil, someSteps(), slices.Repeat(someSteps(), 12)}
	for kind := range 5 {
		scripts = append(scripts, drawScript(next, 1, 2, kind))
	}
	for _, before := range scripts {
		for _, slack := range []int{1, -1} {
			steps := roomySteps(before)
			overwriteEntries(impl.EntriesOf(slack, 2, steps))
			w := gotTold(slack, 2, steps)
			for _, list := range [][]int{w.promised, w.lates, w.waits} {
				overwrite(list, 1013)
			}
			impl.EndTick(steps)
			impl.StalledBetween(steps, 3, 40)
			if !slices.EqualFunc(steps, before, equalStep) || !stepsHaveRoom(steps) {
				t.Fatalf("%v were written into, or share memory with an answer: %v", before, steps)
			}
			checkStory(t, slack, 2, steps)
		}
	}
}

func TestEventsAndRuntimesOfAStoryAreLeft(t *testing.T) {
	_, events := playing(t, 0, 0, fates())
	for i := range events {
		events[i].Out.Data = roomy(events[i].Out.Data)
	}
	before := slices.Clone(events)
	overwrite(impl.RefusedBy(events), 1014)
	impl.SameEvents(events, events)
	impl.SameEvents(before, events)
	for i, e := range events {
		if !equalEvent(e, before[i]) || !hasRoom(e.Out.Data) {
			t.Errorf("%v was written into", e)
		}
	}
	for _, before := range append(goodRuntimes(), flaws()[0].r, working(t, 401)) {
		r := roomyRuntime(before)
		steps := impl.DrainSteps(r)
		for i := range steps {
			steps[i] = impl.Step{Kind: 1015}
		}
		if !equalRuntime(r, before) || !runtimeHasRoom(r) || !slices.EqualFunc(impl.DrainSteps(r), wantDrain(before), equalStep) {
			t.Fatalf("%v was written into: %v", before, r)
		}
	}
}

// Entries of one model and one input have lists of their own: each is written into, and into the room behind it, to see whether two share memory.
func TestListsOfEntriesAreTheirOwn(t *testing.T) {
	x := small(5, 6, 7, 8)
	steps := []impl.Step{load(0, chainy()), load(1, chainy()), submit(0, 700, x), submit(0, 700, x), submit(1, 700, x), ticks(30), submit(0, 700, x), submit(1, 700, x), cancel(5)}
	entries := impl.EntriesOf(1, 2, steps)
	if len(entries) != 5 {
		t.Fatalf("%v", entries)
	}
	var lists [][]int
	for _, e := range entries {
		lists = append(lists, e.Input.Data)
		for _, l := range e.Model.Layers {
			lists = append(lists, l.Weights, l.Bias)
		}
	}
	for i, own := range lists {
		overwrite(own, 1000+i)
	}
	for i, own := range lists {
		if !slices.Equal(own, same(len(own), 1000+i)) {
			t.Fatalf("list %d of %v was written into through another", i, entries)
		}
	}
	for i, e := range entries {
		layers := e.Model.Layers[:cap(e.Model.Layers)]
		for k := range layers {
			layers[k] = relu(1000 + i)
		}
	}
	for i, e := range entries {
		for _, l := range e.Model.Layers {
			if !impl.SameLayer(l, relu(1000+i)) {
				t.Fatalf("the layers of %v were written into through others", e)
			}
		}
	}
	checkStory(t, 1, 2, steps)
}

// The same call gives the same answer each time, also when several are under way at once.
func TestStoriesAreTheSameEachTime(t *testing.T) {
	next := draws(13)
	for kind := range 5 {
		steps := drawScript(next, 1, 3, kind)
		entries, want := checkStory(t, 1, 3, steps)
		var all sync.WaitGroup
		for range 8 {
			all.Go(func() {
				for range 4 {
					if got := gotTold(1, 3, steps); !equalTold(got, want) || !slices.EqualFunc(impl.EntriesOf(1, 3, steps), entries, equalEntry) {
						t.Errorf("of %v is told %v, not %v", steps, got, want)
					}
				}
			})
		}
		all.Wait()
	}
}

// No goroutine is left behind a call; one that has nothing more to do may take a moment to end.
func TestNoGoroutineIsLeft(t *testing.T) {
	next := draws(14)
	before := runtime.NumGoroutine()
	for kind := range 5 {
		steps := drawScript(next, 2, 3, kind)
		gotTold(2, 3, steps)
		gotTold(2, 99, steps)
	}
	for range 200 {
		if runtime.NumGoroutine() <= before {
			return
		}
		time.Sleep(10 * time.Millisecond)
	}
	t.Errorf("%d goroutines are left", runtime.NumGoroutine()-before)
}
