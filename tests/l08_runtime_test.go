package tests

import (
	"fmt"
	"math"
	"slices"
	"strings"
	"testing"

	"loop.example/g00778/impl"
)

func equalRequest(a, b impl.Request) bool {
	return a.Id == b.Id && a.Model == b.Model && equalJob(a.Job, b.Job) && a.Due == b.Due
}

func equalRuntime(a, b impl.Runtime) bool {
	return equalSched(a.Sched, b.Sched) && slices.EqualFunc(a.Models, b.Models, impl.SameModel) &&
		slices.Equal(a.Loaded, b.Loaded) && slices.EqualFunc(a.Requests, b.Requests, equalRequest)
}

func isZeroRuntime(r impl.Runtime) bool { return equalRuntime(r, impl.Runtime{}) }

func equalEvent(a, b impl.Event) bool {
	return a.Kind == b.Kind && a.A == b.A && a.B == b.B && equal(a.Out, b.Out)
}

func equalEvents(a, b []impl.Event) bool { return slices.EqualFunc(a, b, equalEvent) }

func cloneRuntime(r impl.Runtime) impl.Runtime {
	r.Sched = cloneSched(r.Sched)
	r.Models, r.Loaded, r.Requests = slices.Clone(r.Models), slices.Clone(r.Loaded), slices.Clone(r.Requests)
	for i, m := range r.Models {
		r.Models[i] = cloneModel(m)
	}
	for i, q := range r.Requests {
		r.Requests[i].Job = cloneJob(q.Job)
	}
	return r
}

// bytesOf are those of a model, right or not.
func bytesOf(m impl.Model) []byte { return summed(bodyOf(m)) }

func load(place int, m impl.Model) impl.Step { return impl.Step{A: place, Data: bytesOf(m)} }

func unload(place int) impl.Step { return impl.Step{Kind: 1, A: place} }

func submit(place, b int, x impl.Tensor) impl.Step {
	return impl.Step{Kind: 2, A: place, B: b, Input: x}
}

func cancel(id int) impl.Step { return impl.Step{Kind: 3, A: id} }

func ticks(n int) impl.Step { return impl.Step{Kind: 4, A: n} }

func stalled(n int) impl.Step { return impl.Step{Kind: 5, A: n} }

// empty has no models.
func empty(s impl.Sched) impl.Runtime {
	return impl.Runtime{Sched: s, Models: make([]impl.Model, 4), Loaded: make([]bool, 4)}
}

// holding is r with m at that place.
func holding(r impl.Runtime, place int, m impl.Model) impl.Runtime {
	r = cloneRuntime(r)
	r.Models[place], r.Loaded[place] = m, true
	return r
}

// asked is r with a request more for the model at that place, of which so many layers are done.
func asked(r impl.Runtime, place, at, due int) impl.Runtime {
	r = cloneRuntime(r)
	m := r.Models[place]
	_, costs := wantWalk(m)
	x := task(r.Sched.Next, due, r.Sched.Now, costs...)
	x.At = at
	r.Sched.Tasks = append(r.Sched.Tasks, x)
	r.Requests = append(r.Requests, impl.Request{Id: x.Id, Model: place, Job: jobsOf(m, some(m.In))[at], Due: due})
	r.Sched.Next++
	return r
}

// under is r with the layer of that task under way.
func under(r impl.Runtime, id, left int) impl.Runtime {
	r.Sched = running(r.Sched, id, left)
	return r
}

// Models over 2x2x1: brief costs 1 and 1; chainy 1, 3, 5, 1 and 1; heavy 3, 1, 3 and 3.
func brief() impl.Model { return model(shape(2, 2, 1), relu(0), pool(2, 2, 1)) }

func chainy() impl.Model {
	return model(shape(2, 2, 1), flat(), dense(8, 4, 1<<30, 5, 3), dense(8, 8, 1<<30, 6, -7), relu(-20), flat())
}

func heavy() impl.Model {
	return model(shape(2, 2, 1), conv(8, 2, 1, 1, 1<<30, 5, 9), flat(), dense(4, 8, 1<<30, 6, 1), dense(8, 4, 1<<30, 5, 0))
}

// dear has layers that cost 33 and 1297.
func dear() impl.Model { return model(shape(8, 8, 8), relu(5), conv(8, 3, 1, 8, 1<<30, 9, 0)) }

// small are right for brief, chainy and heavy.
func small(numbers ...int) impl.Tensor { return tensor(2, 2, 1, numbers...) }

// busy has models at three places, two of them the same, and five requests, one of them under way.
func busy() impl.Runtime {
	r := empty(impl.Sched{Now: 40, Slack: 2, Age: 3, Turns: 7, Next: 9})
	r = holding(holding(holding(r, 0, chainy()), 1, brief()), 3, chainy())
	r = asked(asked(asked(r, 0, 2, 90), 3, 0, 95), 1, 0, 52)
	r.Sched.Next += 2
	return under(asked(asked(r, 0, 0, 130), 1, 1, 60), 9, 4)
}

func wantNew(slack, age int) (impl.Runtime, bool) {
	if !among(0, 1000, slack) || !among(0, 20, age) {
		return impl.Runtime{}, false
	}
	return empty(impl.Sched{Slack: slack, Age: age, Next: 1}), true
}

// wantHeld is what the chapter says of one place.
func wantHeld(m impl.Model, loaded bool) bool {
	_, costs := wantWalk(m)
	if !loaded {
		return isZeroModel(m)
	}
	return len(costs) > 0 && slices.Max(costs) <= 1000
}

func wantRuntimeOk(r impl.Runtime) bool {
	if !wantSchedOk(r.Sched) || len(r.Models) != 4 || len(r.Loaded) != 4 || len(r.Requests) != len(r.Sched.Tasks) {
		return false
	}
	for i, m := range r.Models {
		if !wantHeld(m, r.Loaded[i]) {
			return false
		}
	}
	for i, q := range r.Requests {
		x := r.Sched.Tasks[i]
		if q.Id != x.Id || q.Due != x.Due || q.Model < 0 || q.Model > 3 || !r.Loaded[q.Model] {
			return false
		}
		_, ok := wantJob(q.Job)
		_, costs := wantWalk(q.Job.Model)
		if !ok || !impl.SameModel(q.Job.Model, r.Models[q.Model]) || q.Job.At != x.At || !slices.Equal(costs, x.Costs) {
			return false
		}
	}
	return true
}

func requestAt(r impl.Runtime, id int) int {
	return slices.IndexFunc(r.Requests, func(q impl.Request) bool { return q.Id == id })
}

// wantGone is a right r without that request.
func wantGone(r impl.Runtime, id int) impl.Runtime {
	i := requestAt(r, id)
	r.Sched, _ = wantCancel(r.Sched, id)
	r.Requests = slices.Delete(slices.Clone(r.Requests), i, i+1)
	return r
}

// wantTicks are that many ticks of a right r.
func wantTicks(r impl.Runtime, n int, stalled bool) (impl.Runtime, []impl.Event) {
	var events []impl.Event
	for range n {
		s, id, goes := wantTick(r.Sched, stalled)
		r.Sched = s
		if id == 0 {
			continue
		}
		i := requestAt(r, id)
		j := r.Requests[i].Job
		_, costs := wantWalk(j.Model)
		r.Requests[i].Job = wantJobs(j, costs[j.At:j.At+1])[1]
		if goes {
			events = append(events, impl.Event{Kind: 3, A: id, B: s.Now, Out: r.Requests[i].Job.Act})
			r.Requests = slices.Delete(r.Requests, i, i+1)
		}
	}
	return r, events
}

// wantCode is why a right r refuses x; 0 when it does not.
func wantCode(r impl.Runtime, x impl.Step) int {
	place := x.A >= 0 && x.A < 4
	held := place && r.Loaded[x.A]
	switch x.Kind {
	case 0:
		m, code := wantDecode(x.Data)
		if !place || held {
			return 1
		}
		if code != 0 || !wantHeld(m, true) {
			return 2
		}
	case 1:
		if !held {
			return 1
		}
	case 2:
		if !held {
			return 1
		}
		if !wantTensorOk(x.Input) || x.Input.Shape != r.Models[x.A].In {
			return 3
		}
		if x.B < 0 || x.B > 1000000 {
			return 8
		}
		_, costs := wantWalk(r.Models[x.A])
		if _, _, code := wantAdmit(r.Sched, costs, r.Sched.Now+x.B); code > 0 {
			return code + 3
		}
	case 3:
		if requestAt(r, x.A) < 0 {
			return 7
		}
	case 4, 5:
		if x.A < 0 || x.A > 200 {
			return 8
		}
	default:
		return 8
	}
	return 0
}

func wantStep(r impl.Runtime, x impl.Step) (impl.Runtime, []impl.Event) {
	if !wantRuntimeOk(r) {
		return r, nil
	}
	if code := wantCode(r, x); code > 0 {
		return r, []impl.Event{{Kind: 5, A: x.Kind, B: code}}
	}
	r = cloneRuntime(r)
	var events []impl.Event
	switch x.Kind {
	case 0:
		m, _ := wantDecode(x.Data)
		_, costs := wantWalk(m)
		r.Models[x.A], r.Loaded[x.A] = m, true
		return r, []impl.Event{{A: x.A, B: total(costs)}}
	case 1:
		for _, q := range slices.Clone(r.Requests) {
			if q.Model == x.A {
				r, events = wantGone(r, q.Id), append(events, impl.Event{Kind: 4, A: q.Id})
			}
		}
		r.Models[x.A], r.Loaded[x.A] = impl.Model{}, false
		return r, append(events, impl.Event{Kind: 1, A: x.A})
	case 2:
		m := r.Models[x.A]
		_, costs := wantWalk(m)
		s, id, _ := wantAdmit(r.Sched, costs, r.Sched.Now+x.B)
		q := impl.Request{Id: id, Model: x.A, Job: impl.Job{Model: m, Act: x.Input}, Due: r.Sched.Now + x.B}
		r.Sched, r.Requests = s, append(r.Requests, q)
		return r, []impl.Event{{Kind: 2, A: id, B: q.Due}}
	case 3:
		return wantGone(r, x.A), []impl.Event{{Kind: 4, A: x.A}}
	}
	return wantTicks(r, x.A, x.Kind == 5)
}

func wantPlayRuntime(slack, age int, steps []impl.Step) (impl.Runtime, []impl.Event, bool) {
	r, ok := wantNew(slack, age)
	if !ok || len(steps) > 200 {
		return impl.Runtime{}, nil, false
	}
	var all []impl.Event
	for _, x := range steps {
		then, events := wantStep(r, x)
		r, all = then, append(all, events...)
	}
	return r, all, true
}

func wantTensorText(x impl.Tensor) string {
	if !wantTensorOk(x) {
		return ""
	}
	return fmt.Sprintf("%dx%dx%d: %s", x.Shape.H, x.Shape.W, x.Shape.C, strings.Trim(fmt.Sprint(x.Data), "[]"))
}

func wantEventText(e impl.Event) string {
	switch e.Kind {
	case 0:
		return fmt.Sprintf("load %d cost %d", e.A, e.B)
	case 1:
		return fmt.Sprintf("drop %d", e.A)
	case 2:
		return fmt.Sprintf("admit %d due %d", e.A, e.B)
	case 3:
		return fmt.Sprintf("done %d at %d: %s", e.A, e.B, wantTensorText(e.Out))
	case 4:
		return fmt.Sprintf("cancel %d", e.A)
	case 5:
		return fmt.Sprintf("refuse %d code %d", e.A, e.B)
	}
	return ""
}

// textsOf are those of the events, as a test can tell them.
func textsOf(events []impl.Event) []string {
	var list []string
	for _, e := range events {
		list = append(list, wantEventText(e))
	}
	return list
}

func wantQueue(r impl.Runtime) string {
	var texts []string
	list := slices.Clone(r.Requests)
	slices.SortStableFunc(list, func(a, b impl.Request) int {
		switch {
		case a.Id < b.Id:
			return -1
		case a.Id > b.Id:
			return 1
		}
		return 0
	})
	for _, q := range list {
		text := ""
		if _, ok := wantJob(q.Job); ok {
			text = fmt.Sprintf("%d/%d %d", q.Job.At, len(q.Job.Model.Layers), q.Job.Spent)
		}
		texts = append(texts, fmt.Sprintf("%d:%s due %d", q.Id, text, q.Due))
	}
	if len(texts) == 0 {
		return "-"
	}
	return strings.Join(texts, ", ")
}

// checkStep holds DoStep against the chapter, and answers what the chapter gives.
func checkStep(t *testing.T, r impl.Runtime, x impl.Step) (impl.Runtime, []impl.Event) {
	t.Helper()
	want, wantEvents := wantStep(r, x)
	got, events := impl.DoStep(r, x)
	if !equalRuntime(got, want) || !equalEvents(events, wantEvents) {
		t.Fatalf("DoStep(%v, %v)\n= %v, %v\nnot %v, %v", r, x, got, events, want, wantEvents)
	}
	return want, wantEvents
}

// stepsAround are steps of each kind, at both sides of each bound, and with several reasons to refuse at once.
func stepsAround(r impl.Runtime) []impl.Step {
	list := []impl.Step{load(2, dear()), load(2, model(shape(3, 3, 1), flat())), {A: 2}, load(2, wide()), {A: 2, Data: bytesOf(brief())[1:]}}
	for _, place := range around(0, 3) {
		list = append(list, load(place, chainy()), impl.Step{A: place, Data: []byte{1}}, unload(place), submit(place, 70, small(1, -2, 3, -4)), submit(place, -1, small(1, 2, 3)))
		list = append(list, impl.Step{Kind: 1, A: place, B: -1, Data: []byte("PM1"), Input: small(1)})
	}
	for _, b := range append(duesAround(r.Sched), 1000000-r.Sched.Now, 1000001-r.Sched.Now, 1000002-r.Sched.Now) {
		list = append(list, submit(0, b, small(5, 6, 7, -128)), submit(1, b-r.Sched.Now, small(0, 0, 0, 0)), submit(1, b, tensor(1, 2, 2, 1, 2, 3, 4)), submit(3, b, small(1, 2, 3, 128)))
	}
	for _, id := range idsAround(r.Sched) {
		list = append(list, cancel(id), impl.Step{Kind: 3, A: id, B: 9, Data: []byte{1}, Input: small(1)})
	}
	for _, n := range append(around(0, 200), 2, 3, 5, 8, 13, 21) {
		list = append(list, ticks(n), stalled(n), impl.Step{Kind: 4, A: n, B: -1, Data: []byte{1}, Input: small(1)}, impl.Step{Kind: 5, A: n, B: 201})
	}
	for _, kind := range []int{math.MinInt, -1 << 32, -256, -6, -1, 6, 7, 256, 260, 1 << 32, 1<<32 + 4, math.MaxInt} {
		list = append(list, impl.Step{Kind: kind, A: 1, B: 5, Data: bytesOf(brief()), Input: small(1, 2, 3, 4)}, impl.Step{Kind: kind})
	}
	return list
}

// checkRuntime holds each function of one runtime, right or not, against the chapter.
func checkRuntime(t *testing.T, r impl.Runtime) bool {
	t.Helper()
	ok := wantRuntimeOk(r)
	if impl.RuntimeOk(r) != ok {
		t.Fatalf("RuntimeOk(%v) = %t", r, !ok)
	}
	if got, want := impl.QueueText(r), wantQueue(r); got != want {
		t.Fatalf("QueueText(%v) = %q, not %q", r, got, want)
	}
	for _, x := range stepsAround(r) {
		then, _ := checkStep(t, r, x)
		if wantRuntimeOk(then) != ok {
			t.Fatalf("%v gives %v with %v", r, then, x)
		}
	}
	return ok
}

// full has as many requests as there may be, each in time.
func full() impl.Runtime {
	r := holding(holding(empty(impl.Sched{Now: 5, Slack: 1, Next: 3}), 1, brief()), 0, heavy())
	for i := range 12 {
		r = asked(r, 1-i%2, i%2, 400+10*i)
	}
	return r
}

// lastOf has room for one Id more, or for none.
func lastOf(next int) impl.Runtime {
	r := asked(holding(empty(impl.Sched{Now: 3, Next: 7}), 1, brief()), 1, 0, 50)
	r.Sched.Next = next
	return r
}

// ending is near MaxTick, with more to do than there are ticks.
func ending(now int) impl.Runtime {
	r := holding(holding(empty(impl.Sched{Now: now, Age: 2, Next: 4}), 1, brief()), 0, heavy())
	return under(asked(asked(asked(r, 1, 0, 1000000), 0, 1, 999999), 0, 0, now), 6, 2)
}

func goodRuntimes() []impl.Runtime {
	list := []impl.Runtime{busy(), full(), empty(impl.Sched{Next: 1}), empty(impl.Sched{Now: 1000000, Slack: 1000, Age: 20, Turns: 1000000, Next: 1000000}), lastOf(999999), lastOf(1000000)}
	for now := 999990; now <= 1000000; now += 2 {
		list = append(list, ending(now))
	}
	all := empty(impl.Sched{Next: 1})
	for place, m := range []impl.Model{brief(), chainy(), heavy(), wide()} {
		all = asked(holding(all, place, m), place, 1, 300)
		list = append(list, all)
	}
	return list
}

func TestRuntimeLimits(t *testing.T) {
	if impl.MaxModels != 4 || impl.MaxSteps != 200 {
		t.Error("a limit is another")
	}
}

func TestNewRuntime(t *testing.T) {
	for _, slack := range append(around(0, 1000), 2, 500) {
		for _, age := range append(around(0, 20), 2, 10) {
			r, ok := impl.NewRuntime(slack, age)
			want, wantOk := wantNew(slack, age)
			if ok != wantOk || !equalRuntime(r, want) || impl.RuntimeOk(r) != ok {
				t.Errorf("NewRuntime(%d, %d) = %v, %t", slack, age, r, ok)
			}
		}
	}
	r, ok := impl.NewRuntime(7, 3)
	if !ok || r.Sched.Slack != 7 || r.Sched.Age != 3 || r.Sched.Next != 1 || len(r.Models) != 4 || len(r.Loaded) != 4 || len(r.Requests) != 0 || slices.Contains(r.Loaded, true) {
		t.Errorf("NewRuntime(7, 3) = %v, %t", r, ok)
	}
}

func TestGoodRuntimes(t *testing.T) {
	for _, r := range goodRuntimes() {
		if !checkRuntime(t, r) {
			t.Errorf("%v is not right", r)
		}
	}
}

// playing is PlayRuntime, held against the chapter and against DoStep one after the other.
func playing(t *testing.T, slack, age int, steps []impl.Step) (impl.Runtime, []impl.Event) {
	t.Helper()
	want, wantEvents, wantOk := wantPlayRuntime(slack, age, steps)
	got, events, ok := impl.PlayRuntime(slack, age, steps)
	if ok != wantOk || !equalRuntime(got, want) || !equalEvents(events, wantEvents) {
		t.Fatalf("PlayRuntime(%d, %d, %v)\n= %v, %v, %t\nnot %v, %v, %t", slack, age, steps, got, events, ok, want, wantEvents, wantOk)
	}
	return want, wantEvents
}

type script struct {
	name  string
	slack int
	age   int
	steps []impl.Step
	texts []string
	queue string
}

func checkScripts(t *testing.T, list []script) {
	t.Helper()
	for _, c := range list {
		r, events, ok := impl.PlayRuntime(c.slack, c.age, c.steps)
		if got := textsOf(events); !ok || !slices.Equal(got, c.texts) || impl.QueueText(r) != c.queue || !impl.RuntimeOk(r) {
			t.Errorf("%s: %q, %q, %t, not %q, %q", c.name, got, impl.QueueText(r), ok, c.texts, c.queue)
		}
		playing(t, c.slack, c.age, c.steps)
	}
}

// Each kind of step and each code in numbers, and the first reason of several.
func TestStepsInNumbers(t *testing.T) {
	x := small(-1, 2, 3, -4)
	b := bytesOf(brief())
	checkScripts(t, []script{
		{"load", 0, 0, []impl.Step{load(-1, brief()), load(4, brief()), load(0, brief()), load(3, chainy()), load(0, chainy()), {A: 3}, {A: 9}, {A: 1}, {A: 1, Data: b[:len(b)-1]}, {A: 1, Data: append(slices.Clone(b), 0)}, {A: 1, Data: append(slices.Clone(b), b...)}, load(1, dear()), load(1, brief())},
			[]string{"refuse 0 code 1", "refuse 0 code 1", "load 0 cost 2", "load 3 cost 11", "refuse 0 code 1", "refuse 0 code 1", "refuse 0 code 1", "refuse 0 code 2", "refuse 0 code 2", "refuse 0 code 2", "refuse 0 code 2", "refuse 0 code 2", "load 1 cost 2"}, "-"},
		{"unload", 0, 0, []impl.Step{unload(0), load(0, brief()), load(3, wide()), unload(-1), unload(4), unload(1), unload(0), unload(0), unload(3), load(0, wide()), unload(0)},
			[]string{"refuse 1 code 1", "load 0 cost 2", "load 3 cost 107", "refuse 1 code 1", "refuse 1 code 1", "refuse 1 code 1", "drop 0", "refuse 1 code 1", "drop 3", "load 0 cost 107", "drop 0"}, "-"},
		{"submit", 1, 0, []impl.Step{submit(0, 9, x), load(0, brief()), submit(0, 2, x), submit(0, 3, x), submit(0, 4, x), submit(0, 5, x), submit(1, 50, x), submit(4, 50, x), submit(-1, 50, x)},
			[]string{"refuse 2 code 1", "load 0 cost 2", "refuse 2 code 6", "admit 1 due 3", "refuse 2 code 6", "admit 2 due 5", "refuse 2 code 1", "refuse 2 code 1", "refuse 2 code 1"}, "1:0/2 0 due 3, 2:0/2 0 due 5"},
		{"reasons of a submit", 0, 0, []impl.Step{load(0, brief()), stalled(1), submit(1, -1, small(1)), submit(0, -1, small(1)), submit(0, -1, tensor(1, 2, 2, 1, 2, 3, 4)), submit(0, 5, small(1, 2, 3, 200)), submit(0, -1, x), submit(0, 1000001, x), submit(0, 1000000, x), submit(0, 999999, x), submit(0, 0, x), submit(0, 1, x)},
			[]string{"load 0 cost 2", "refuse 2 code 1", "refuse 2 code 3", "refuse 2 code 3", "refuse 2 code 3", "refuse 2 code 8", "refuse 2 code 8", "refuse 2 code 4", "admit 1 due 1000000", "refuse 2 code 6", "refuse 2 code 6"}, "1:0/2 0 due 1000000"},
		{"cancel", 0, 0, []impl.Step{cancel(1), load(2, brief()), submit(2, 9, x), submit(2, 9, x), cancel(0), cancel(-1), cancel(3), cancel(1), cancel(1), cancel(2), cancel(2)},
			[]string{"refuse 3 code 7", "load 2 cost 2", "admit 1 due 9", "admit 2 due 9", "refuse 3 code 7", "refuse 3 code 7", "refuse 3 code 7", "cancel 1", "refuse 3 code 7", "cancel 2", "refuse 3 code 7"}, "-"},
		{"ticks", 0, 0, []impl.Step{ticks(-1), ticks(201), stalled(-1), stalled(201), ticks(0), stalled(0), load(0, brief()), submit(0, 203, x), stalled(200), ticks(1), ticks(0), stalled(5), ticks(200), submit(0, 9, x), ticks(1), ticks(1)},
			[]string{"refuse 4 code 8", "refuse 4 code 8", "refuse 5 code 8", "refuse 5 code 8", "load 0 cost 2", "admit 1 due 203", "done 1 at 207: 1x1x1: 3", "admit 2 due 415", "done 2 at 408: 1x1x1: 3"}, "-"},
		{"other kinds", 0, 0, []impl.Step{{Kind: -1}, {Kind: 6}, {Kind: math.MinInt, A: 5}, {Kind: math.MaxInt, B: 5}, {Kind: 256, Data: b}, {Kind: 1 << 32, Data: b}},
			[]string{"refuse -1 code 8", "refuse 6 code 8", "refuse -9223372036854775808 code 8", "refuse 9223372036854775807 code 8", "refuse 256 code 8", "refuse 4294967296 code 8"}, "-"},
	})
}

// Several requests in one runtime: who is done when, and what goes with whom.
func TestRunsInNumbers(t *testing.T) {
	x, y, z := small(-1, 2, 3, -4), small(9, 8, 7, 6), small(-5, -6, -7, -8)
	checkScripts(t, []script{
		// Two go and one begins in one run of ticks; who has the least Due is first.
		{"one run", 0, 0, []impl.Step{load(0, brief()), load(1, model(shape(2, 2, 1), relu(0), relu(1), relu(2))), submit(0, 20, x), submit(1, 30, y), submit(0, 10, z), ticks(5), ticks(2)},
			[]string{"load 0 cost 2", "load 1 cost 3", "admit 1 due 20", "admit 2 due 30", "admit 3 due 10", "done 3 at 2: 1x1x1: 0", "done 1 at 4: 1x1x1: 3", "done 2 at 7: 2x2x1: 9 8 7 6"}, "-"},
		{"a first layer as another's last", 0, 0, []impl.Step{load(0, brief()), load(3, chainy()), submit(0, 5, x), submit(3, 40, y), ticks(3)},
			[]string{"load 0 cost 2", "load 3 cost 11", "admit 1 due 5", "admit 2 due 40", "done 1 at 2: 1x1x1: 3"}, "2:1/5 1 due 40"},
		// A layer that is under way is not done with its request; the next one begins anew.
		{"cancel under way", 0, 0, []impl.Step{load(0, wide()), load(1, brief()), submit(0, 300, some(shape(8, 8, 1))), submit(1, 400, x), ticks(34), ticks(6), cancel(1), ticks(1), ticks(1), ticks(40)},
			[]string{"load 0 cost 107", "load 1 cost 2", "admit 1 due 300", "admit 2 due 400", "cancel 1", "done 2 at 42: 1x1x1: 3"}, "-"},
		// Of those that are unloaded one is under way; the others go on, and the place is free.
		{"unload under way", 0, 0, []impl.Step{load(0, wide()), load(1, brief()), submit(1, 290, x), submit(0, 280, some(shape(8, 8, 1))), submit(1, 270, y), submit(0, 690, some(shape(8, 8, 1))), ticks(5), unload(0), submit(0, 50, x), unload(0), ticks(3), load(0, brief()), submit(0, 10, z), submit(0, 9, some(shape(8, 8, 1))), unload(1), ticks(2)},
			[]string{"load 0 cost 107", "load 1 cost 2", "admit 1 due 290", "admit 2 due 280", "admit 3 due 270", "admit 4 due 690", "done 3 at 2: 1x1x1: 9", "cancel 2", "cancel 4", "drop 0", "refuse 2 code 1", "refuse 1 code 1", "done 1 at 7: 1x1x1: 3", "load 0 cost 2", "admit 5 due 18", "refuse 2 code 3", "drop 1", "done 5 at 10: 1x1x1: 0"}, "-"},
		// The same model at two places: only the requests of the one go.
		{"two places", 0, 0, []impl.Step{load(2, brief()), load(1, brief()), submit(1, 90, x), submit(2, 91, y), submit(1, 92, z), submit(2, 93, x), ticks(1), unload(1), ticks(1)},
			[]string{"load 2 cost 2", "load 1 cost 2", "admit 1 due 90", "admit 2 due 91", "admit 3 due 92", "admit 4 due 93", "cancel 1", "cancel 3", "drop 1"}, "2:1/2 1 due 91, 4:0/2 0 due 93"},
		// A layer under way is not left for a Due that is less.
		{"between layers", 0, 0, []impl.Step{load(0, model(shape(2, 2, 1), conv(8, 2, 1, 1, 1<<30, 31, 5), relu(0))), load(1, brief()), submit(0, 50, x), ticks(1), submit(1, 3, y), submit(1, 4, y), ticks(3), ticks(2)},
			[]string{"load 0 cost 4", "load 1 cost 2", "admit 1 due 50", "refuse 2 code 6", "admit 2 due 5", "done 2 at 5: 1x1x1: 9", "done 1 at 6: 1x1x8: 5 5 5 5 5 5 5 5"}, "-"},
	})
}

func TestTheMostRequests(t *testing.T) {
	x := small(1, 2, 3, 4)
	steps := []impl.Step{load(0, brief()), stalled(1)}
	texts := []string{"load 0 cost 2"}
	for i := range 12 {
		steps, texts = append(steps, submit(0, 90-i, x)), append(texts, fmt.Sprintf("admit %d due %d", i+1, 91-i))
	}
	// A Due that passes MaxTick counts ahead of it that there are too many, and that ahead of too little time.
	steps = append(steps, submit(0, 90, x), submit(0, 0, x), submit(0, 1000000, x), submit(0, 1000001, x), submit(0, 0, small(1)), submit(1, 90, x), ticks(2), submit(0, 88, x), submit(0, 88, x), cancel(5), submit(0, 1, x), submit(0, 88, x))
	texts = append(texts, "refuse 2 code 5", "refuse 2 code 5", "refuse 2 code 4", "refuse 2 code 8", "refuse 2 code 3", "refuse 2 code 1", "done 12 at 3: 1x1x1: 4", "admit 13 due 91", "refuse 2 code 5", "cancel 5", "refuse 2 code 6", "admit 14 due 91")
	_, events, _ := impl.PlayRuntime(0, 0, steps)
	if got := textsOf(events); !slices.Equal(got, texts) {
		t.Errorf("%q, not %q", got, texts)
	}
	playing(t, 0, 0, steps)
	for _, next := range []int{999998, 999999, 1000000} {
		r, events := lastOf(next), []impl.Event(nil)
		for range 3 {
			r, events = checkStep(t, r, submit(1, 90, x))
		}
		if want := []string{"refuse 2 code 5"}; !slices.Equal(textsOf(events), want) || r.Sched.Next != 1000000 {
			t.Errorf("%q at %d", textsOf(events), r.Sched.Next)
		}
	}
}

func TestTicksThatRunIntoMaxTick(t *testing.T) {
	// One layer is left at MaxTick, and no tick takes it.
	r := asked(holding(empty(impl.Sched{Now: 999997, Next: 1}), 2, model(shape(2, 2, 1), relus(4)...)), 2, 0, 1000000)
	then, events := impl.DoStep(r, ticks(200))
	if then.Sched.Now != 1000000 || len(events) != 0 || impl.QueueText(then) != "1:3/4 3 due 1000000" || !impl.RuntimeOk(then) {
		t.Errorf("%v, %v", then, events)
	}
	for _, x := range []impl.Step{ticks(0), ticks(1), ticks(200), stalled(1), stalled(200)} {
		again, events := impl.DoStep(then, x)
		if !equalRuntime(again, then) || len(events) != 0 {
			t.Errorf("%v at MaxTick: %v, %v", x, again, events)
		}
	}
	for _, x := range []impl.Step{ticks(201), stalled(-1)} {
		if _, events := impl.DoStep(then, x); !slices.Equal(textsOf(events), []string{fmt.Sprintf("refuse %d code 8", x.Kind)}) {
			t.Errorf("%v at MaxTick: %v", x, events)
		}
	}
	// What is done at MaxTick is told, also when there are more ticks than come.
	r = asked(holding(empty(impl.Sched{Now: 999995, Next: 1}), 2, r.Models[2]), 2, 0, 1000000)
	then, _ = impl.DoStep(r, stalled(1))
	then, events = impl.DoStep(then, ticks(7))
	if got := textsOf(events); !slices.Equal(got, []string{"done 1 at 1000000: 2x2x1: 0 38 127 0"}) || then.Sched.Now != 1000000 {
		t.Errorf("%v, %q", then, got)
	}
	for now := 999985; now <= 1000000; now++ {
		for _, n := range []int{1, 2, 9, 14, 15, 16, 200} {
			checkStep(t, ending(now), ticks(n))
			checkStep(t, ending(now), stalled(n))
		}
	}
}

// Conv layers over the Shapes with the most numbers, by what they cost: the dearest that are loaded, and the cheapest that are not.
func TestModelsThatAreTooDear(t *testing.T) {
	r := empty(impl.Sched{Next: 1})
	under, above := 0, math.MaxInt
	eachShape(func(s impl.Shape) {
		for _, out := range []int{6, 7, 8} {
			l := conv(out, 3, 1, s.C, 1<<30, 9, 0)
			_, costs := wantWalk(model(s, l))
			if len(costs) == 0 || costs[0] < 700 {
				continue
			}
			if costs[0] <= 1000 {
				under = max(under, costs[0])
			} else {
				above = min(above, costs[0])
			}
			// Ahead of it and behind it are layers that are cheap.
			for _, m := range []impl.Model{model(s, l), model(s, relu(0), l), model(s, l, relu(0), pool(2, 1, 1))} {
				_, events := checkStep(t, r, load(3, m))
				held := holding(r, 3, m)
				if ok := costs[0] <= 1000; impl.RuntimeOk(held) != ok || ok != (events[0].Kind == 0) {
					t.Errorf("a layer that costs %d: %t, %q", costs[0], !ok, textsOf(events))
				}
			}
		}
	})
	// No layer costs what lies between: the products it makes have other factors.
	if under != 993 || above != 1081 {
		t.Errorf("the dearest are %d and %d", under, above)
	}
	// What all layers cost together may be more than MaxCost.
	m := model(shape(8, 8, 8), pool(2, 1, 1), conv(6, 3, 1, 8, 1<<30, 9, 0), conv(8, 3, 1, 6, 1<<30, 9, 0))
	_, events := checkStep(t, r, load(0, m))
	if got := textsOf(events); !slices.Equal(got, []string{"load 0 cost 1439"}) {
		t.Errorf("%q", got)
	}
}

// Bytes that are no model: the reason is the same whichever it is.
func TestLoadsOfWhatIsNoModel(t *testing.T) {
	r := busy()
	b := bytesOf(brief())
	for end := range b {
		checkStep(t, r, impl.Step{A: 2, Data: b[:end]})
	}
	for i := range b {
		turned := slices.Clone(b)
		turned[i]++
		checkStep(t, r, impl.Step{A: 2, Data: turned})
	}
	for _, m := range append(badModels()[:150], goodModels()...) {
		checkStep(t, r, load(2, m))
		checkStep(t, r, impl.Step{A: 2, Data: append(bytesOf(m), 0)})
	}
	for _, size := range []int{5999, 6000, 6001, 9000} {
		checkStep(t, r, impl.Step{A: 2, Data: append(slices.Clone(b), make([]byte, size-len(b))...)})
	}
}

func TestInputsOfASubmit(t *testing.T) {
	r := busy()
	for _, x := range append(badTensors(), goodTensors()...) {
		for place := range 4 {
			checkStep(t, r, submit(place, 500, x))
			checkStep(t, r, submit(place, -1, x))
		}
	}
	for _, n := range []int{-128, -1, 0, 127, -129, 128, math.MaxInt, math.MinInt} {
		for i := range 4 {
			x := small(1, 2, 3, 4)
			x.Data[i] = n
			_, events := checkStep(t, r, submit(1, 500, x))
			if ok := n >= -128 && n <= 127; ok != (events[0].Kind == 2) {
				t.Errorf("%v: %q", x, textsOf(events))
			}
		}
	}
}

// A step takes no note of what is not named for its kind.
func TestFieldsThatAStepHasNoUseFor(t *testing.T) {
	for _, x := range []impl.Step{load(2, brief()), load(0, brief()), unload(0), unload(2), submit(1, 300, small(1, 2, 3, 4)), cancel(9), cancel(2), ticks(9), stalled(3), {Kind: 7}} {
		want, wantEvents := checkStep(t, busy(), x)
		if x.Kind != 2 {
			x.B, x.Input = -5, tensor(1, 1, 1, 400)
		}
		if x.Kind != 0 {
			x.Data = []byte{1, 2, 3}
		}
		got, events := impl.DoStep(busy(), x)
		if !equalRuntime(got, want) || !equalEvents(events, wantEvents) {
			t.Errorf("%v: %v, %v", x, got, events)
		}
	}
}

type flaw struct {
	name string
	r    impl.Runtime
}

// flaws are what busy is when it is not right, each in one way.
func flaws() []flaw {
	var list []flaw
	put := func(name string, change func(r *impl.Runtime)) {
		r := cloneRuntime(busy())
		change(&r)
		list = append(list, flaw{name, r})
	}
	for _, x := range []int{-1, 1000001} {
		put("Now", func(r *impl.Runtime) { r.Sched.Now = x })
		put("Slack", func(r *impl.Runtime) { r.Sched.Slack = x })
		put("Age", func(r *impl.Runtime) { r.Sched.Age = x })
		put("Run", func(r *impl.Runtime) { r.Sched.Run = x })
		put("Left", func(r *impl.Runtime) { r.Sched.Left = x })
		put("Turns", func(r *impl.Runtime) { r.Sched.Turns = x })
		put("Next", func(r *impl.Runtime) { r.Sched.Next = x })
		for i := range 5 {
			put("the task's Id", func(r *impl.Runtime) { r.Sched.Tasks[i].Id = x })
			put("both Ids", func(r *impl.Runtime) { r.Sched.Tasks[i].Id, r.Requests[i].Id = x, x })
			put("the task's Born", func(r *impl.Runtime) { r.Sched.Tasks[i].Born = x })
			put("both Dues", func(r *impl.Runtime) { r.Sched.Tasks[i].Due, r.Requests[i].Due = x, x })
		}
	}
	flawsOfPlaces(put)
	flawsOfLists(put)
	for i := range 5 {
		flawsOfRequest(i, put)
	}
	return list
}

func flawsOfPlaces(put func(name string, change func(r *impl.Runtime))) {
	put("no Models", func(r *impl.Runtime) { r.Models = nil })
	put("no Loaded", func(r *impl.Runtime) { r.Loaded = nil })
	put("neither", func(r *impl.Runtime) { r.Models, r.Loaded = nil, nil })
	put("three Loaded", func(r *impl.Runtime) { r.Loaded = r.Loaded[:3] })
	put("five Loaded", func(r *impl.Runtime) { r.Loaded = append(r.Loaded, false) })
	put("five Models", func(r *impl.Runtime) { r.Models = append(r.Models, impl.Model{}) })
	put("five of both", func(r *impl.Runtime) {
		r.Models, r.Loaded = append(r.Models, impl.Model{}), append(r.Loaded, false)
	})
	put("five of both, the last one loaded", func(r *impl.Runtime) {
		r.Models, r.Loaded = append(r.Models, brief()), append(r.Loaded, true)
	})
	for _, n := range []int{1, 2, 3} {
		put("too few Models", func(r *impl.Runtime) { r.Models = r.Models[:n] })
		put("too few of both", func(r *impl.Runtime) { r.Models, r.Loaded = r.Models[:n], r.Loaded[:n] })
	}
	for _, m := range []impl.Model{brief(), dear(), model(shape(1, 0, 0)), model(shape(0, 0, -1)), model(shape(0, 1, 0)), {Layers: make([]impl.Layer, 1)}, {Layers: []impl.Layer{relu(0)}}} {
		put("a place that is not loaded", func(r *impl.Runtime) { r.Models[2] = m })
	}
	for _, m := range []impl.Model{{}, dear(), model(shape(2, 2, 1)), model(shape(3, 3, 1), flat()), model(shape(0, 2, 1), relu(0)), model(shape(2, 2, 1), relus(7)...)} {
		put("a place that is loaded", func(r *impl.Runtime) { r.Models[2], r.Loaded[2] = m, true })
	}
	for place, loaded := range busy().Loaded {
		put("Loaded", func(r *impl.Runtime) { r.Loaded[place] = !loaded })
		if loaded {
			put("requests of nothing", func(r *impl.Runtime) { r.Loaded[place], r.Models[place] = false, impl.Model{} })
			put("another model", func(r *impl.Runtime) { r.Models[place] = heavy() })
			put("another number", func(r *impl.Runtime) { r.Models[place].Layers[0].Zero++ })
		}
	}
	put("another Weight", func(r *impl.Runtime) { r.Models[0].Layers[2].Weights[5]++ })
	put("another Bias", func(r *impl.Runtime) { r.Models[3].Layers[1].Bias[7]++ })
}

func flawsOfLists(put func(name string, change func(r *impl.Runtime))) {
	put("no Requests", func(r *impl.Runtime) { r.Requests = nil })
	put("no tasks", func(r *impl.Runtime) { r.Sched = running(r.Sched, 0, 0); r.Sched.Tasks = nil })
	put("neither, but what is under way", func(r *impl.Runtime) { r.Requests, r.Sched.Tasks = nil, nil })
	put("a request twice", func(r *impl.Runtime) { r.Requests = append(r.Requests, r.Requests[4]) })
	put("a task twice", func(r *impl.Runtime) { r.Sched.Tasks = append(r.Sched.Tasks, r.Sched.Tasks[4]) })
	put("both twice", func(r *impl.Runtime) {
		r.Requests, r.Sched.Tasks = append(r.Requests, r.Requests[4]), append(r.Sched.Tasks, r.Sched.Tasks[4])
	})
	put("another order", func(r *impl.Runtime) { slices.Reverse(r.Requests) })
	put("another order of both", func(r *impl.Runtime) { slices.Reverse(r.Requests); slices.Reverse(r.Sched.Tasks) })
	put("two the other way round", func(r *impl.Runtime) { r.Requests[2], r.Requests[3] = r.Requests[3], r.Requests[2] })
	for i := range 5 {
		put("a request less", func(r *impl.Runtime) { r.Requests = slices.Delete(r.Requests, i, i+1) })
		put("a task less", func(r *impl.Runtime) { r.Sched.Tasks = slices.Delete(r.Sched.Tasks, i, i+1) })
		put("one instead of another", func(r *impl.Runtime) { r.Requests[i] = r.Requests[(i+1)%5] })
	}
}

func flawsOfRequest(i int, put func(name string, change func(r *impl.Runtime))) {
	for _, by := range []int{-1, 1, 1 << 32, math.MinInt} {
		put("Id", func(r *impl.Runtime) { r.Requests[i].Id += by })
		put("Due", func(r *impl.Runtime) { r.Requests[i].Due += by })
		put("the task's Due", func(r *impl.Runtime) { r.Sched.Tasks[i].Due += by })
		put("the task's At", func(r *impl.Runtime) { r.Sched.Tasks[i].At += by })
		put("the job's At", func(r *impl.Runtime) { r.Requests[i].Job.At += by })
		put("Spent", func(r *impl.Runtime) { r.Requests[i].Job.Spent += by })
		put("a cost", func(r *impl.Runtime) { r.Sched.Tasks[i].Costs[0] += by })
		put("a side of Act", func(r *impl.Runtime) { r.Requests[i].Job.Act.Shape.C += by })
		put("In", func(r *impl.Runtime) { r.Requests[i].Job.Model.In.W += by })
	}
	for _, place := range []int{-1, 2, 4, math.MaxInt, math.MinInt} {
		put("a place where nothing is", func(r *impl.Runtime) { r.Requests[i].Model = place })
	}
	put("a place of another model", func(r *impl.Runtime) {
		if r.Requests[i].Model == 1 {
			r.Requests[i].Model = 3
		} else {
			r.Requests[i].Model = 1
		}
	})
	put("a cost more", func(r *impl.Runtime) { r.Sched.Tasks[i].Costs = append(r.Sched.Tasks[i].Costs, 1) })
	put("no job", func(r *impl.Runtime) { r.Requests[i].Job = impl.Job{} })
	put("another number of the job's model", func(r *impl.Runtime) { r.Requests[i].Job.Model.Layers[0].Zero-- })
	put("another layer of the job's model", func(r *impl.Runtime) { r.Requests[i].Job.Model.Layers[0] = relu(-1) })
	put("a number that is too great", func(r *impl.Runtime) { r.Requests[i].Job.Act.Data[0] = 128 })
	put("a number more", func(r *impl.Runtime) { r.Requests[i].Job.Act.Data = append(r.Requests[i].Job.Act.Data, 0) })
	put("a layer further than its task", func(r *impl.Runtime) {
		j := r.Requests[i].Job
		_, costs := wantWalk(j.Model)
		r.Requests[i].Job = wantJobs(j, costs[j.At:j.At+1])[1]
	})
	put("a job of a model of as many layers", func(r *impl.Runtime) {
		m := cloneModel(r.Requests[i].Job.Model)
		m.Layers[len(m.Layers)-1] = relu(1)
		r.Requests[i].Job = jobsOf(m, some(m.In))[r.Requests[i].Job.At]
	})
}

func TestRuntimesThatAreNotOk(t *testing.T) {
	list := append(flaws(), flaw{"the zero value", impl.Runtime{}}, flaw{"without a Next", empty(impl.Sched{})}, flaw{"without places", impl.Runtime{Sched: impl.Sched{Next: 1}}})
	for _, c := range list {
		if wantRuntimeOk(c.r) || impl.RuntimeOk(c.r) {
			t.Errorf("%s: %v is right", c.name, c.r)
		}
		for _, x := range []impl.Step{load(2, brief()), load(9, brief()), unload(0), unload(2), submit(1, 300, small(1, 2, 3, 4)), submit(1, -1, small(1)), cancel(9), cancel(0), ticks(0), ticks(3), ticks(-1), stalled(3), {Kind: 6}, {Kind: -1}} {
			then, events := impl.DoStep(c.r, x)
			if !equalRuntime(then, c.r) || len(events) != 0 {
				t.Fatalf("%s: %v comes back as %v, %v", c.name, c.r, then, events)
			}
		}
		if got, want := impl.QueueText(c.r), wantQueue(c.r); got != want {
			t.Errorf("%s: %q, not %q", c.name, got, want)
		}
	}
	if len(list) < 300 {
		t.Errorf("only %d are not right", len(list))
	}
}

// What a runtime may be: it need not have come about by steps.
func TestRuntimesThatAreOk(t *testing.T) {
	for _, change := range []func(r *impl.Runtime){
		func(r *impl.Runtime) { r.Requests[0].Job.Act.Data[0]++ },
		func(r *impl.Runtime) { r.Requests[0].Model = 3 },
		func(r *impl.Runtime) { r.Models[2], r.Loaded[2] = wide(), true },
		func(r *impl.Runtime) { r.Models[2].Layers = []impl.Layer{} },
		func(r *impl.Runtime) { r.Sched.Now = 900000 },
		func(r *impl.Runtime) { r.Sched.Next = 1000000 },
		func(r *impl.Runtime) { r.Sched.Tasks[1].Due, r.Requests[1].Due = 1, 1 },
		func(r *impl.Runtime) { r.Sched = running(r.Sched, 15, 1) },
	} {
		r := cloneRuntime(busy())
		change(&r)
		if !checkRuntime(t, r) {
			t.Errorf("%v is not right", r)
		}
	}
}

func TestPlayRuntimeOfNoPlay(t *testing.T) {
	steps := []impl.Step{load(0, brief()), submit(0, 9, small(1, 2, 3, 4)), ticks(1)}
	for _, slack := range around(0, 1000) {
		for _, age := range around(0, 20) {
			playing(t, slack, age, steps)
			playing(t, slack, age, nil)
		}
	}
	for _, n := range []int{0, 1, 199, 200, 201, 202, 5000} {
		r, events, ok := impl.PlayRuntime(2, 3, slices.Repeat([]impl.Step{stalled(3), cancel(5)}, n)[:n])
		if ok != (n <= 200) || ok && (r.Sched.Now != (n+1)/2*3 || len(events) != n/2 || !impl.RuntimeOk(r)) || !ok && (!isZeroRuntime(r) || len(events) != 0) {
			t.Errorf("%d steps: %v, %v, %t", n, r, events, ok)
		}
	}
	// Ahead of it that no slack is so great, or that there are too many steps, nothing is told.
	for _, c := range []struct{ slack, n int }{{1001, 3}, {0, 201}, {-1, 300}} {
		r, events, ok := impl.PlayRuntime(c.slack, 0, slices.Repeat([]impl.Step{{Kind: 9}}, c.n))
		if ok || !isZeroRuntime(r) || len(events) != 0 {
			t.Errorf("%d steps with %d: %v, %v, %t", c.n, c.slack, r, events, ok)
		}
	}
}

func TestDonesOf(t *testing.T) {
	for _, c := range []struct {
		events []impl.Event
		want   []int
	}{
		{nil, nil},
		{[]impl.Event{{Kind: 3, A: 7, B: 9}}, []int{7}},
		{[]impl.Event{{Kind: 0, A: 1}, {Kind: 1, A: 2}, {Kind: 2, A: 3}, {Kind: 4, A: 4}, {Kind: 5, A: 3, B: 3}, {Kind: -3, A: 5}, {Kind: 6, A: 6}, {Kind: 259, A: 7}}, nil},
		{[]impl.Event{{Kind: 3, A: 5}, {Kind: 4, A: 6}, {Kind: 3, A: 2, B: 3, Out: small(1, 2, 3, 4)}, {Kind: 3, A: 5}, {Kind: 3}, {Kind: 3, A: math.MinInt}, {Kind: 3, A: math.MaxInt}}, []int{5, 2, 5, 0, math.MinInt, math.MaxInt}},
	} {
		if got := impl.DonesOf(c.events); !slices.Equal(got, c.want) {
			t.Errorf("DonesOf(%v) = %v, not %v", c.events, got, c.want)
		}
	}
}

func TestEventText(t *testing.T) {
	x := tensor(1, 2, 2, -128, 0, 127, 5)
	for _, c := range []struct {
		e    impl.Event
		want string
	}{
		{impl.Event{}, "load 0 cost 0"},
		{impl.Event{A: 3, B: 107, Out: x}, "load 3 cost 107"},
		{impl.Event{Kind: 1, A: 2, B: 9, Out: x}, "drop 2"},
		{impl.Event{Kind: 2, A: 11, B: 1000000, Out: x}, "admit 11 due 1000000"},
		{impl.Event{Kind: 3, A: 4, B: 70, Out: x}, "done 4 at 70: 1x2x2: -128 0 127 5"},
		{impl.Event{Kind: 3, A: 4, B: 70}, "done 4 at 70: "},
		{impl.Event{Kind: 3, A: -4, B: -70, Out: tensor(1, 1, 1, 128)}, "done -4 at -70: "},
		{impl.Event{Kind: 4, A: 12, B: 5, Out: x}, "cancel 12"},
		{impl.Event{Kind: 5, A: 2, B: 6, Out: x}, "refuse 2 code 6"},
		{impl.Event{Kind: 5, A: math.MinInt, B: math.MaxInt}, "refuse -9223372036854775808 code 9223372036854775807"},
		{impl.Event{Kind: 6, A: 1, B: 2, Out: x}, ""},
		{impl.Event{Kind: -1, A: 1, B: 2, Out: x}, ""},
	} {
		if got := impl.EventText(c.e); got != c.want {
			t.Errorf("EventText(%v) = %q, not %q", c.e, got, c.want)
		}
	}
	for _, kind := range append(around(0, 5), 2, 3, 256, 259, 1<<32+3) {
		for _, n := range around(0, 9) {
			for _, out := range []impl.Tensor{{}, x, small(1, 2, 3), tensor(9, 1, 1, 1, 2, 3, 4, 5, 6, 7, 8, 9)} {
				e := impl.Event{Kind: kind, A: n, B: -n, Out: out}
				if got, want := impl.EventText(e), wantEventText(e); got != want {
					t.Fatalf("EventText(%v) = %q, not %q", e, got, want)
				}
			}
		}
	}
}

func TestQueueText(t *testing.T) {
	r := busy()
	if got, want := impl.QueueText(r), "9:2/5 4 due 90, 10:0/5 0 due 95, 11:0/2 0 due 52, 14:0/5 0 due 130, 15:1/2 1 due 60"; got != want {
		t.Errorf("%q, not %q", got, want)
	}
	// The chapter does not ask for RuntimeOk: each request is told as it is, by its Id; of one Id the first is first.
	q, x := r.Requests[0], r.Requests[2]
	bad := x
	bad.Job.Spent, bad.Due = 1, -5
	same := x
	same.Id = 9
	for _, c := range []struct {
		list []impl.Request
		want string
	}{
		{nil, "-"},
		{[]impl.Request{}, "-"},
		{[]impl.Request{{}}, "0: due 0"},
		{[]impl.Request{q}, "9:2/5 4 due 90"},
		{[]impl.Request{x, q}, "9:2/5 4 due 90, 11:0/2 0 due 52"},
		{[]impl.Request{q, same}, "9:2/5 4 due 90, 9:0/2 0 due 52"},
		{[]impl.Request{same, bad, q}, "9:0/2 0 due 52, 9:2/5 4 due 90, 11: due -5"},
		{[]impl.Request{{Id: -3, Due: 4}, bad, {Id: -7}}, "-7: due 0, -3: due 4, 11: due -5"},
	} {
		before := impl.Runtime{Requests: c.list}
		if got := impl.QueueText(before); got != c.want {
			t.Errorf("QueueText(%v) = %q, not %q", c.list, got, c.want)
		}
	}
	many := slices.Repeat([]impl.Request{q, x}, 40)
	for i := range many {
		many[i].Due = i
	}
	if got := impl.QueueText(impl.Runtime{Requests: many}); got != wantQueue(impl.Runtime{Requests: many}) || strings.Count(got, ", ") != 79 {
		t.Errorf("of many: %q", got)
	}
}

// drawInput is mostly right for the models over 2x2x1.
func drawInput(next func(n int) int) impl.Tensor {
	x := small(next(256)-128, next(256)-128, next(256)-128, next(256)-128)
	switch next(12) {
	case 0:
		x.Data[next(4)] = 128
	case 1:
		x.Shape.H = 1
	case 2:
		return some(shape(8, 8, 1))
	}
	return x
}

// drawStep is a step of any kind, mostly one that is not refused. Where it is crowded there is time for many requests.
func drawStep(next func(n int) int, crowded bool) impl.Step {
	models := []impl.Model{brief(), chainy(), heavy(), wide(), model(shape(2, 2, 1), relus(6)...), dear()}
	switch k := next(20); {
	case k < 3:
		x := load(next(6)-1, models[next(6)])
		if next(6) == 0 {
			x.Data = x.Data[:next(len(x.Data))]
		}
		return x
	case k == 3 && next(2) == 0 && !crowded:
		return unload(next(6) - 1)
	case k < 11:
		b := next(30)
		if next(9) > 0 {
			b += 30 + next(80)
		}
		if crowded {
			b += 150
		}
		if next(20) == 0 {
			b = []int{-1, 1000000, 1000001}[next(3)]
		}
		return submit(next(5), b, drawInput(next))
	case k == 11:
		return cancel(next(40))
	case k < 17 && crowded:
		return ticks(next(4))
	case k < 17:
		return ticks(next(16))
	case k == 17:
		return stalled(next(7))
	case k == 18 && next(3) == 0 && !crowded:
		return impl.Step{Kind: 4 + next(2), A: []int{-1, 200, 201}[next(3)]}
	}
	return impl.Step{Kind: next(12) - 3, A: next(6) - 1, B: next(50), Data: bytesOf(brief()), Input: drawInput(next)}
}

// ledger is what was asked of each request that was admitted.
type ledger struct {
	models [4]impl.Model
	asked  map[int]impl.Model
	inputs map[int]impl.Tensor
	dones  int
}

// enter holds each event of Kind 3 against EvalModel, by no more than the steps and the events.
func (l *ledger) enter(t *testing.T, x impl.Step, events []impl.Event) {
	t.Helper()
	for _, e := range events {
		switch e.Kind {
		case 0:
			l.models[e.A], _ = impl.DecodeModel(x.Data)
		case 2:
			l.asked[e.A], l.inputs[e.A] = l.models[x.A], x.Input
		case 3:
			want, ok := impl.EvalModel(l.asked[e.A], l.inputs[e.A])
			if !ok || !equal(e.Out, want) || !equal(e.Out, wantEval(l.asked[e.A], l.inputs[e.A])) {
				t.Fatalf("done %d with %v, not %v", e.A, e.Out, want)
			}
			l.dones++
			delete(l.asked, e.A)
		case 4:
			if _, ok := l.asked[e.A]; !ok {
				t.Fatalf("%d is cancelled, but was not there", e.A)
			}
			delete(l.asked, e.A)
		}
	}
}

// left holds against each other who was admitted and has not gone, and the requests.
func (l *ledger) left(t *testing.T, r impl.Runtime) {
	t.Helper()
	if len(r.Requests) != len(l.asked) {
		t.Fatalf("%v are left, not %v", r.Requests, l.asked)
	}
	for _, q := range r.Requests {
		m, ok := l.asked[q.Id]
		want, _ := impl.EvalModel(m, l.inputs[q.Id])
		if out, done := impl.FinishJob(q.Job); !ok || !done || !equal(out, want) {
			t.Fatalf("%v comes to %v, not %v", q, out, want)
		}
	}
}

// Promise 10: behind each step of a drawn script the runtime is right, and what is done is what EvalModel gives.
func TestDrawnScripts(t *testing.T) {
	next := draws(10)
	codes, kinds := map[[2]int]int{}, map[int]int{}
	dones, lates := 0, 0
	for turn := range 200 {
		slack, age := next(4), next(5)
		r, ok := impl.NewRuntime(slack, age)
		book := ledger{asked: map[int]impl.Model{}, inputs: map[int]impl.Tensor{}}
		var steps []impl.Step
		var all []impl.Event
		for range 20 + next(181) {
			x := drawStep(next, turn%4 == 0)
			steps = append(steps, x)
			then, events := impl.DoStep(r, x)
			if want, wantEvents := wantStep(r, x); !equalRuntime(then, want) || !equalEvents(events, wantEvents) {
				t.Fatalf("DoStep(%v, %v)\n= %v, %v\nnot %v, %v", r, x, then, events, want, wantEvents)
			}
			book.enter(t, x, events)
			if len(steps)%5 == 0 {
				book.left(t, then)
			}
			for _, e := range events {
				kinds[e.Kind]++
				if e.Kind == 5 {
					codes[[2]int{e.A, e.B}]++
				}
			}
			r, all = then, append(all, events...)
			if !ok || !impl.RuntimeOk(r) || !wantRuntimeOk(r) || impl.QueueText(r) != wantQueue(r) {
				t.Fatalf("%v behind %v is not right", r, steps)
			}
			lates += len(impl.LateOf(r.Sched))
		}
		got, events, ok := impl.PlayRuntime(slack, age, steps)
		if !ok || !equalRuntime(got, r) || !equalEvents(events, all) || len(impl.DonesOf(events)) != book.dones {
			t.Fatalf("PlayRuntime(%d, %d, %v) = %v, %v, not %v, %v", slack, age, steps, got, events, r, all)
		}
		dones += book.dones
	}
	for kind := range 6 {
		if kinds[kind] < 100 {
			t.Errorf("only %d events of Kind %d", kinds[kind], kind)
		}
	}
	for _, k := range [][2]int{{0, 1}, {0, 2}, {1, 1}, {2, 1}, {2, 3}, {2, 5}, {2, 6}, {2, 8}, {3, 7}, {4, 8}, {5, 8}, {6, 8}, {-1, 8}} {
		if codes[k] < 5 {
			t.Errorf("only %d refusals of kind %d with code %d", codes[k], k[0], k[1])
		}
	}
	if dones < 1000 || lates < 100 {
		t.Errorf("only %d are done, and %d late", dones, lates)
	}
}

// Promise 10: each way to lay stalls, and to take one away, between the layers of two requests.
func TestWhatComesBetweenLayers(t *testing.T) {
	x, y := small(-7, 100, 3, -128), small(90, 1, -1, 55)
	for _, first := range []impl.Model{chainy(), heavy(), brief()} {
		wantX, wantY := wantEval(first, x), wantEval(heavy(), y)
		for tick := range 22 {
			for _, between := range [][]impl.Step{{stalled(3)}, {cancel(1)}, {cancel(2)}, {unload(0)}, {unload(1)}, {unload(0), load(0, brief()), submit(0, 50, x)}, {load(2, wide()), stalled(1), unload(2)}, {cancel(3), ticks(201), {Kind: 7}}} {
				steps := append([]impl.Step{load(0, first), load(1, heavy()), submit(0, 200, x), submit(1, 180, y), ticks(tick)}, between...)
				r, events := playing(t, 0, 2, append(steps, ticks(60)))
				for _, e := range events {
					if e.Kind == 3 && (e.A == 1 && !equal(e.Out, wantX) || e.A == 2 && !equal(e.Out, wantY)) {
						t.Errorf("done %d with %v", e.A, e.Out)
					}
				}
				if len(r.Requests) != 0 || !impl.RuntimeOk(r) {
					t.Errorf("%v is left behind %v", r, steps)
				}
			}
		}
	}
}

// spareRequest stands in the room behind the requests of roomyRuntime.
var spareRequest = impl.Request{Id: 91, Model: 92, Due: 93}

// roomyRuntime is r with room behind each of its lists.
func roomyRuntime(r impl.Runtime) impl.Runtime {
	r.Sched = roomySched(r.Sched)
	r.Models = append(slices.Clone(r.Models), brief(), brief())[:len(r.Models)]
	r.Loaded = append(slices.Clone(r.Loaded), true, true)[:len(r.Loaded)]
	r.Requests = append(slices.Clone(r.Requests), spareRequest, spareRequest)[:len(r.Requests)]
	for i, m := range r.Models {
		r.Models[i] = roomyModel(m)
	}
	for i, q := range r.Requests {
		r.Requests[i].Job = roomyJob(q.Job)
	}
	return r
}

func runtimeHasRoom(r impl.Runtime) bool {
	for _, m := range r.Models {
		if !modelHasRoom(m) {
			return false
		}
	}
	for _, q := range r.Requests {
		if !modelHasRoom(q.Job.Model) || !hasRoom(q.Job.Act.Data) {
			return false
		}
	}
	models := r.Models[:len(r.Models)+2][len(r.Models):]
	loaded := r.Loaded[:len(r.Loaded)+2][len(r.Loaded):]
	requests := r.Requests[:len(r.Requests)+2][len(r.Requests):]
	return schedHasRoom(r.Sched) && impl.SameModel(models[0], brief()) && impl.SameModel(models[1], brief()) && loaded[0] && loaded[1] && equalRequest(requests[0], spareRequest) && equalRequest(requests[1], spareRequest)
}

func overwriteRuntime(r impl.Runtime) {
	overwriteSched(r.Sched)
	for _, m := range r.Models {
		overwriteModel(m)
	}
	for _, q := range r.Requests {
		overwriteJob(q.Job)
	}
	models, loaded, requests := r.Models[:cap(r.Models)], r.Loaded[:cap(r.Loaded)], r.Requests[:cap(r.Requests)]
	for i := range models {
		models[i] = wide()
	}
	for i := range loaded {
		loaded[i] = i%2 == 1
	}
	for i := range requests {
		requests[i] = impl.Request{Id: 1008}
	}
}

func overwriteEvents(events []impl.Event) {
	for _, e := range events {
		overwrite(e.Out.Data, 1009)
	}
	events = events[:cap(events)]
	for i := range events {
		events[i] = impl.Event{Kind: 1010}
	}
}

// roomyStep is x with room behind its lists.
func roomyStep(x impl.Step) impl.Step {
	x.Data, x.Input.Data = roomyBytes(x.Data), roomy(x.Input.Data)
	return x
}

func equalStep(a, b impl.Step) bool {
	return a.Kind == b.Kind && a.A == b.A && a.B == b.B && slices.Equal(a.Data, b.Data) && equal(a.Input, b.Input)
}

// someSteps are of each kind, refused or not.
func someSteps() []impl.Step {
	return []impl.Step{load(2, chainy()), load(0, brief()), load(2, dear()), unload(0), unload(1), unload(2), submit(0, 300, small(1, -2, 3, -4)), submit(1, 0, small(1, 2, 3, 4)), submit(1, 5, small(1)), cancel(9), cancel(11), cancel(2), ticks(0), ticks(1), ticks(7), ticks(200), ticks(-1), stalled(5), {Kind: 8}}
}

func TestRuntimeArgumentsAreLeft(t *testing.T) {
	list := goodRuntimes()
	for i, c := range flaws() {
		if i%4 == 0 {
			list = append(list, c.r)
		}
	}
	for _, before := range list {
		r := roomyRuntime(before)
		for _, step := range someSteps() {
			x := roomyStep(step)
			then, events := impl.DoStep(r, x)
			again, more := impl.DoStep(then, ticks(3))
			overwriteRuntime(then)
			overwriteRuntime(again)
			overwriteEvents(events)
			overwriteEvents(more)
			if !equalRuntime(r, before) || !runtimeHasRoom(r) || !equalStep(x, step) || !bytesHaveRoom(x.Data) || !hasRoom(x.Input.Data) {
				t.Fatalf("%v with %v shares memory with an answer, or was written into: %v, %v", before, step, r, x)
			}
		}
		impl.RuntimeOk(r)
		impl.QueueText(r)
		if !equalRuntime(r, before) || !runtimeHasRoom(r) {
			t.Fatalf("%v was written into: %v", before, r)
		}
	}
}

// The requests of a runtime that is not right are told by their Ids, but stay where they are.
func TestQueueTextLeavesTheOrder(t *testing.T) {
	r := busy()
	slices.Reverse(r.Requests)
	before := cloneRuntime(r)
	impl.QueueText(r)
	if !equalRuntime(r, before) {
		t.Errorf("%v was written into: %v", before, r)
	}
}

// listsOf are all lists of numbers of a runtime and of what is told.
func listsOf(r impl.Runtime, events []impl.Event) [][]int {
	var lists [][]int
	models := slices.Clone(r.Models)
	for _, x := range r.Sched.Tasks {
		lists = append(lists, x.Costs)
	}
	for _, q := range r.Requests {
		lists, models = append(lists, q.Job.Act.Data), append(models, q.Job.Model)
	}
	for _, e := range events {
		lists = append(lists, e.Out.Data)
	}
	for _, m := range models {
		for _, l := range m.Layers {
			lists = append(lists, l.Weights, l.Bias)
		}
	}
	return lists
}

// checkOwnRuntime writes into each list of r and of the events, and into the room behind it, to see whether two share memory.
func checkOwnRuntime(t *testing.T, r impl.Runtime, events []impl.Event) {
	t.Helper()
	lists := listsOf(r, events)
	for i, own := range lists {
		overwrite(own, 1000+i)
	}
	for i, own := range lists {
		if !slices.Equal(own, same(len(own), 1000+i)) {
			t.Fatalf("list %d of %v, %v was written into through another", i, r, events)
		}
	}
	models := slices.Clone(r.Models)
	for _, q := range r.Requests {
		models = append(models, q.Job.Model)
	}
	for i, m := range models {
		layers := m.Layers[:cap(m.Layers)]
		for k := range layers {
			layers[k] = relu(1000 + i)
		}
	}
	for i, m := range models {
		for _, l := range m.Layers {
			if !impl.SameLayer(l, relu(1000+i)) {
				t.Fatalf("the layers of model %d in %v were written into through others", i, r)
			}
		}
	}
}

// sharing is right, though its models, jobs and tasks all have the same lists.
func sharing() impl.Runtime {
	list := []int{1, 2, 3, 4}
	l := impl.Layer{Kind: 0, Out: 4, Mult: 1 << 30, Weights: list, Bias: list}
	m := model(shape(1, 1, 1), slices.Repeat([]impl.Layer{l, {Kind: 2, Size: 1, Step: 1}, {Kind: 0, Out: 1, Mult: 1 << 30, Weights: list, Bias: list[:1]}}, 2)...)
	r := empty(impl.Sched{Now: 2, Next: 1})
	for _, place := range []int{0, 2, 3} {
		r.Models[place], r.Loaded[place] = m, true
	}
	_, costs := wantWalk(m)
	for i := range 6 {
		// Behind the first layer, and behind the second, there are four numbers.
		x := task(i+1, 90+i, 1, costs...)
		x.At, x.Costs = 1+i%2, costs
		j := impl.Job{Model: m, At: x.At, Act: tensor(1, 1, 4), Spent: total(costs[:x.At])}
		j.Act.Data = list
		r.Sched.Tasks = append(r.Sched.Tasks, x)
		r.Requests = append(r.Requests, impl.Request{Id: x.Id, Model: []int{0, 2, 3}[i%3], Job: j, Due: x.Due})
	}
	r.Sched.Next = 7
	return r
}

func TestListsOfARuntimeAreItsOwn(t *testing.T) {
	r := sharing()
	before := cloneRuntime(r)
	if !impl.RuntimeOk(r) {
		t.Fatalf("%v is not right", r)
	}
	bad, worse := r, r
	bad.Sched.Run, worse.Loaded = 77, nil
	for _, r := range []impl.Runtime{r, under(r, 2, 1), bad, worse} {
		for _, x := range append(someSteps(), submit(2, 300, tensor(1, 1, 1, 5)), ticks(25), load(1, r.Models[0])) {
			then, events := impl.DoStep(r, x)
			checkOwnRuntime(t, then, events)
		}
	}
	if !equalRuntime(r, before) {
		t.Errorf("%v was written into: %v", before, r)
	}
}

func TestPlayRuntimeSharesNothing(t *testing.T) {
	x := roomyStep(submit(0, 700, small(5, 6, 7, 8)))
	one, two := roomyStep(load(0, chainy())), roomyStep(load(1, model(shape(2, 2, 1), relu(-128))))
	again := x
	again.A = 1
	three := one
	three.A = 2
	steps := append([]impl.Step{one, two, three, again, x, x, again, ticks(1), x, again, ticks(9)}, load(3, wide()))[:11]
	before := slices.Clone(steps)
	for i := range before {
		before[i].Data, before[i].Input = slices.Clone(steps[i].Data), clone(steps[i].Input)
	}
	r, events, ok := impl.PlayRuntime(1, 2, steps)
	if !ok || len(r.Requests) != 5 || len(impl.DonesOf(events)) != 1 {
		t.Fatalf("%v, %v, %t", r, events, ok)
	}
	checkOwnRuntime(t, r, events)
	overwriteRuntime(r)
	overwrite(impl.DonesOf(events), 1000)
	overwriteEvents(events)
	if !slices.EqualFunc(steps, before, equalStep) || !bytesHaveRoom(one.Data) || !bytesHaveRoom(two.Data) || !hasRoom(x.Input.Data) || !equalStep(steps[:12][11], load(3, wide())) {
		t.Errorf("the steps were written into: %v", steps)
	}
	// Nothing is kept from one call to another.
	other, _, _ := impl.PlayRuntime(1, 2, steps)
	want, _, _ := wantPlayRuntime(1, 2, steps)
	fresh, _ := impl.NewRuntime(1, 2)
	overwriteRuntime(fresh)
	fresh, _ = impl.NewRuntime(1, 2)
	empty, _ := wantNew(1, 2)
	if !equalRuntime(other, want) || !equalRuntime(fresh, empty) {
		t.Errorf("%v and %v, not %v and %v", other, fresh, want, empty)
	}
}

func TestEventsAreLeft(t *testing.T) {
	list := []impl.Event{{Kind: 3, A: 5, B: 7, Out: small(1, 2, 3, 4)}, {Kind: 2, A: 6}, {Kind: 3, A: 8, Out: small(1)}}
	for i := range list {
		list[i].Out.Data = roomy(list[i].Out.Data)
	}
	before := slices.Clone(list)
	overwrite(impl.DonesOf(list), 1000)
	for i, e := range list {
		impl.EventText(e)
		if !equalEvent(e, before[i]) || !hasRoom(e.Out.Data) {
			t.Errorf("%v was written into", e)
		}
	}
}
