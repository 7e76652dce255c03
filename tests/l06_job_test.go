package tests

import (
	"fmt"
	"math"
	"slices"
	"testing"

	"loop.example/g00778/impl"
)

func equalJob(a, b impl.Job) bool {
	return impl.SameModel(a.Model, b.Model) && a.At == b.At && equal(a.Act, b.Act) && a.Spent == b.Spent
}

func isZeroJob(j impl.Job) bool { return equalJob(j, impl.Job{}) }

func cloneJob(j impl.Job) impl.Job {
	j.Model, j.Act = cloneModel(j.Model), clone(j.Act)
	return j
}

func total(numbers []int) int {
	sum := 0
	for _, x := range numbers {
		sum += x
	}
	return sum
}

func wantTensorOk(x impl.Tensor) bool {
	s := x.Shape
	return among(1, 8, s.H, s.W, s.C) && len(x.Data) == s.H*s.W*s.C && among(-128, 127, x.Data...)
}

// wantJob is what the layers cost that are left, and whether the job is right.
func wantJob(j impl.Job) ([]int, bool) {
	shapes, costs := wantWalk(j.Model)
	if len(shapes) == 0 || j.At < 0 || j.At > len(costs) {
		return nil, false
	}
	if !wantTensorOk(j.Act) || j.Act.Shape != shapes[j.At] || j.Spent != total(costs[:j.At]) {
		return nil, false
	}
	return costs[j.At:], true
}

// wantJobs are a right job and what it is behind each layer that is left, one for each.
func wantJobs(j impl.Job, left []int) []impl.Job {
	list := []impl.Job{j}
	for i, cost := range left {
		j.Act = wantEval(model(j.Act.Shape, j.Model.Layers[list[i].At]), j.Act)
		j.At, j.Spent = j.At+1, j.Spent+cost
		list = append(list, j)
	}
	return list
}

// jobsOf are the job of m with x as it begins, and what it is behind each layer.
func jobsOf(m impl.Model, x impl.Tensor) []impl.Job {
	_, costs := wantWalk(m)
	return wantJobs(impl.Job{Model: m, Act: x}, costs)
}

// sumsOf are the sums of none of the costs, of the first, of the first two, and so on.
func sumsOf(costs []int) []int {
	list := []int{0}
	for i := range costs {
		list = append(list, total(costs[:i+1]))
	}
	return list
}

// cyclesAround are the ends of int, and what lies at both sides of each sum.
func cyclesAround(sums []int) []int {
	list := []int{math.MinInt, math.MinInt + 1, -1 << 32, -5, 1 << 32, math.MaxInt - 1, math.MaxInt}
	for _, sum := range sums {
		list = append(list, sum-1, sum, sum+1, -sum)
	}
	return list
}

// checkJob holds each function of one job, right or not, against the chapter.
func checkJob(t *testing.T, j impl.Job) bool {
	t.Helper()
	left, ok := wantJob(j)
	if !ok {
		checkNoJob(t, j)
		return false
	}
	jobs, sums := wantJobs(j, left), sumsOf(left)
	next := 0
	if len(left) > 0 {
		next = left[0]
	}
	if !impl.JobOk(j) || impl.JobDone(j) != (len(left) == 0) || !slices.Equal(impl.LeftOf(j), left) || impl.NextCost(j) != next {
		t.Fatalf("%v: %t, %t, %v, %d; left are %v", j, impl.JobOk(j), impl.JobDone(j), impl.LeftOf(j), impl.NextCost(j), left)
	}
	if got, want := impl.JobText(j), fmt.Sprintf("%d/%d %d", j.At, len(j.Model.Layers), j.Spent); got != want {
		t.Fatalf("JobText(%v) = %q, not %q", j, got, want)
	}
	if got, ok := impl.FinishJob(j); !ok || !equal(got, jobs[len(left)].Act) {
		t.Fatalf("FinishJob(%v) = %v, %t, not %v", j, got, ok, jobs[len(left)].Act)
	}
	if got, ok := impl.StepJob(j); ok != (len(left) > 0) || !equalJob(got, jobs[min(1, len(left))]) {
		t.Fatalf("StepJob(%v) = %v, %t", j, got, ok)
	}
	for _, cycles := range cyclesAround(sums) {
		n := len(left)
		for n > 0 && sums[n] > cycles {
			n--
		}
		got, rest := impl.RunFor(j, cycles)
		if want := max(cycles, 0) - sums[n]; rest != want || !equalJob(got, jobs[n]) {
			t.Fatalf("RunFor(%v, %d) = %v, %d, not %v, %d", j, cycles, got, rest, jobs[n], want)
		}
	}
	return true
}

// checkNoJob holds that each function has its fixed answer for a job that is not JobOk.
func checkNoJob(t *testing.T, j impl.Job) {
	t.Helper()
	if impl.JobOk(j) || impl.JobDone(j) || len(impl.LeftOf(j)) != 0 || impl.NextCost(j) != 0 || impl.JobText(j) != "" {
		t.Fatalf("%v: %t, %t, %v, %d, %q", j, impl.JobOk(j), impl.JobDone(j), impl.LeftOf(j), impl.NextCost(j), impl.JobText(j))
	}
	if got, ok := impl.FinishJob(j); ok || !isZero(got) {
		t.Fatalf("FinishJob(%v) = %v, %t", j, got, ok)
	}
	if got, ok := impl.StepJob(j); ok || !equalJob(got, j) {
		t.Fatalf("StepJob(%v) = %v, %t", j, got, ok)
	}
	for _, cycles := range []int{math.MinInt, -1, 0, 1, 2, 1000, 1000000, math.MaxInt} {
		if got, rest := impl.RunFor(j, cycles); rest != cycles || !equalJob(got, j) {
			t.Fatalf("RunFor(%v, %d) = %v, %d", j, cycles, got, rest)
		}
	}
}

// someLong are some of longModels, of all lengths.
func someLong() []impl.Model {
	var list []impl.Model
	for i, m := range longModels() {
		if i%5 == 0 {
			list = append(list, m)
		}
	}
	return list
}

// Each right job at each place, from the input to behind the last layer.
func TestJobsAtEachPlace(t *testing.T) {
	lengths := map[int]int{}
	for _, m := range append(goodModels(), someLong()...) {
		lengths[len(m.Layers)]++
		for _, j := range jobsOf(m, some(m.In)) {
			if !checkJob(t, j) {
				t.Fatalf("%v is not right", j)
			}
		}
	}
	for n := 1; n <= 6; n++ {
		if lengths[n] < 5 {
			t.Errorf("only %d have %d layers", lengths[n], n)
		}
	}
}

// wide costs 33, 33 and 41, and gives 3x3x8.
func wide() impl.Model {
	return model(shape(8, 8, 1), conv(8, 1, 1, 1, 1<<30, 2, 3), relu(0), pool(3, 3, 2))
}

func TestJobsInNumbers(t *testing.T) {
	j, ok := impl.StartJob(wide(), some(shape(8, 8, 1)))
	if !ok || !slices.Equal(impl.LeftOf(j), []int{33, 33, 41}) || impl.NextCost(j) != 33 || impl.JobText(j) != "0/3 0" || impl.JobDone(j) {
		t.Fatalf("%v, %t, left %v", j, ok, impl.LeftOf(j))
	}
	for _, c := range []struct {
		cycles int
		text   string
		rest   int
		next   int
	}{
		{math.MinInt, "0/3 0", 0, 33}, {-33, "0/3 0", 0, 33}, {-1, "0/3 0", 0, 33}, {0, "0/3 0", 0, 33}, {1, "0/3 0", 1, 33}, {32, "0/3 0", 32, 33},
		{33, "1/3 33", 0, 33}, {34, "1/3 33", 1, 33}, {65, "1/3 33", 32, 33}, {66, "2/3 66", 0, 41}, {67, "2/3 66", 1, 41}, {106, "2/3 66", 40, 41},
		{107, "3/3 107", 0, 0}, {108, "3/3 107", 1, 0}, {1000, "3/3 107", 893, 0}, {math.MaxInt, "3/3 107", math.MaxInt - 107, 0},
	} {
		got, rest := impl.RunFor(j, c.cycles)
		if impl.JobText(got) != c.text || rest != c.rest || impl.NextCost(got) != c.next || impl.JobDone(got) != (c.next == 0) || len(impl.LeftOf(got)) != 3-got.At {
			t.Errorf("for %d: %s, %d left over, next %d", c.cycles, impl.JobText(got), rest, impl.NextCost(got))
		}
	}
	less := impl.Layer{Kind: 0, Out: 1, Mult: math.MaxInt32, Weights: []int{1}, Bias: []int{-3}}
	double := with(less, "Shift", 0)
	double.Weights, double.Bias = []int{2}, []int{0}
	j, _ = impl.StartJob(model(shape(1, 1, 1), double, less, relu(20)), tensor(1, 1, 1, 10))
	for at, want := range []int{10, 20, 17, 20} {
		out, ok := impl.FinishJob(j)
		if j.At != at || j.Spent != at || !equal(j.Act, tensor(1, 1, 1, want)) || !ok || !equal(out, tensor(1, 1, 1, 20)) {
			t.Errorf("behind %d layers: %v, and at the end %v, %t", at, j, out, ok)
		}
		j, ok = impl.StepJob(j)
		if ok != (at < 3) {
			t.Errorf("behind %d layers: %t", at, ok)
		}
	}
}

// What a job does hangs on its Act alone, whatever it may have come from.
func TestJobsGoOnFromTheirAct(t *testing.T) {
	for _, m := range goodModels()[:8] {
		for _, j := range jobsOf(m, some(m.In)) {
			for _, x := range []int{-128, -1, 0, 5, 127} {
				j.Act = impl.Tensor{Shape: j.Act.Shape, Data: same(len(j.Act.Data), x)}
				if !checkJob(t, j) {
					t.Fatalf("%v is not right", j)
				}
			}
		}
	}
}

// A job that is done stays as it is.
func TestDoneJobs(t *testing.T) {
	for _, m := range append(goodModels(), someLong()...) {
		jobs := jobsOf(m, some(m.In))
		j := jobs[len(m.Layers)]
		whole, rest := impl.RunFor(jobs[0], impl.TotalCost(m))
		if !equalJob(whole, j) || rest != 0 || !impl.JobDone(whole) {
			t.Fatalf("%v ran for its whole cost: %v, %d", m, whole, rest)
		}
		if got, ok := impl.StepJob(j); ok || !equalJob(got, j) {
			t.Errorf("StepJob(%v) = %v, %t", j, got, ok)
		}
		for _, cycles := range []int{math.MinInt, -1, 0, 1, 33, math.MaxInt} {
			if got, rest := impl.RunFor(j, cycles); !equalJob(got, j) || rest != max(cycles, 0) {
				t.Errorf("RunFor(%v, %d) = %v, %d", j, cycles, got, rest)
			}
		}
		if out, ok := impl.FinishJob(j); !ok || !equal(out, j.Act) || len(impl.LeftOf(j)) != 0 || impl.NextCost(j) != 0 {
			t.Errorf("%v: %v, %t, %v, %d", j, out, ok, impl.LeftOf(j), impl.NextCost(j))
		}
		if n := len(m.Layers); impl.JobText(j) != fmt.Sprintf("%d/%d %d", n, n, impl.TotalCost(m)) {
			t.Errorf("JobText(%v) = %q", j, impl.JobText(j))
		}
	}
}

// No layer that is right costs 0, so without cycles there is no layer, and a next cost of 0 is none.
func TestNoLayerIsFree(t *testing.T) {
	for _, m := range append(goodModels(), longModels()...) {
		j := impl.Job{Model: m, Act: some(m.In)}
		for _, cost := range impl.LeftOf(j) {
			if cost < 1 {
				t.Fatalf("%v costs %v", m, impl.LeftOf(j))
			}
		}
		if got, rest := impl.RunFor(j, 0); rest != 0 || got.At != 0 || got.Spent != 0 || impl.NextCost(j) < 1 {
			t.Fatalf("RunFor(%v, 0) = %v, %d", j, got, rest)
		}
	}
}

func TestEachAtOfAJob(t *testing.T) {
	right := 0
	for _, m := range goodModels()[:20] {
		jobs := jobsOf(m, some(m.In))
		n := len(m.Layers)
		ats := []int{math.MinInt, -1 << 32, -2, -1, n + 1, n + 2, 7, 1 << 32, 1<<32 + 1, math.MaxInt}
		for at := range n + 1 {
			ats = append(ats, at)
		}
		for _, j := range jobs {
			for _, at := range ats {
				// With the Spent of the place it had, of its new one, and of the whole.
				other := j
				other.At = at
				for _, spent := range []int{j.Spent, jobs[min(max(at, 0), n)].Spent, jobs[n].Spent} {
					other.Spent = spent
					if checkJob(t, other) {
						right++
					}
				}
			}
		}
	}
	if right < 100 {
		t.Errorf("only %d were right", right)
	}
}

func TestEachSpentOfAJob(t *testing.T) {
	for _, m := range append(goodModels()[:12], wide()) {
		jobs := jobsOf(m, some(m.In))
		for _, j := range jobs {
			spents := []int{math.MinInt, -1, 0, 1, j.Spent - 1, j.Spent + 1, -j.Spent, j.Spent + 1<<32, math.MaxInt}
			for _, other := range jobs {
				spents = append(spents, other.Spent, other.Spent-j.Spent)
			}
			for _, spent := range spents {
				other := j
				other.Spent = spent
				if got := checkJob(t, other); got != (spent == j.Spent) {
					t.Fatalf("%v: %t", other, got)
				}
			}
		}
	}
}

// badActs are no Act at the place of j: by the Shape, by how many numbers there are, or by one of them.
func badActs(j impl.Job) []impl.Tensor {
	s, data := j.Act.Shape, j.Act.Data
	list := []impl.Tensor{{}, {Shape: s}, {Data: data}, {Shape: s, Data: data[1:]}, {Shape: s, Data: data[:len(data)-1]}, {Shape: s, Data: append(slices.Clone(data), 0)}, {Shape: s, Data: append(slices.Clone(data), data...)}}
	for _, x := range []int{-129, 128, 256, 1 << 32, math.MinInt, math.MaxInt} {
		first, last := clone(j.Act), clone(j.Act)
		first.Data[0], last.Data[len(data)-1] = x, x
		list = append(list, first, last)
	}
	shapes, _ := wantWalk(j.Model)
	for _, other := range append(shapes, shape(s.W, s.H, s.C), shape(s.C, s.W, s.H), shape(s.H, s.C, s.W), shape(s.H+1, s.W, s.C), shape(s.H, s.W-1, s.C), shape(s.H, s.W, s.C+1), shape(1, 1, s.H*s.W*s.C), shape(s.H*s.W*s.C, 1, 1)) {
		if other != s {
			list = append(list, some(other), impl.Tensor{Shape: other, Data: data})
		}
	}
	return list
}

func TestEachActOfAJob(t *testing.T) {
	for _, m := range goodModels()[:20] {
		for _, j := range jobsOf(m, some(m.In)) {
			if !checkJob(t, j) {
				t.Fatalf("%v is not right", j)
			}
			acts := badActs(j)
			if j.At == 0 {
				acts = append(acts, badTensors()...)
			}
			for _, act := range acts {
				j.Act = act
				if checkJob(t, j) {
					t.Fatalf("%v is right", j)
				}
			}
		}
	}
}

// Jobs of models that are not right, though At, Act and Spent would be so with the one they had.
func TestJobsOfModelsThatAreNotOk(t *testing.T) {
	for _, m := range goodModels()[:12] {
		for _, j := range jobsOf(m, some(m.In)) {
			list := []impl.Model{{}, {In: m.In}, {Layers: m.Layers}, model(m.In, relus(7)...), model(m.In, slices.Repeat(m.Layers, 7)...), model(shape(9, m.In.W, m.In.C), m.Layers...), model(shape(m.In.H, 0, m.In.C), m.Layers...)}
			for place := range m.Layers {
				for _, l := range nowhere() {
					list = append(list, swapped(m, place, l))
				}
			}
			for _, other := range list {
				j.Model = other
				if checkJob(t, j) {
					t.Fatalf("%v is right", j)
				}
			}
		}
	}
	for _, m := range badModels() {
		for _, at := range []int{0, 1, len(m.Layers)} {
			checkNoJob(t, impl.Job{Model: m, At: at, Act: tensor(1, 1, 1, 5), Spent: at})
			if impl.ShapeOk(m.In) {
				checkNoJob(t, impl.Job{Model: m, At: at, Act: some(m.In), Spent: at})
			}
		}
	}
}

// Every number of layers, of which each costs 1 and hands its numbers on.
func TestNumbersOfLayersOfAJob(t *testing.T) {
	x := tensor(1, 1, 2, 3, 4)
	for n := range 10 {
		m := model(shape(1, 1, 2), slices.Repeat([]impl.Layer{flat()}, n)...)
		for at := -1; at <= n+1; at++ {
			got := checkJob(t, impl.Job{Model: m, At: at, Act: x, Spent: at})
			if want := n >= 1 && n <= 6 && at >= 0 && at <= n; got != want {
				t.Errorf("at %d of %d layers: %t", at, n, got)
			}
		}
	}
}

func TestJobsThatAreNoJobs(t *testing.T) {
	checkNoJob(t, impl.Job{})
	for _, j := range []impl.Job{
		{At: 1}, {Spent: 1}, {At: -1, Spent: -1}, {At: math.MinInt, Spent: math.MaxInt}, {Act: tensor(1, 1, 1, 5)}, {Act: tensor(0, 0, 0)}, {Act: tensor(3, -2, 9, 1000, -1000)},
		{Model: model(shape(1, 1, 1), flat())}, {Model: model(shape(9, 9, 9), impl.Layer{Kind: 77, Out: -3, Size: 9, Step: 9, Mult: -1, Shift: 99, Zero: 999, Weights: []int{1, 2, 3}, Bias: []int{4, 5}}), At: 5, Act: tensor(1, 1, 1, 1, 2), Spent: -9},
		{Model: model(shape(1, 1, 1), relus(1000)...), At: 999, Act: tensor(1, 1, 1, 5), Spent: 999},
	} {
		if checkJob(t, j) {
			t.Errorf("%v is right", j)
		}
	}
	if got, rest := impl.RunFor(impl.Job{}, -7); rest != -7 || !isZeroJob(got) {
		t.Errorf("RunFor of a job of zero values: %v, %d", got, rest)
	}
}

func TestStartJob(t *testing.T) {
	for _, m := range append(goodModels(), someLong()...) {
		x := some(m.In)
		j, ok := impl.StartJob(m, x)
		if !ok || !equalJob(j, impl.Job{Model: m, Act: x}) || !impl.JobOk(j) {
			t.Fatalf("StartJob(%v, %v) = %v, %t", m, x, j, ok)
		}
		for _, x := range append(badActs(j), badTensors()...) {
			if j, ok := impl.StartJob(m, x); ok || !isZeroJob(j) {
				t.Fatalf("StartJob(%v, %v) = %v, %t", m, x, j, ok)
			}
		}
	}
	for _, m := range badModels() {
		inputs := []impl.Tensor{{}, {Shape: m.In}, tensor(1, 1, 1, 5)}
		if impl.ShapeOk(m.In) {
			inputs = append(inputs, some(m.In))
		}
		for _, x := range inputs {
			if j, ok := impl.StartJob(m, x); ok || !isZeroJob(j) {
				t.Fatalf("StartJob(%v, %v) = %v, %t", m, x, j, ok)
			}
		}
	}
}

// draws gives numbers from 0 on below n, by a rule of their own.
func draws(seed uint32) func(n int) int {
	return func(n int) int {
		seed = seed*1664525 + 1013904223
		return int(seed>>8) % n
	}
}

// checkStopped holds that a job that was stopped gives what EvalModel gives, and that what is spent and left adds up.
func checkStopped(t *testing.T, j impl.Job, whole int, want impl.Tensor) {
	t.Helper()
	out, ok := impl.FinishJob(j)
	if !impl.JobOk(j) || !ok || !equal(out, want) {
		t.Fatalf("%v gives %v, %t, not %v", j, out, ok, want)
	}
	if left := total(impl.LeftOf(j)); j.Spent+left != whole {
		t.Fatalf("%v has spent %d, and %d are left of %d", j, j.Spent, left, whole)
	}
	if impl.JobDone(j) && !equal(j.Act, want) {
		t.Fatalf("%v is done, but not %v", j, want)
	}
}

// runChecked is RunFor, held to what it may spend.
func runChecked(t *testing.T, j impl.Job, cycles int) (impl.Job, int) {
	t.Helper()
	then, rest := impl.RunFor(j, cycles)
	spent := then.Spent - j.Spent
	if spent < 0 || rest < 0 || spent+rest != max(cycles, 0) {
		t.Fatalf("%v spent %d of %d, and %d are left", j, spent, cycles, rest)
	}
	if !impl.JobDone(then) && impl.NextCost(then) <= rest {
		t.Fatalf("%v stops at %v, though %d are left of %d", j, then, rest, cycles)
	}
	return then, rest
}

// Promise 6: jobs that are stopped by steps and drawn cycles, in any order.
func TestHoweverAJobIsStopped(t *testing.T) {
	next := draws(6)
	for _, m := range append(goodModels(), longModels()...) {
		x := some(m.In)
		want, ok := impl.EvalModel(m, x)
		j, started := impl.StartJob(m, x)
		if !ok || !started {
			t.Fatalf("%v is not right", m)
		}
		whole := impl.TotalCost(m)
		rest := 0
		for !impl.JobDone(j) {
			checkStopped(t, j, whole, want)
			switch next(5) {
			case 0:
				then, ok := impl.StepJob(j)
				if !ok || then.Spent-j.Spent != impl.NextCost(j) || then.At != j.At+1 {
					t.Fatalf("StepJob(%v) = %v, %t", j, then, ok)
				}
				j = then
			case 1:
				j, rest = runChecked(t, j, impl.NextCost(j)+next(3)-1)
			case 2:
				j, rest = runChecked(t, j, next(whole+3)-1)
			default:
				j, rest = runChecked(t, j, rest+next(9)-1)
			}
		}
		checkStopped(t, j, whole, want)
	}
}

// Promise 6: a model of six layers stopped at each choice of places, with just the cycles to come there and with one less than go further.
func TestJobsStoppedAtEachChoiceOfPlaces(t *testing.T) {
	list := []impl.Model{model(shape(8, 8, 8), relus(6)...)}
	for _, m := range goodModels()[:8] {
		if len(m.Layers) > 3 {
			list = append(list, m)
		}
	}
	for _, m := range list {
		n, x := len(m.Layers), some(m.In)
		want, _ := impl.EvalModel(m, x)
		costs := append(impl.CostsOf(m), 1000)
		for choice := range 1 << (n - 1) {
			j, _ := impl.StartJob(m, x)
			for place := range n {
				if place < n-1 && choice>>place&1 == 0 {
					continue
				}
				just := total(costs[j.At : place+1])
				then, rest := runChecked(t, j, just)
				more, over := runChecked(t, j, just+costs[place+1]-1)
				if then.At != place+1 || rest != 0 || over != costs[place+1]-1 || !equalJob(then, more) {
					t.Fatalf("%v comes to %v and %v, not to %d", j, then, more, place+1)
				}
				j = then
				checkStopped(t, j, impl.TotalCost(m), want)
			}
			if !impl.JobDone(j) {
				t.Fatalf("%v is not done", j)
			}
		}
	}
}

// What is left over may be given again: two runs are as one with both.
func TestCyclesThatAreLeftOver(t *testing.T) {
	for _, m := range append(goodModels()[:8], wide()) {
		j, _ := impl.StartJob(m, some(m.In))
		whole := impl.TotalCost(m)
		for first := 0; first <= whole+40; first += 1 + whole/40 {
			for second := 0; second <= whole+40; second += 1 + whole/20 {
				once, rest := runChecked(t, j, first+second)
				part, over := runChecked(t, j, first)
				twice, restTwice := runChecked(t, part, over+second)
				if !equalJob(once, twice) || rest != restTwice {
					t.Fatalf("%v with %d and %d: %v, %d, at once %v, %d", j, first, second, twice, restTwice, once, rest)
				}
			}
		}
	}
}

// roomyJob is j with room behind each of its lists.
func roomyJob(j impl.Job) impl.Job {
	j.Model, j.Act.Data = roomyModel(j.Model), roomy(j.Act.Data)
	return j
}

func overwriteJob(j impl.Job) {
	overwriteModel(j.Model)
	overwrite(j.Act.Data, 1004)
}

// notOkJobs are not JobOk, but have lists to share.
func notOkJobs() []impl.Job {
	var list []impl.Job
	for _, m := range goodModels()[:8] {
		j := impl.Job{Model: m, Act: some(m.In)}
		late, dear, other, long := j, j, j, j
		late.At, dear.Spent = len(m.Layers)+1, 1
		other.Model = swapped(m, 0, nowhere()[1])
		long.Act.Data = append(slices.Clone(j.Act.Data), 5)
		list = append(list, late, dear, other, long)
	}
	for _, m := range badModels()[:60] {
		list = append(list, impl.Job{Model: m, At: 3, Act: tensor(1, 2, 3, 4, 5), Spent: 6})
	}
	return list
}

func TestJobArgumentsAreLeft(t *testing.T) {
	jobs := notOkJobs()
	for _, m := range append(goodModels(), wide()) {
		jobs = append(jobs, jobsOf(m, some(m.In))...)
	}
	for _, before := range jobs {
		j := roomyJob(before)
		var answers []impl.Job
		for _, cycles := range cyclesAround(sumsOf(impl.LeftOf(before))) {
			got, _ := impl.RunFor(j, cycles)
			answers = append(answers, got)
		}
		stepped, _ := impl.StepJob(j)
		started, _ := impl.StartJob(j.Model, j.Act)
		out, _ := impl.FinishJob(j)
		overwrite(impl.LeftOf(j), 1000)
		overwrite(out.Data, 1000)
		for _, got := range append(answers, stepped, started) {
			overwriteJob(got)
		}
		impl.JobOk(j)
		impl.JobDone(j)
		impl.NextCost(j)
		impl.JobText(j)
		if !equalJob(j, before) || !modelHasRoom(j.Model) || !hasRoom(j.Act.Data) {
			t.Fatalf("%v shares memory with an answer, or was written into: %v", before, j)
		}
		checkJob(t, j)
	}
}

// checkOwnJob writes into each list of j, and into the room behind it, to see whether two share memory.
func checkOwnJob(t *testing.T, j impl.Job) {
	t.Helper()
	lists := [][]int{j.Act.Data}
	for _, l := range j.Model.Layers {
		lists = append(lists, l.Weights, l.Bias)
	}
	for i, own := range lists {
		overwrite(own, 1000+i)
	}
	for i, own := range lists {
		if !slices.Equal(own, same(len(own), 1000+i)) {
			t.Fatalf("list %d of %v was written into through another", i, j)
		}
	}
}

// No two lists of one job that is answered share memory, though those of the argument all do.
func TestListsOfAJobAreItsOwn(t *testing.T) {
	list := []int{1, 2, 3, 4}
	few := impl.Layer{Kind: 0, Out: 1, Mult: 1 << 30, Weights: list, Bias: list[:1]}
	many := impl.Layer{Kind: 0, Out: 4, Mult: 1 << 30, Weights: list, Bias: list}
	x := impl.Tensor{Shape: shape(1, 1, 4), Data: list}
	m := model(shape(1, 1, 4), few, many, flat(), few, many, relu(-128))
	costs := sumsOf(impl.CostsOf(m))
	if len(costs) != 7 {
		t.Fatalf("%v is not right", m)
	}
	first, ok := impl.StartJob(m, x)
	checkOwnJob(t, first)
	for _, at := range []int{0, 2, 3, 5, 6, 1, 7, -1} {
		// Behind the first layer there is one number only, and 7 and -1 are no places.
		j := impl.Job{Model: m, At: at, Act: x, Spent: costs[min(max(at, 0), 6)]}
		if want := at >= 0 && at != 1 && at != 7; impl.JobOk(j) != want {
			t.Fatalf("at %d: %t", at, impl.JobOk(j))
		}
		stepped, _ := impl.StepJob(j)
		checkOwnJob(t, stepped)
		for _, cycles := range []int{-1, 0, 1, 2, 1000} {
			got, _ := impl.RunFor(j, cycles)
			checkOwnJob(t, got)
		}
	}
	if !ok || !slices.Equal(list, []int{1, 2, 3, 4}) {
		t.Errorf("the lists of the argument were written into: %v, %t", list, ok)
	}
}

// What a job gives that is done, or whose layers only hand their numbers on, is new memory too.
func TestFinishJobGivesNewMemory(t *testing.T) {
	for _, m := range []impl.Model{model(shape(1, 1, 4), flat()), model(shape(1, 1, 4), relu(-128), flat()), model(shape(1, 1, 4), pool(2, 1, 1))} {
		for _, j := range jobsOf(m, tensor(1, 1, 4, 1, 2, 3, 4)) {
			before := cloneJob(j)
			out, ok := impl.FinishJob(j)
			overwrite(out.Data, 1000)
			if !ok || !equalJob(j, before) {
				t.Errorf("%v shares its answer with its Act", j)
			}
		}
	}
}
