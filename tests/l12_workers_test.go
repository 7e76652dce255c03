package tests

import (
	"fmt"
	"math"
	"math/big"
	"slices"
	"strings"
	"testing"

	"loop.example/g00778/impl"
)

// crews are numbers of workers, right and not.
var crews = []int{math.MinInt, math.MinInt + 1, -1 << 32, -6, -1, 0, 1, 2, 3, 4, 5, 6, 7, 8, 1<<32 + 1, math.MaxInt - 1, math.MaxInt}

func slot(job, worker, from, to int) impl.Slot {
	return impl.Slot{Job: job, Worker: worker, From: from, To: to}
}

func wantJobsOk(jobs []int) bool { return len(jobs) <= 40 && among(1, 1000, jobs...) }

func wantCrewOk(workers int) bool { return in(workers, 1, 6) }

// wantPlanIn is the plan of the jobs in that order, found by a look at all workers for each.
func wantPlanIn(order, jobs []int, workers int) []impl.Slot {
	free := make([]int, workers)
	var plan []impl.Slot
	for _, job := range order {
		first := slices.Index(free, slices.Min(free))
		plan = append(plan, slot(job, first, free[first], free[first]+jobs[job]))
		free[first] += jobs[job]
	}
	return plan
}

// wantOrder takes the greatest cost that is left, the first of several, until none is.
func wantOrder(jobs []int) []int {
	left := slices.Clone(jobs)
	var order []int
	for range jobs {
		job := slices.Index(left, slices.Max(left))
		order = append(order, job)
		left[job] = 0
	}
	return order
}

func wantPlans(jobs []int, workers int) ([]impl.Slot, []impl.Slot, bool) {
	if !wantJobsOk(jobs) || !wantCrewOk(workers) {
		return nil, nil, false
	}
	var inTurn []int
	for job := range jobs {
		inTurn = append(inTurn, job)
	}
	return wantPlanIn(inTurn, jobs, workers), wantPlanIn(wantOrder(jobs), jobs, workers), true
}

// lengthOf is To less From, however far apart they are.
func lengthOf(s impl.Slot) *big.Int { return new(big.Int).Sub(wideInt(s.To), wideInt(s.From)) }

// wantPlanOk counts the Slots of each job, and holds those of one worker against each other by their From.
func wantPlanOk(jobs []int, workers int, plan []impl.Slot) bool {
	if !wantJobsOk(jobs) || !wantCrewOk(workers) {
		return false
	}
	times := make([]int, len(jobs))
	for _, s := range plan {
		if !in(s.Job, 0, len(jobs)-1) || !in(s.Worker, 0, workers-1) || !in(s.From, 0, maxReal) || lengthOf(s).Cmp(wideInt(jobs[s.Job])) != 0 {
			return false
		}
		times[s.Job]++
	}
	for worker := range workers {
		own := slices.DeleteFunc(slices.Clone(plan), func(s impl.Slot) bool { return s.Worker != worker })
		slices.SortFunc(own, func(a, b impl.Slot) int { return a.From - b.From })
		for i := 1; i < len(own); i++ {
			if own[i].From < own[i-1].To {
				return false
			}
		}
	}
	return among(1, 1, times...)
}

func wantSpan(plan []impl.Slot) int {
	var ends []int
	for _, s := range plan {
		ends = append(ends, s.To)
	}
	if len(ends) == 0 {
		return 0
	}
	slices.Sort(ends)
	return ends[len(ends)-1]
}

// wantLower counts up from the greatest cost on until the workers have room for the sum.
func wantLower(jobs []int, workers int) int {
	if !wantJobsOk(jobs) || !wantCrewOk(workers) {
		return -1
	}
	bound := slices.Max(append([]int{0}, jobs...))
	for bound*workers < total(jobs) {
		bound++
	}
	return bound
}

func wantLoads(plan []impl.Slot, workers int) []int {
	var loads []int
	for worker := 0; wantCrewOk(workers) && worker < workers; worker++ {
		sum := new(big.Int)
		for _, s := range plan {
			if s.Worker == worker {
				sum.Add(sum, lengthOf(s))
			}
		}
		loads = append(loads, intOf(sum))
	}
	return loads
}

func wantIdle(plan []impl.Slot, workers int) int {
	if !wantCrewOk(workers) {
		return -1
	}
	return workers*wantSpan(plan) - total(wantLoads(plan, workers))
}

// wantBest keeps, job by job, all the loads to which the workers can have come.
func wantBest(jobs []int, workers int) int {
	if !wantJobsOk(jobs) || len(jobs) > 8 || !in(workers, 1, 3) {
		return -1
	}
	all := map[[3]int]bool{{}: true}
	for _, cost := range jobs {
		then := map[[3]int]bool{}
		for loads := range all {
			for worker := range workers {
				more := loads
				more[worker] += cost
				then[more] = true
			}
		}
		all = then
	}
	best := total(jobs)
	for loads := range all {
		best = min(best, max(loads[0], loads[1], loads[2]))
	}
	return best
}

func wantJobsAt(plan []impl.Slot, tick int) []int {
	var jobs []int
	for worker := range 6 {
		for _, s := range plan {
			if s.Worker == worker && s.From <= tick && s.To > tick {
				jobs = append(jobs, s.Job)
			}
		}
	}
	return jobs
}

func wantSlots(plan []impl.Slot) string {
	text := ""
	for _, s := range plan {
		text += fmt.Sprintf(" %d@%d:%d-%d", s.Job, s.Worker, s.From, s.To)
	}
	return strings.TrimPrefix(text, " ")
}

// ticksAround are those of the Slots, and what lies beside them.
func ticksAround(plan []impl.Slot) []int {
	list := around(0, maxReal)
	for _, s := range plan[:min(len(plan), 12)] {
		for _, tick := range []int{s.From, s.To} {
			list = append(list, max(tick, math.MinInt+1)-1, tick, min(tick, math.MaxInt-1)+1)
		}
	}
	return list
}

// checkSlots holds all that takes Slots alone against the chapter. Sums of them have to stay within an int.
func checkSlots(t *testing.T, plan []impl.Slot) {
	t.Helper()
	if got := impl.SpanOf(plan); got != wantSpan(plan) {
		t.Fatalf("SpanOf(%v) = %d, not %d", plan, got, wantSpan(plan))
	}
	if got := impl.SlotsText(plan); got != wantSlots(plan) {
		t.Fatalf("SlotsText(%v) = %q, not %q", plan, got, wantSlots(plan))
	}
	for _, workers := range crews {
		if got := impl.LoadsOf(plan, workers); !slices.Equal(got, wantLoads(plan, workers)) {
			t.Fatalf("LoadsOf(%v, %d) = %v, not %v", plan, workers, got, wantLoads(plan, workers))
		}
		if got := impl.IdleOf(plan, workers); got != wantIdle(plan, workers) {
			t.Fatalf("IdleOf(%v, %d) = %d, not %d", plan, workers, got, wantIdle(plan, workers))
		}
	}
	checkTicks(t, plan)
}

func checkTicks(t *testing.T, plan []impl.Slot) {
	t.Helper()
	for _, tick := range ticksAround(plan) {
		if got := impl.JobsAt(plan, tick); !slices.Equal(got, wantJobsAt(plan, tick)) {
			t.Fatalf("JobsAt(%v, %d) = %v, not %v", plan, tick, got, wantJobsAt(plan, tick))
		}
	}
}

// checkPlanOk holds PlanOk against the chapter.
func checkPlanOk(t *testing.T, jobs []int, workers int, plan []impl.Slot) bool {
	t.Helper()
	ok := wantPlanOk(jobs, workers, plan)
	if impl.PlanOk(jobs, workers, plan) != ok {
		t.Fatalf("PlanOk(%v, %d, %v) = %t", jobs, workers, plan, !ok)
	}
	return ok
}

// checkJobs holds all that takes jobs and workers against the chapter, and whether there is a plan.
func checkJobs(t *testing.T, jobs []int, workers int) bool {
	t.Helper()
	if got := impl.JobsOk(jobs); got != wantJobsOk(jobs) {
		t.Fatalf("JobsOk(%v) = %t", jobs, got)
	}
	list, longest, ok := wantPlans(jobs, workers)
	if plan, is := impl.ListPlan(jobs, workers); !slices.Equal(plan, list) || is != ok {
		t.Fatalf("ListPlan(%v, %d) = %v, %t, not %v, %t", jobs, workers, plan, is, list, ok)
	}
	if plan, is := impl.LongestFirst(jobs, workers); !slices.Equal(plan, longest) || is != ok {
		t.Fatalf("LongestFirst(%v, %d) = %v, %t, not %v, %t", jobs, workers, plan, is, longest, ok)
	}
	if got := impl.LowerBound(jobs, workers); got != wantLower(jobs, workers) {
		t.Fatalf("LowerBound(%v, %d) = %d, not %d", jobs, workers, got, wantLower(jobs, workers))
	}
	if got := impl.BestSpan(jobs, workers); got != wantBest(jobs, workers) {
		t.Fatalf("BestSpan(%v, %d) = %d, not %d", jobs, workers, got, wantBest(jobs, workers))
	}
	if checkPlanOk(t, jobs, workers, list) != ok || checkPlanOk(t, jobs, workers, longest) != ok {
		t.Fatalf("PlanOk(%v, %d, %v) = %t", jobs, workers, list, !ok)
	}
	return ok
}

// badJobs are no list of jobs: by how many there are, or by one that is no cost.
func badJobs() [][]int {
	list := [][]int{same(41, 1), same(41, 1000), same(42, 5), same(1000, 7), same(41, 0), same(40, 3, 3)}
	for _, cost := range []int{math.MinInt, math.MinInt + 1, -1 << 32, -1000, -1, 0, 1001, 1002, 1<<32 + 1, 1 << 62, math.MaxInt - 1, math.MaxInt} {
		list = append(list, []int{cost}, []int{cost, cost}, []int{cost, 5}, []int{5, cost}, []int{1, cost, 1000}, same(39, 7, cost), append([]int{cost}, same(39, 7)...), same(40, 7, cost))
	}
	return list
}

func TestLimitsOfWorkers(t *testing.T) {
	if impl.MaxWorkers != 6 || impl.MaxJobs != 40 {
		t.Error("the limits are others")
	}
}

func TestJobsOk(t *testing.T) {
	for _, jobs := range [][]int{nil, {}, {1}, {1000}, {1, 1000}, {3, 3, 2, 2, 2}, same(40, 1), same(40, 1000), same(39, 1, 1000)} {
		if !impl.JobsOk(jobs) {
			t.Errorf("JobsOk(%v) = false", jobs)
		}
	}
	for _, jobs := range badJobs() {
		if impl.JobsOk(jobs) {
			t.Errorf("JobsOk(%v) = true", jobs)
		}
	}
}

func TestJobsThatAreNotOk(t *testing.T) {
	for _, jobs := range badJobs() {
		for _, workers := range crews {
			if checkJobs(t, jobs, workers) {
				t.Fatalf("%v has a plan for %d", jobs, workers)
			}
		}
	}
}

func TestWorkersThatAreNotOk(t *testing.T) {
	for _, workers := range crews {
		for _, jobs := range [][]int{nil, {}, {1}, {1000}, {3, 3, 2, 2, 2}, same(8, 7), same(9, 7), same(40, 1000)} {
			if checkJobs(t, jobs, workers) != (workers >= 1 && workers <= 6) {
				t.Fatalf("%v has or lacks a plan for %d", jobs, workers)
			}
		}
	}
	for _, workers := range []int{0, 7, -1} {
		if list, ok := impl.ListPlan(nil, workers); len(list) != 0 || ok {
			t.Errorf("ListPlan of no jobs for %d = %v, %t", workers, list, ok)
		}
		if list, ok := impl.LongestFirst(nil, workers); len(list) != 0 || ok {
			t.Errorf("LongestFirst of no jobs for %d = %v, %t", workers, list, ok)
		}
		if impl.LowerBound(nil, workers) != -1 || impl.BestSpan(nil, workers) != -1 || impl.PlanOk(nil, workers, nil) {
			t.Errorf("no jobs are taken for %d workers", workers)
		}
	}
}

// planned are the texts of ListPlan and of LongestFirst, and the least span (-1 where it is not found).
type planned struct {
	jobs          []int
	workers       int
	list, longest string
	lower, best   int
}

func plannedJobs() []planned {
	return []planned{
		{nil, 1, "", "", 0, 0}, {[]int{}, 3, "", "", 0, 0}, {nil, 6, "", "", 0, -1},
		{[]int{1}, 1, "0@0:0-1", "0@0:0-1", 1, 1}, {[]int{1000}, 6, "0@0:0-1000", "0@0:0-1000", 1000, -1}, {[]int{7}, 3, "0@0:0-7", "0@0:0-7", 7, 7},
		{[]int{2, 9, 4}, 1, "0@0:0-2 1@0:2-11 2@0:11-15", "1@0:0-9 2@0:9-13 0@0:13-15", 15, 15},
		// More workers than jobs, and as many.
		{[]int{2, 9}, 3, "0@0:0-2 1@1:0-9", "1@0:0-9 0@1:0-2", 9, 9}, {[]int{4, 5, 6}, 3, "0@0:0-4 1@1:0-5 2@2:0-6", "2@0:0-6 1@1:0-5 0@2:0-4", 6, 6}, {[]int{5, 5}, 6, "0@0:0-5 1@1:0-5", "0@0:0-5 1@1:0-5", 5, -1},
		// Several workers that are free at the same tick: the least number goes ahead, also when it has come there last.
		{[]int{2, 2, 1, 1, 1}, 2, "0@0:0-2 1@1:0-2 2@0:2-3 3@1:2-3 4@0:3-4", "0@0:0-2 1@1:0-2 2@0:2-3 3@1:2-3 4@0:3-4", 4, 4},
		{[]int{3, 2, 1, 1, 1}, 2, "0@0:0-3 1@1:0-2 2@1:2-3 3@0:3-4 4@1:3-4", "0@0:0-3 1@1:0-2 2@1:2-3 3@0:3-4 4@1:3-4", 4, 4},
		{[]int{1, 2, 3, 2, 1, 1, 1}, 3, "0@0:0-1 1@1:0-2 2@2:0-3 3@0:1-3 4@1:2-3 5@0:3-4 6@1:3-4", "2@0:0-3 1@1:0-2 3@2:0-2 0@1:2-3 4@2:2-3 5@0:3-4 6@1:3-4", 4, 4},
		{[]int{4, 2, 4, 2, 1, 1, 1, 1}, 4, "0@0:0-4 1@1:0-2 2@2:0-4 3@3:0-2 4@1:2-3 5@3:2-3 6@1:3-4 7@3:3-4", "0@0:0-4 2@1:0-4 1@2:0-2 3@3:0-2 4@2:2-3 5@3:2-3 6@2:3-4 7@3:3-4", 4, -1},
		// Jobs of one cost: all of them, and some.
		{[]int{5, 5, 5, 5}, 2, "0@0:0-5 1@1:0-5 2@0:5-10 3@1:5-10", "0@0:0-5 1@1:0-5 2@0:5-10 3@1:5-10", 10, 10},
		{[]int{5, 5, 5, 5}, 3, "0@0:0-5 1@1:0-5 2@2:0-5 3@0:5-10", "0@0:0-5 1@1:0-5 2@2:0-5 3@0:5-10", 7, 10},
		{[]int{2, 3, 2, 3, 2}, 2, "0@0:0-2 1@1:0-3 2@0:2-4 3@1:3-6 4@0:4-6", "1@0:0-3 3@1:0-3 0@0:3-5 2@1:3-5 4@0:5-7", 6, 6},
		{[]int{1, 9, 1, 9, 5, 5, 1}, 1, "0@0:0-1 1@0:1-10 2@0:10-11 3@0:11-20 4@0:20-25 5@0:25-30 6@0:30-31", "1@0:0-9 3@0:9-18 4@0:18-23 5@0:23-28 0@0:28-29 2@0:29-30 6@0:30-31", 31, 31},
		// LongestFirst is not the best, and once as far from it as it can be.
		{[]int{3, 3, 2, 2, 2}, 2, "0@0:0-3 1@1:0-3 2@0:3-5 3@1:3-5 4@0:5-7", "0@0:0-3 1@1:0-3 2@0:3-5 3@1:3-5 4@0:5-7", 6, 6},
		{[]int{3, 5, 4, 3, 3, 5, 4}, 3, "0@0:0-3 1@1:0-5 2@2:0-4 3@0:3-6 4@2:4-7 5@1:5-10 6@0:6-10", "1@0:0-5 5@1:0-5 2@2:0-4 6@2:4-8 0@0:5-8 3@1:5-8 4@0:8-11", 9, 9},
		// The sum does not divide, and the greatest cost is the greater one.
		{[]int{1, 1, 1}, 2, "0@0:0-1 1@1:0-1 2@0:1-2", "0@0:0-1 1@1:0-1 2@0:1-2", 2, 2}, {[]int{1, 1, 1, 9}, 2, "0@0:0-1 1@1:0-1 2@0:1-2 3@1:1-10", "3@0:0-9 0@1:0-1 1@1:1-2 2@1:2-3", 9, 9},
		{[]int{1000, 1, 999, 1, 1000}, 2, "0@0:0-1000 1@1:0-1 2@1:1-1000 3@0:1000-1001 4@1:1000-2000", "0@0:0-1000 4@1:0-1000 2@0:1000-1999 1@1:1000-1001 3@1:1001-1002", 1501, 1999},
	}
}

func TestPlans(t *testing.T) {
	for _, c := range plannedJobs() {
		list, ok := impl.ListPlan(c.jobs, c.workers)
		longest, is := impl.LongestFirst(c.jobs, c.workers)
		if !ok || !is || impl.SlotsText(list) != c.list || impl.SlotsText(longest) != c.longest {
			t.Errorf("%v by %d: %v, %t and %v, %t, not %s and %s", c.jobs, c.workers, list, ok, longest, is, c.list, c.longest)
		}
		if impl.LowerBound(c.jobs, c.workers) != c.lower || impl.BestSpan(c.jobs, c.workers) != c.best {
			t.Errorf("%v by %d: LowerBound %d, BestSpan %d, not %d, %d", c.jobs, c.workers, impl.LowerBound(c.jobs, c.workers), impl.BestSpan(c.jobs, c.workers), c.lower, c.best)
		}
		if !impl.PlanOk(c.jobs, c.workers, list) || !impl.PlanOk(c.jobs, c.workers, longest) {
			t.Errorf("%v by %d: a plan is not PlanOk", c.jobs, c.workers)
		}
		checkJobs(t, c.jobs, c.workers)
		checkSlots(t, list)
		checkSlots(t, longest)
	}
}

func TestAsManyJobsAsMayBe(t *testing.T) {
	for workers := 1; workers <= 6; workers++ {
		for _, jobs := range [][]int{same(40, 1), same(40, 1000), same(39, 1, 1000), spread(40, 1, 1000), same(20, 3, same(20, 4)...)} {
			if !checkJobs(t, jobs, workers) {
				t.Fatalf("%v has no plan", jobs)
			}
			if checkJobs(t, append(jobs, 1), workers) {
				t.Fatalf("%d jobs have a plan", len(jobs)+1)
			}
		}
		list, _ := impl.ListPlan(same(40, 1000), workers)
		if impl.SpanOf(list) != (40+workers-1)/workers*1000 {
			t.Errorf("40 jobs by %d take %d", workers, impl.SpanOf(list))
		}
	}
}

// Each job of one cost: they come in turn, and the workers too.
func TestJobsOfOneCost(t *testing.T) {
	for workers := 1; workers <= 6; workers++ {
		for n := 0; n <= 40; n++ {
			for _, cost := range []int{1, 7, 1000} {
				var want []impl.Slot
				for job := range n {
					want = append(want, slot(job, job%workers, job/workers*cost, (job/workers+1)*cost))
				}
				list, ok := impl.ListPlan(same(n, cost), workers)
				longest, is := impl.LongestFirst(same(n, cost), workers)
				if !ok || !is || !slices.Equal(list, want) || !slices.Equal(longest, want) {
					t.Fatalf("%d jobs of %d by %d: %v, %t and %v, %t, not %v", n, cost, workers, list, ok, longest, is, want)
				}
			}
		}
	}
}

// turnedSlots are the Slots of a plan in other orders.
func turnedSlots(plan []impl.Slot) [][]impl.Slot {
	back := slices.Clone(plan)
	slices.Reverse(back)
	half := len(plan) / 2
	return [][]impl.Slot{back, slices.Concat(plan[half:], plan[:half]), slices.Concat(back[half:], back[:half])}
}

func TestPlanOkOfRightPlans(t *testing.T) {
	jobs := []int{4, 2, 3}
	for _, plan := range [][]impl.Slot{
		{slot(0, 0, 0, 4), slot(1, 1, 0, 2), slot(2, 1, 2, 5)}, {slot(0, 1, 0, 4), slot(1, 1, 4, 6), slot(2, 1, 6, 9)},
		// With gaps between, ahead, and as late as may be.
		{slot(0, 0, 7, 11), slot(1, 0, 0, 2), slot(2, 0, 3, 6)}, {slot(0, 1, maxReal, maxReal+4), slot(1, 0, maxReal, maxReal+2), slot(2, 0, maxReal-3, maxReal)},
		// At the same ticks, of two workers.
		{slot(0, 0, 5, 9), slot(1, 1, 6, 8), slot(2, 0, 9, 12)}, {slot(0, 0, 5, 9), slot(1, 0, 3, 5), slot(2, 1, 5, 8)},
	} {
		for _, other := range append(turnedSlots(plan), plan) {
			if !impl.PlanOk(jobs, 2, other) || !impl.PlanOk(jobs, 6, other) {
				t.Errorf("PlanOk(%v, 2, %v) = false", jobs, other)
			}
			checkPlanOk(t, jobs, 2, other)
			for _, workers := range crews {
				checkPlanOk(t, jobs, workers, other)
			}
		}
	}
	for workers := 1; workers <= 6; workers++ {
		if !impl.PlanOk(nil, workers, nil) || !impl.PlanOk([]int{}, workers, []impl.Slot{}) {
			t.Errorf("no Slots for no jobs and %d workers are not PlanOk", workers)
		}
		if !impl.PlanOk([]int{1}, workers, []impl.Slot{slot(0, workers-1, maxReal, maxReal+1)}) || impl.PlanOk([]int{1}, workers, []impl.Slot{slot(0, workers, 0, 1)}) {
			t.Errorf("the last one of %d workers is not told from the one behind it", workers)
		}
	}
}

func TestPlanOkOfOthers(t *testing.T) {
	jobs := []int{4, 2, 3}
	a, b, c := slot(0, 0, 0, 4), slot(1, 1, 0, 2), slot(2, 1, 2, 5)
	for name, plan := range map[string][]impl.Slot{
		"none": nil, "empty": {}, "a job is missing": {a, b}, "another is": {b, c}, "the middle one is": {a, c},
		"a job twice and one missing": {a, slot(0, 1, 0, 4), c}, "a job twice": {a, b, c, slot(1, 1, 9, 11)}, "the same Slot twice": {a, b, c, a}, "the same twice for another": {a, b, b},
		"no job": {a, b, slot(3, 1, 2, 5)}, "no job below": {a, b, slot(-1, 1, 2, 5)}, "no job beside all": {a, b, c, slot(3, 1, 9, 12)}, "no job below beside all": {slot(-1, 1, 9, 12), a, b, c}, "no job and no length beside all": {a, b, c, {}},
		"jobs at the ends": {a, b, slot(math.MinInt, 1, 2, 5)}, "and": {a, b, slot(math.MaxInt, 1, 2, 5)}, "or": {a, b, c, slot(math.MaxInt, 1, 9, 9)},
		"a Worker of -1": {slot(0, -1, 0, 4), b, c}, "as many as there are": {slot(0, 2, 0, 4), b, c}, "Workers at the ends": {slot(0, math.MinInt, 0, 4), b, c}, "Worker and": {slot(0, math.MaxInt, 0, 4), b, c},
		"From below 0": {slot(0, 0, -1, 3), b, c}, "From above MaxReal": {slot(0, 0, maxReal+1, maxReal+5), b, c}, "From at the least": {slot(0, 0, math.MinInt, math.MinInt+4), b, c}, "From at the greatest": {slot(0, 0, math.MaxInt, math.MinInt+3), b, c}, "From near the greatest": {slot(0, 0, math.MaxInt-4, math.MaxInt), b, c},
		"one too short": {slot(0, 0, 0, 3), b, c}, "one too long": {slot(0, 0, 0, 5), b, c}, "the last too short": {a, b, slot(2, 1, 2, 4)}, "the last too long": {a, b, slot(2, 1, 2, 6)}, "no length": {slot(0, 0, 0, 0), b, c}, "turned": {slot(0, 0, 4, 0), b, c},
		"To at the least": {slot(0, 0, 0, math.MinInt), b, c}, "To at the greatest": {slot(0, 0, 0, math.MaxInt), b, c}, "To at the least by far": {slot(0, 0, 5, math.MinInt+8), b, c}, "a whole int between": {slot(0, 0, math.MaxInt-3, math.MinInt), b, c},
		"lengths of others": {slot(0, 0, 0, 2), slot(1, 1, 0, 4), slot(2, 1, 4, 7)},
		"overlap by one":    {a, slot(1, 1, 0, 2), slot(2, 1, 1, 4)}, "overlap of the first": {a, b, slot(2, 0, 3, 6)}, "begun together": {a, slot(1, 1, 2, 4), slot(2, 1, 2, 5)}, "ended together": {a, slot(1, 1, 3, 5), slot(2, 1, 2, 5)}, "one within": {a, slot(1, 0, 1, 3), c}, "overlap far behind": {a, slot(1, 1, maxReal, maxReal+2), slot(2, 1, maxReal-2, maxReal+1)},
	} {
		for _, other := range append(turnedSlots(plan), plan) {
			if impl.PlanOk(jobs, 2, other) {
				t.Errorf("%s: PlanOk(%v, 2, %v) = true", name, jobs, other)
			}
			checkPlanOk(t, jobs, 2, other)
		}
	}
	right := []impl.Slot{a, b, c}
	if !impl.PlanOk(jobs, 2, right) || impl.PlanOk(jobs, 1, right) || impl.PlanOk(jobs[:2], 2, right) || impl.PlanOk(nil, 2, right) || impl.PlanOk([]int{4, 2, 3, 1}, 2, right) || impl.PlanOk([]int{4, 3, 2}, 2, right) {
		t.Error("the plan of other jobs or workers is taken")
	}
	for _, bad := range [][]int{{4, 2, 0}, {4, 2, -3}, {4, 2, 1001}, {4, 2, math.MinInt}, {4, 2, math.MaxInt}} {
		if impl.PlanOk(bad, 2, []impl.Slot{a, b, slot(2, 0, 4, 4+bad[2])}) {
			t.Errorf("PlanOk of the jobs %v is true", bad)
		}
	}
}

// Slots of no length, and no jobs: none of them stands for a job.
func TestPlanOkOfSlotsOfNoJobs(t *testing.T) {
	for _, plan := range [][]impl.Slot{{{}}, {slot(0, 0, 0, 1)}, {slot(-1, 0, 0, 1)}, {slot(math.MinInt, math.MinInt, math.MinInt, math.MinInt)}, {slot(math.MaxInt, math.MaxInt, math.MaxInt, math.MaxInt)}, make([]impl.Slot, 40), make([]impl.Slot, 41)} {
		for _, workers := range crews {
			if impl.PlanOk(nil, workers, plan) {
				t.Errorf("PlanOk of no jobs, %d workers and %v is true", workers, plan)
			}
		}
	}
	jobs := same(40, 1)
	plan, _ := impl.ListPlan(jobs, 6)
	if impl.PlanOk(append(jobs, 1), 6, append(slices.Clone(plan), slot(40, 5, 99, 100))) || impl.PlanOk(jobs, 6, append(slices.Clone(plan), slot(39, 5, 99, 100))) || !impl.PlanOk(jobs, 6, plan) {
		t.Error("PlanOk at the limit of jobs")
	}
}

// Two Slots of one worker and of two, at each distance.
func TestSlotsThatTouch(t *testing.T) {
	for _, first := range []int{1, 2, 5} {
		for _, second := range []int{1, 3, 5} {
			for from := 0; from <= 20; from++ {
				plan := []impl.Slot{slot(0, 1, 10, 10+first), slot(1, 1, from, from+second)}
				apart := from+second <= 10 || from >= 10+first
				back := []impl.Slot{plan[1], plan[0]}
				if impl.PlanOk([]int{first, second}, 3, plan) != apart || impl.PlanOk([]int{first, second}, 3, back) != apart {
					t.Errorf("PlanOk of %v is not %t", plan, apart)
				}
				plan[1].Worker = 2
				if !impl.PlanOk([]int{first, second}, 3, plan) {
					t.Errorf("PlanOk of %v = false", plan)
				}
			}
		}
	}
}

func TestSpanOf(t *testing.T) {
	for _, c := range []struct {
		plan []impl.Slot
		want int
	}{
		{nil, 0}, {[]impl.Slot{}, 0}, {[]impl.Slot{{}}, 0}, {[]impl.Slot{slot(0, 0, 0, 4)}, 4}, {[]impl.Slot{slot(0, 0, 3, 7), slot(1, 1, 0, 4)}, 7}, {[]impl.Slot{slot(0, 0, 0, 4), slot(1, 1, 3, 7)}, 7}, {[]impl.Slot{slot(0, 0, 0, 4), slot(1, 1, 3, 9), slot(2, 2, 0, 8)}, 9},
		// A To below 0, below From, and of a Worker outside.
		{[]impl.Slot{slot(0, 0, -9, -5)}, -5}, {[]impl.Slot{slot(0, 0, -9, -5), slot(1, 0, -4, -3), slot(2, 0, -8, -6)}, -3}, {[]impl.Slot{slot(0, 0, 0, -1)}, -1}, {[]impl.Slot{slot(0, 0, 8, 5)}, 5}, {[]impl.Slot{slot(0, 0, 8, 5), slot(0, 0, 7, 4)}, 5}, {[]impl.Slot{slot(0, 0, -9, -5), {}}, 0},
		{[]impl.Slot{slot(0, -1, 0, 8), slot(0, 0, 0, 5)}, 8}, {[]impl.Slot{slot(0, 6, 0, 8), slot(0, 0, 0, 5)}, 8}, {[]impl.Slot{slot(-5, 99, 0, 8)}, 8},
		{[]impl.Slot{slot(0, 0, 0, math.MinInt)}, math.MinInt}, {[]impl.Slot{slot(0, 0, 0, math.MinInt), slot(0, 0, 0, math.MinInt+1)}, math.MinInt + 1}, {[]impl.Slot{slot(0, 0, 0, math.MinInt), slot(0, 0, 0, math.MaxInt)}, math.MaxInt}, {[]impl.Slot{slot(0, 0, 0, math.MaxInt), slot(0, 0, 0, math.MinInt)}, math.MaxInt}, {[]impl.Slot{slot(0, 0, 0, math.MaxInt), slot(0, 0, 0, -1)}, math.MaxInt},
	} {
		if got := impl.SpanOf(c.plan); got != c.want {
			t.Errorf("SpanOf(%v) = %d, not %d", c.plan, got, c.want)
		}
	}
	many := make([]impl.Slot, 5000)
	many[4321].To = 3
	if impl.SpanOf(many) != 3 {
		t.Error("SpanOf of many Slots")
	}
}

func TestLowerBound(t *testing.T) {
	for _, c := range []struct {
		want, workers int
		jobs          []int
	}{
		{0, 1, nil}, {0, 6, []int{}}, {1, 1, []int{1}}, {1, 6, []int{1}}, {1000, 6, []int{1000}}, {1000, 1, []int{1000}},
		// The sum divides, and leaves 1 or one less than the workers.
		{12, 1, []int{3, 4, 5}}, {6, 2, []int{3, 4, 5}}, {5, 3, []int{3, 4, 5}}, {4, 3, []int{4, 4, 4}}, {5, 3, []int{4, 4, 4, 1}}, {5, 3, []int{4, 4, 4, 2}}, {5, 3, []int{4, 4, 4, 3}}, {6, 3, []int{4, 4, 4, 4}}, {7, 2, []int{3, 3, 3, 4}}, {7, 2, []int{3, 3, 3, 5}}, {8, 2, []int{3, 3, 3, 6}}, {3, 6, same(15, 1)}, {3, 6, same(18, 1)}, {4, 6, same(19, 1)},
		// The greatest cost is the greater one, they are alike, and it is one less.
		{9, 2, []int{9, 1, 1}}, {9, 2, []int{1, 9, 1}}, {9, 2, []int{1, 1, 9}}, {9, 2, []int{9, 8, 1}}, {9, 2, []int{9, 8}}, {10, 2, []int{9, 8, 2}}, {10, 2, []int{9, 9, 1}}, {1000, 6, []int{5, 1000, 999, 1000}},
		{40000, 1, same(40, 1000)}, {6667, 6, same(40, 1000)}, {1000, 5, same(5, 1000)}, {1200, 5, same(6, 1000)},
		{-1, 0, []int{1}}, {-1, 7, []int{1}}, {-1, -1, nil}, {-1, math.MinInt, []int{1}}, {-1, math.MaxInt, []int{1}}, {-1, 2, []int{0}}, {-1, 2, []int{1001}}, {-1, 2, []int{3, -1}}, {-1, 2, same(41, 1)},
	} {
		if got := impl.LowerBound(c.jobs, c.workers); got != c.want {
			t.Errorf("LowerBound(%v, %d) = %d, not %d", c.jobs, c.workers, got, c.want)
		}
	}
}

func TestLoadsAndIdle(t *testing.T) {
	three := []impl.Slot{slot(0, 0, 0, 4), slot(1, 2, 0, 2), slot(2, 0, 6, 9)}
	for _, c := range []struct {
		plan    []impl.Slot
		workers int
		loads   []int
		idle    int
	}{
		{nil, 1, []int{0}, 0}, {nil, 6, same(6, 0), 0}, {[]impl.Slot{}, 3, same(3, 0), 0}, {nil, 0, nil, -1}, {nil, 7, nil, -1},
		{three, 1, []int{7}, 2}, {three, 2, []int{7, 0}, 11}, {three, 3, []int{7, 0, 2}, 18}, {three, 4, []int{7, 0, 2, 0}, 27}, {three, 6, []int{7, 0, 2, 0, 0, 0}, 45}, {three, 0, nil, -1}, {three, 7, nil, -1}, {three, -1, nil, -1}, {three, math.MinInt, nil, -1}, {three, math.MaxInt, nil, -1},
		// Workers that are none of these.
		{[]impl.Slot{slot(0, -1, 0, 5), slot(0, 1, 0, 3), slot(0, 2, 0, 9)}, 2, []int{0, 3}, 15}, {[]impl.Slot{slot(0, 6, 0, 5)}, 6, same(6, 0), 30}, {[]impl.Slot{slot(0, math.MinInt, 0, 5), slot(0, math.MaxInt, 0, 6)}, 1, []int{0}, 6},
		// To below From, below 0, and Slots that overlap or are the same.
		{[]impl.Slot{slot(0, 0, 9, 5)}, 1, []int{-4}, 9}, {[]impl.Slot{slot(0, 0, 9, 5), slot(0, 0, 0, 7)}, 2, []int{3, 0}, 11}, {[]impl.Slot{slot(0, 1, -9, -5)}, 2, []int{0, 4}, -14}, {[]impl.Slot{slot(0, 0, 0, -5)}, 1, []int{-5}, 0}, {[]impl.Slot{slot(0, 0, 0, 5), slot(0, 0, 3, 5), slot(0, 0, 0, 5)}, 1, []int{12}, -7}, {[]impl.Slot{{}, {}}, 2, []int{0, 0}, 0},
		{[]impl.Slot{slot(0, 0, 0, math.MaxInt)}, 1, []int{math.MaxInt}, 0}, {[]impl.Slot{slot(0, 0, 0, math.MinInt)}, 1, []int{math.MinInt}, 0}, {[]impl.Slot{slot(0, 0, math.MinInt, -1)}, 1, []int{math.MaxInt}, math.MinInt}, {[]impl.Slot{slot(0, 0, math.MaxInt, -1)}, 1, []int{math.MinInt}, math.MaxInt},
	} {
		if got := impl.LoadsOf(c.plan, c.workers); !slices.Equal(got, c.loads) {
			t.Errorf("LoadsOf(%v, %d) = %v, not %v", c.plan, c.workers, got, c.loads)
		}
		if got := impl.IdleOf(c.plan, c.workers); got != c.idle {
			t.Errorf("IdleOf(%v, %d) = %d, not %d", c.plan, c.workers, got, c.idle)
		}
	}
	if impl.LoadsOf(make([]impl.Slot, 5000), 1)[0] != 0 || impl.IdleOf(slices.Repeat(three, 1000), 1) != 9-7000 {
		t.Error("LoadsOf or IdleOf of many Slots")
	}
}

func TestBestSpan(t *testing.T) {
	for _, c := range []struct {
		want, workers int
		jobs          []int
	}{
		{0, 1, nil}, {0, 2, nil}, {0, 3, []int{}}, {7, 1, []int{7}}, {7, 2, []int{7}}, {7, 3, []int{7}}, {15, 1, []int{2, 9, 4}}, {9, 2, []int{2, 9, 4}}, {9, 3, []int{2, 9, 4}}, {1000, 3, []int{1000, 1000, 1000}},
		// With and without room that is left over.
		{6, 2, []int{3, 3, 2, 2, 2}}, {6, 2, []int{2, 2, 3, 2, 3}}, {10, 2, []int{5, 5, 5}}, {9, 3, []int{5, 5, 4, 4, 3, 3, 3}}, {9, 3, []int{3, 4, 5, 3, 4, 5, 3}}, {12, 2, []int{7, 6, 5, 5}}, {11, 2, []int{8, 7, 4, 3}},
		// 8 jobs and 9; 0, 1, 3 and 4 workers.
		{8, 1, same(8, 1)}, {4, 2, same(8, 1)}, {3, 3, same(8, 1)}, {8000, 1, same(8, 1000)}, {4000, 2, same(8, 1000)}, {3000, 3, same(8, 1000)}, {112, 3, []int{101, 53, 47, 31, 29, 23, 19, 17}}, {160, 2, []int{101, 53, 47, 31, 29, 23, 19, 17}},
		{-1, 1, same(9, 1)}, {-1, 2, same(9, 1)}, {-1, 3, same(9, 1)}, {-1, 2, same(40, 1)}, {-1, 0, same(8, 1)}, {-1, 4, same(8, 1)}, {-1, 6, []int{1}}, {-1, 0, nil}, {-1, 4, nil}, {-1, -1, []int{1}}, {-1, math.MinInt, []int{1}}, {-1, math.MaxInt, []int{1}},
		{-1, 2, []int{0}}, {-1, 2, []int{1001}}, {-1, 2, []int{5, -1}}, {-1, 2, []int{math.MaxInt, math.MaxInt}}, {-1, 2, []int{math.MinInt}},
	} {
		if got := impl.BestSpan(c.jobs, c.workers); got != c.want {
			t.Errorf("BestSpan(%v, %d) = %d, not %d", c.jobs, c.workers, got, c.want)
		}
	}
}

// orders calls f with each order of the places from n on, the ones ahead as they are.
func orders(places []int, n int, f func(places []int)) {
	if n == len(places) {
		f(places)
		return
	}
	for i := n; i < len(places); i++ {
		places[n], places[i] = places[i], places[n]
		orders(places, n+1, f)
		places[n], places[i] = places[i], places[n]
	}
}

// The least span of a plan is that of a list plan in some order of the jobs.
func TestBestSpanIsThatOfSomeOrder(t *testing.T) {
	next := draws(121)
	for range 150 {
		jobs := drawJobs(next, 6)
		workers := 1 + next(3)
		best := math.MaxInt
		orders(slices.Clone(jobs), 0, func(jobs []int) {
			plan, _ := impl.ListPlan(jobs, workers)
			best = min(best, impl.SpanOf(plan))
		})
		if got := impl.BestSpan(jobs, workers); got != best {
			t.Fatalf("BestSpan(%v, %d) = %d, not %d", jobs, workers, got, best)
		}
	}
}

func TestJobsAt(t *testing.T) {
	plan := []impl.Slot{slot(5, 2, 0, 4), slot(1, 0, 3, 7), slot(9, 2, 2, 5), slot(4, 0, 3, 4), slot(0, 5, 4, 6), slot(7, -1, 0, 9), slot(8, 6, 0, 9), slot(3, 2, 2, 3), slot(-2, 1, 3, 4)}
	for tick, want := range map[int][]int{
		-1: nil, 0: {5}, 1: {5}, 2: {5, 9, 3}, 3: {1, 4, -2, 5, 9}, 4: {1, 9, 0}, 5: {1, 0}, 6: {1}, 7: nil, 8: nil, 9: nil, math.MinInt: nil, math.MaxInt: nil,
	} {
		if got := impl.JobsAt(plan, tick); !slices.Equal(got, want) {
			t.Errorf("JobsAt(%v, %d) = %v, not %v", plan, tick, got, want)
		}
	}
	for _, c := range []struct {
		s    impl.Slot
		tick int
		is   bool
	}{
		{slot(0, 0, 3, 7), 2, false}, {slot(0, 0, 3, 7), 3, true}, {slot(0, 0, 3, 7), 6, true}, {slot(0, 0, 3, 7), 7, false}, {slot(0, 0, 3, 4), 3, true}, {slot(0, 0, 3, 4), 4, false}, {slot(0, 0, 3, 3), 3, false}, {slot(0, 0, 3, 3), 2, false}, {slot(0, 0, 7, 3), 5, false}, {slot(0, 0, 7, 3), 7, false}, {slot(0, 0, 7, 3), 3, false}, {impl.Slot{}, 0, false},
		{slot(0, 0, -9, -5), -9, true}, {slot(0, 0, -9, -5), -6, true}, {slot(0, 0, -9, -5), -5, false}, {slot(0, 0, -9, -5), -10, false}, {slot(0, 0, -9, 5), 0, true},
		{slot(0, 5, 0, 1), 0, true}, {slot(0, 6, 0, 1), 0, false}, {slot(0, -1, 0, 1), 0, false}, {slot(0, math.MinInt, 0, 1), 0, false}, {slot(0, math.MaxInt, 0, 1), 0, false},
		{slot(math.MinInt, 0, 0, 1), 0, true}, {slot(math.MaxInt, 5, 0, 1), 0, true}, {slot(-1, 1, 0, 1), 0, true}, {slot(99, 1, 0, 1), 0, true},
		{slot(0, 0, math.MinInt, math.MaxInt), math.MinInt, true}, {slot(0, 0, math.MinInt, math.MaxInt), math.MaxInt - 1, true}, {slot(0, 0, math.MinInt, math.MaxInt), math.MaxInt, false}, {slot(0, 0, math.MinInt+1, math.MaxInt), math.MinInt, false}, {slot(0, 0, math.MaxInt, math.MaxInt), math.MaxInt, false}, {slot(0, 0, math.MaxInt, math.MinInt), math.MinInt, false},
	} {
		got := impl.JobsAt([]impl.Slot{c.s}, c.tick)
		if len(got) > 1 || len(got) == 1 != c.is || c.is && got[0] != c.s.Job {
			t.Errorf("JobsAt(%v, %d) = %v", c.s, c.tick, got)
		}
	}
	if len(impl.JobsAt(nil, 0)) != 0 || len(impl.JobsAt([]impl.Slot{}, math.MinInt)) != 0 {
		t.Error("there are jobs where there are no Slots")
	}
}

// Slots of one worker come by their place in the plan, however many there are.
func TestJobsAtOfManySlots(t *testing.T) {
	var plan []impl.Slot
	for i := range 3000 {
		plan = append(plan, slot(i*7%3000, i*5%8-1, 0, 1))
	}
	if got := impl.JobsAt(plan, 0); len(got) != 3000/8*6 || !slices.Equal(got, wantJobsAt(plan, 0)) {
		t.Errorf("JobsAt of many Slots = %v", got)
	}
	next := draws(127)
	for range 500 {
		for i := range plan[:60] {
			plan[i].Worker = []int{math.MinInt, math.MaxInt, -1, 6, 0, 1, 2, 3, 4, 5, math.MinInt + 3, math.MaxInt - 3}[next(12)]
		}
		if got := impl.JobsAt(plan[:60], 0); !slices.Equal(got, wantJobsAt(plan[:60], 0)) {
			t.Fatalf("JobsAt(%v, 0) = %v, not %v", plan[:60], got, wantJobsAt(plan[:60], 0))
		}
	}
}

func TestSlotsText(t *testing.T) {
	for _, c := range []struct {
		plan []impl.Slot
		want string
	}{
		{nil, ""}, {[]impl.Slot{}, ""}, {[]impl.Slot{{}}, "0@0:0-0"}, {[]impl.Slot{slot(1, 2, 3, 4)}, "1@2:3-4"}, {[]impl.Slot{slot(12, 5, 100, 1100)}, "12@5:100-1100"}, {[]impl.Slot{slot(1, 2, 3, 4), slot(0, 0, 0, 9)}, "1@2:3-4 0@0:0-9"}, {[]impl.Slot{slot(3, 0, 5, 6), slot(3, 0, 5, 6), slot(1, 1, 0, 2)}, "3@0:5-6 3@0:5-6 1@1:0-2"},
		{[]impl.Slot{slot(-1, -2, -3, -4)}, "-1@-2:-3--4"}, {[]impl.Slot{slot(0, -1, 7, 3), slot(-5, 9, -10, 0)}, "0@-1:7-3 -5@9:-10-0"},
		{[]impl.Slot{slot(math.MinInt, math.MaxInt, math.MinInt, math.MaxInt)}, "-9223372036854775808@9223372036854775807:-9223372036854775808-9223372036854775807"},
	} {
		if got := impl.SlotsText(c.plan); got != c.want {
			t.Errorf("SlotsText(%v) = %q, not %q", c.plan, got, c.want)
		}
	}
	if got := impl.SlotsText(make([]impl.Slot, 5000)); got != strings.TrimSuffix(strings.Repeat("0@0:0-0 ", 5000), " ") {
		t.Error("SlotsText of many Slots")
	}
}

// drawJobs is a list of 0 to most jobs: of few costs or many, with some much greater ones or without.
func drawJobs(next func(n int) int, most int) []int {
	highest := []int{1, 2, 3, 6, 20, 1000}[next(6)]
	rare := []int{0, 2, 9}[next(3)]
	var jobs []int
	for range next(most + 1) {
		cost := 1 + next(highest)
		if rare > 0 && next(rare) == 0 {
			cost = min(cost*(2+next(9)), 1000)
		}
		jobs = append(jobs, cost)
	}
	return jobs
}

// atMost tells whether a divided by b is at most c divided by d (b and d above 0).
func atMost(a, b, c, d int) bool {
	return big.NewRat(int64(a), int64(b)).Cmp(big.NewRat(int64(c), int64(d))) <= 0
}

// checkPromise15 holds the plans of jobs against the promise, and tells the spans of ListPlan and of LongestFirst.
func checkPromise15(t *testing.T, jobs []int, workers int) (int, int) {
	t.Helper()
	list, ok := impl.ListPlan(jobs, workers)
	longest, is := impl.LongestFirst(jobs, workers)
	if !ok || !is || !impl.PlanOk(jobs, workers, list) || !impl.PlanOk(jobs, workers, longest) || !wantPlanOk(jobs, workers, list) || !wantPlanOk(jobs, workers, longest) {
		t.Fatalf("%v by %d: %v, %t and %v, %t are not both PlanOk", jobs, workers, list, ok, longest, is)
	}
	greatest := slices.Max(append([]int{0}, jobs...))
	for _, plan := range [][]impl.Slot{list, longest} {
		span := impl.SpanOf(plan)
		if !atMost(span, 1, total(jobs)+greatest*workers, workers) || span < impl.LowerBound(jobs, workers) {
			t.Fatalf("%v by %d: %v takes %d", jobs, workers, plan, span)
		}
		if idle := impl.IdleOf(plan, workers); idle != workers*span-total(jobs) || total(impl.LoadsOf(plan, workers)) != total(jobs) || slices.Max(impl.LoadsOf(plan, workers)) != span {
			t.Fatalf("%v by %d: IdleOf(%v) = %d", jobs, workers, plan, idle)
		}
		if best := impl.BestSpan(jobs, workers); best != -1 && (span < best || best < impl.LowerBound(jobs, workers)) {
			t.Fatalf("%v by %d: BestSpan is %d, but %v", jobs, workers, best, plan)
		}
	}
	if best := impl.BestSpan(jobs, workers); best != -1 && !atMost(impl.SpanOf(longest), 1, 4*best, 3) {
		t.Fatalf("%v by %d: BestSpan is %d, but LongestFirst takes %d", jobs, workers, best, impl.SpanOf(longest))
	}
	return impl.SpanOf(list), impl.SpanOf(longest)
}

// Promise 15 for drawn jobs and workers.
func TestPlansAreShortEnough(t *testing.T) {
	next := draws(122)
	found, worse, better := 0, 0, 0
	for i := range 12000 {
		jobs, workers := drawJobs(next, []int{8, 8, 40}[i%3]), 1+next(6)
		if i%3 == 0 {
			workers = 1 + next(3)
		}
		list, longest := checkPromise15(t, jobs, workers)
		if best := impl.BestSpan(jobs, workers); best != -1 {
			found++
			if longest > best {
				worse++
			}
		}
		if longest < list {
			better++
		}
		if i%4 == 0 {
			checkJobs(t, jobs, workers)
		}
	}
	if found < 4000 || worse < 100 || better < 2000 {
		t.Errorf("BestSpan is found %d times, LongestFirst is worse %d times, and better than ListPlan %d times", found, worse, better)
	}
}

// Promise 15 where it is nearly all used up: a great job behind small ones, and jobs of two to three to the workers.
func TestPlansThatAreAsLongAsTheyMayBe(t *testing.T) {
	for workers := 1; workers <= 6; workers++ {
		jobs := same(workers*(workers-1), 1, workers)
		list, longest := checkPromise15(t, jobs, workers)
		if list != 2*workers-1 || longest != workers {
			t.Errorf("%v by %d: %d and %d", jobs, workers, list, longest)
		}
	}
	for workers := 2; workers <= 6; workers++ {
		var jobs []int
		for cost := 2*workers - 1; cost >= workers; cost-- {
			jobs = append(jobs, cost, cost)
		}
		jobs = append(jobs, workers)
		if _, longest := checkPromise15(t, jobs, workers); longest != 4*workers-1 {
			t.Errorf("%v by %d: %d", jobs, workers, longest)
		}
	}
}

// Promise 15 for each list of up to 5 jobs with costs of up to 4.
func TestEachShortList(t *testing.T) {
	lists := [][]int{nil}
	for place := 0; place < len(lists); place++ {
		jobs := lists[place]
		for workers := 1; workers <= 4; workers++ {
			checkPromise15(t, jobs, workers)
			checkJobs(t, jobs, workers)
		}
		for cost := 1; len(jobs) < 5 && cost <= 4; cost++ {
			lists = append(lists, append(slices.Clone(jobs), cost))
		}
	}
}

// drawPlan is a right plan with gaps, in any order.
func drawPlan(next func(n int) int, jobs []int, workers int) []impl.Slot {
	free := make([]int, workers)
	if next(4) == 0 {
		free[0] = maxReal - 1000*next(50)
	}
	var plan []impl.Slot
	for job, cost := range jobs {
		worker := next(workers)
		from := free[worker] + next(3)*next(4)
		free[worker] = from + cost
		at := next(len(plan) + 1)
		plan = slices.Insert(plan, at, slot(job, worker, from, from+cost))
	}
	return plan
}

// spoil changes one number of one Slot, or how many Slots there are.
func spoil(next func(n int) int, plan []impl.Slot) []impl.Slot {
	plan = slices.Clone(plan)
	at := next(len(plan))
	s := &plan[at]
	off := []int{-1, 1, -2, 3, 1 << 32}[next(5)]
	switch next(8) {
	case 0:
		s.Job += off
	case 1:
		s.Worker += off
	case 2:
		s.From += off
	case 3:
		s.To += off
	case 4:
		s.From, s.To = s.From+off, s.To+off
	case 5:
		return slices.Delete(plan, at, at+1)
	case 6:
		return append(plan, *s)
	case 7:
		*[]*int{&s.Job, &s.Worker, &s.From, &s.To}[next(4)] = []int{math.MinInt, math.MaxInt, maxReal, maxReal + 1}[next(4)]
	}
	return plan
}

func TestDrawnPlansOfWorkers(t *testing.T) {
	next := draws(123)
	ok, not := 0, 0
	for range 8000 {
		jobs, workers := drawJobs(next, 12), 1+next(6)
		plan := drawPlan(next, jobs, workers)
		if !slices.ContainsFunc(plan, func(s impl.Slot) bool { return s.From > maxReal }) && !impl.PlanOk(jobs, workers, plan) {
			t.Fatalf("PlanOk(%v, %d, %v) = false", jobs, workers, plan)
		}
		checkPlanOk(t, jobs, workers, plan)
		if len(plan) == 0 {
			continue
		}
		if checkPlanOk(t, jobs, workers, spoil(next, plan)) {
			ok++
		} else {
			not++
		}
		jobs[next(len(jobs))] += []int{-1, 1, 2000, -2000}[next(4)]
		if checkPlanOk(t, jobs, workers, plan) {
			t.Fatalf("PlanOk(%v, %d, %v) = true", jobs, workers, plan)
		}
	}
	if ok < 200 || not < 4000 {
		t.Errorf("%d of the spoiled plans are right and %d not", ok, not)
	}
}

// drawSlots are Slots of any numbers, so far from the ends of an int that their sums stay within it.
func drawSlots(next func(n int) int) []impl.Slot {
	far := []int{3, 10, 1 << 20, 1 << 50}[next(4)]
	number := func() int { return (next(7) - 3) * (far / 3) }
	if far < 100 {
		number = func() int { return next(2*far+1) - far }
	}
	var plan []impl.Slot
	for range next(14) {
		plan = append(plan, slot(number(), next(10)-2, number(), number()))
	}
	return plan
}

func TestDrawnSlots(t *testing.T) {
	next := draws(124)
	for range 3000 {
		checkSlots(t, drawSlots(next))
	}
	for _, worker := range []int{math.MinInt, -1, 0, 5, 6, math.MaxInt} {
		for _, from := range around(0, maxReal) {
			for _, to := range around(0, maxReal) {
				plan := []impl.Slot{slot(to, worker, from, to), slot(from, 0, to, from), slot(worker, 5, from, from)}
				checkTicks(t, plan)
				if impl.SpanOf(plan) != max(from, to) || impl.SlotsText(plan) != wantSlots(plan) {
					t.Fatalf("SpanOf(%v) = %d", plan, impl.SpanOf(plan))
				}
			}
		}
	}
}

// spareSlots stand in the room behind the Slots of roomySlots.
var spareSlots = []impl.Slot{{Job: 77, Worker: 78, From: 79, To: 80}, {Job: 81, Worker: 82, From: 83, To: 84}}

// roomySlots is plan with two Slots behind its end.
func roomySlots(plan []impl.Slot) []impl.Slot {
	return append(slices.Clone(plan), spareSlots...)[:len(plan)]
}

func slotsHaveRoom(plan []impl.Slot) bool {
	return slices.Equal(plan[:len(plan)+2][len(plan):], spareSlots)
}

func overwriteSlots(plan []impl.Slot) {
	plan = plan[:cap(plan)]
	for i := range plan {
		plan[i] = slot(91, 92, 93, 94)
	}
}

func TestArgumentsOfPlansAreLeft(t *testing.T) {
	next := draws(125)
	lists := badJobs()
	for range 300 {
		lists = append(lists, drawJobs(next, 40), drawJobs(next, 8))
	}
	for i, before := range lists {
		jobs := roomy(before)
		for _, workers := range []int{i%6 + 1, 3, 0} {
			list, _ := impl.ListPlan(jobs, workers)
			longest, _ := impl.LongestFirst(jobs, workers)
			impl.JobsOk(jobs)
			impl.LowerBound(jobs, workers)
			impl.BestSpan(jobs, workers)
			impl.PlanOk(jobs, workers, list)
			overwriteSlots(list)
			overwriteSlots(longest)
		}
		if !slices.Equal(jobs, before) || !hasRoom(jobs) {
			t.Fatalf("%v was written into: %v", before, jobs)
		}
	}
	for i := range 600 {
		jobs, workers := drawJobs(next, 12), 1+i%6
		before := drawPlan(next, jobs, workers)
		if i%2 == 0 {
			before = drawSlots(next)
		}
		plan := roomySlots(before)
		for _, n := range []int{workers, 3, 0} {
			impl.PlanOk(jobs, n, plan)
			impl.SpanOf(plan)
			impl.IdleOf(plan, n)
			impl.SlotsText(plan)
			overwrite(impl.LoadsOf(plan, n), 1000)
			overwrite(impl.JobsAt(plan, n), 1000)
		}
		if !slices.Equal(plan, before) || !slotsHaveRoom(plan) {
			t.Fatalf("%v was written into: %v", before, plan)
		}
	}
}

// The same call gives the same answer each time, whatever was written into the one before.
func TestAnswersOfPlansAreNew(t *testing.T) {
	next := draws(126)
	for i := range 300 {
		jobs, workers := drawJobs(next, []int{8, 40}[i%2]), 1+next(6)
		plan := drawSlots(next)
		for range 3 {
			if !checkJobs(t, jobs, workers) {
				t.Fatalf("%v has no plan for %d", jobs, workers)
			}
			checkSlots(t, plan)
			list, _ := impl.ListPlan(jobs, workers)
			longest, _ := impl.LongestFirst(jobs, workers)
			overwriteSlots(list)
			if _, want, _ := wantPlans(jobs, workers); !slices.Equal(longest, want) {
				t.Fatalf("LongestFirst(%v, %d) shares memory with ListPlan", jobs, workers)
			}
			overwriteSlots(longest)
			overwrite(impl.LoadsOf(plan, workers), 1000)
			overwrite(impl.JobsAt(plan, next(9)), 1000)
		}
	}
}
