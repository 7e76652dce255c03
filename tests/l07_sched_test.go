package tests

import (
	"math"
	"slices"
	"testing"

	"loop.example/g00778/impl"
)

func task(id, due, born int, costs ...int) impl.Task {
	return impl.Task{Id: id, Costs: costs, Due: due, Born: born}
}

// sched has the tasks at that tick, with the Next behind the last of them.
func sched(now int, tasks ...impl.Task) impl.Sched {
	next := 1
	for _, x := range tasks {
		next = x.Id + 1
	}
	return impl.Sched{Now: now, Tasks: tasks, Next: next}
}

func running(s impl.Sched, id, left int) impl.Sched {
	s.Run, s.Left = id, left
	return s
}

func aged(s impl.Sched, age, turns int) impl.Sched {
	s.Age, s.Turns = age, turns
	return s
}

func cloneSched(s impl.Sched) impl.Sched {
	s.Tasks = slices.Clone(s.Tasks)
	for i := range s.Tasks {
		s.Tasks[i].Costs = slices.Clone(s.Tasks[i].Costs)
	}
	return s
}

func equalTask(a, b impl.Task) bool {
	return a.Id == b.Id && slices.Equal(a.Costs, b.Costs) && a.At == b.At && a.Due == b.Due && a.Born == b.Born
}

func equalSched(a, b impl.Sched) bool {
	return a.Now == b.Now && a.Slack == b.Slack && a.Age == b.Age && slices.EqualFunc(a.Tasks, b.Tasks, equalTask) &&
		a.Run == b.Run && a.Left == b.Left && a.Turns == b.Turns && a.Next == b.Next
}

func isZeroSched(s impl.Sched) bool { return equalSched(s, impl.Sched{}) }

func wantTaskOk(x impl.Task) bool {
	return among(1, 1000000, x.Id) && among(1, 6, len(x.Costs)) && among(1, 1000, x.Costs...) && x.At >= 0 && x.At < len(x.Costs) && among(0, 1000000, x.Due, x.Born)
}

func wantSchedOk(s impl.Sched) bool {
	if !among(0, 1000000, s.Now, s.Turns) || !among(0, 1000, s.Slack) || !among(0, 20, s.Age) || !among(1, 1000000, s.Next) || len(s.Tasks) > 12 {
		return false
	}
	layer := 0
	for i, x := range s.Tasks {
		if !wantTaskOk(x) || x.Id >= s.Next || x.Born > s.Now || i > 0 && s.Tasks[i-1].Id >= x.Id {
			return false
		}
		if x.Id == s.Run {
			layer = x.Costs[x.At]
		}
	}
	if s.Run == 0 {
		return s.Left == 0
	}
	return s.Left >= 1 && s.Left <= layer
}

// taskAt is the place of the task id, -1 when there is none.
func taskAt(s impl.Sched, id int) int {
	return slices.IndexFunc(s.Tasks, func(x impl.Task) bool { return x.Id == id })
}

func wantRemain(s impl.Sched, id int) int {
	i := taskAt(s, id)
	if i < 0 || !wantSchedOk(s) {
		return -1
	}
	x := s.Tasks[i]
	if id == s.Run {
		return s.Left + total(x.Costs[x.At+1:])
	}
	return total(x.Costs[x.At:])
}

func wantDemand(s impl.Sched, d int) int {
	if !wantSchedOk(s) {
		return -1
	}
	sum := 0
	for _, x := range s.Tasks {
		if x.Due <= d {
			sum += wantRemain(s, x.Id)
		}
	}
	return sum
}

func wantBlock(s impl.Sched, d int) int {
	if !wantSchedOk(s) {
		return -1
	}
	if i := taskAt(s, s.Run); i >= 0 && s.Tasks[i].Due > d {
		return s.Left
	}
	return 0
}

func wantFits(s impl.Sched) bool {
	if !wantSchedOk(s) {
		return false
	}
	for _, x := range s.Tasks {
		if x.Due <= s.Now || wantDemand(s, x.Due)+wantBlock(s, x.Due)+s.Slack > x.Due-s.Now {
			return false
		}
	}
	return true
}

// lateAndOthers are the Ids of those that are late, and of those that are not; none when s is not right.
func lateAndOthers(s impl.Sched) ([]int, []int) {
	var late, others []int
	if !wantSchedOk(s) {
		return nil, nil
	}
	for _, x := range s.Tasks {
		if x.Due <= s.Now {
			late = append(late, x.Id)
		} else {
			others = append(others, x.Id)
		}
	}
	return late, others
}

// leastOf is the first of the ids whose task has the least number, 0 of none.
func leastOf(s impl.Sched, ids []int, number func(x impl.Task) int) int {
	best := 0
	for _, id := range ids {
		if best == 0 || number(s.Tasks[taskAt(s, id)]) < number(s.Tasks[taskAt(s, best)]) {
			best = id
		}
	}
	return best
}

func wantPick(s impl.Sched) int {
	late, others := lateAndOthers(s)
	turn := s.Age > 0 && s.Turns%s.Age == 0
	if len(late) > 0 && turn || len(others) == 0 {
		return leastOf(s, late, func(x impl.Task) int { return x.Born })
	}
	return leastOf(s, others, func(x impl.Task) int { return x.Due })
}

func wantAdmit(s impl.Sched, costs []int, due int) (impl.Sched, int, int) {
	x := impl.Task{Id: s.Next, Costs: costs, Due: due, Born: s.Now}
	then := cloneSched(s)
	then.Tasks, then.Next = append(then.Tasks, x), s.Next+1
	if !wantSchedOk(s) || !wantTaskOk(x) {
		return s, 0, 1
	}
	if len(s.Tasks) == 12 || s.Next == 1000000 {
		return s, 0, 2
	}
	if !wantFits(then) {
		return s, 0, 3
	}
	return then, s.Next, 0
}

func wantCancel(s impl.Sched, id int) (impl.Sched, bool) {
	i := taskAt(s, id)
	if i < 0 || !wantSchedOk(s) {
		return s, false
	}
	then := cloneSched(s)
	then.Tasks = slices.Delete(then.Tasks, i, i+1)
	if s.Run == id {
		then.Run, then.Left = 0, 0
	}
	return then, true
}

func wantTick(s impl.Sched, stalled bool) (impl.Sched, int, bool) {
	if !wantSchedOk(s) || s.Now == 1000000 {
		return s, 0, false
	}
	then := cloneSched(s)
	then.Now = s.Now + 1
	if stalled || len(s.Tasks) == 0 {
		return then, 0, false
	}
	if s.Run == 0 {
		then.Run, then.Turns = wantPick(s), s.Turns+1
		if s.Turns == 1000000 {
			then.Turns = 0
		}
	}
	i := taskAt(s, then.Run)
	x := &then.Tasks[i]
	if s.Run == 0 {
		then.Left = x.Costs[x.At]
	}
	then.Left--
	if then.Left > 0 {
		return then, 0, false
	}
	id := then.Run
	then.Run = 0
	x.At++
	if x.At < len(x.Costs) {
		return then, id, false
	}
	then.Tasks = slices.Delete(then.Tasks, i, i+1)
	return then, id, true
}

func wantPlay(slack, age int, ops [][]int) (impl.Sched, []int) {
	s := impl.Sched{Slack: slack, Age: age, Next: 1}
	if !wantSchedOk(s) || len(ops) > 300 {
		return impl.Sched{}, nil
	}
	var told []int
	for _, op := range ops {
		number, goes := -9, false
		switch {
		case len(op) < 2:
		case op[0] == 0:
			code := 0
			s, number, code = wantAdmit(s, op[2:], op[1])
			if code > 0 {
				number = -code
			}
		case op[0] == 1:
			number = 0
			if s, goes = wantCancel(s, op[1]); goes {
				number = 1
			}
		case op[0] == 2:
			if s, number, goes = wantTick(s, op[1] == 1); goes {
				number += 1000000
			}
		}
		told = append(told, number)
	}
	return s, told
}

// around are the ends of int, and what lies at both sides of two bounds.
func around(least, most int) []int {
	return []int{math.MinInt, math.MinInt + 1, least - 1<<32, -most, -1, 0, 1, least - 1, least, least + 1, most - 1, most, most + 1, most + 1<<32, math.MaxInt - 1, math.MaxInt}
}

// idsAround are those of the tasks, of what is under way and of who comes next, and what lies beside them.
func idsAround(s impl.Sched) []int {
	list := append(around(1, 1000000), s.Run, -s.Run, s.Next, s.Next-1)
	for _, x := range s.Tasks {
		list = append(list, x.Id-1, x.Id, x.Id+1, -x.Id)
	}
	return list
}

// duesAround are those of the tasks and Now, and what lies beside them.
func duesAround(s impl.Sched) []int {
	list := append(around(0, 1000000), s.Now-1, s.Now, s.Now+1, s.Now+s.Slack, s.Now+s.Slack+1)
	for _, x := range s.Tasks {
		list = append(list, x.Due-1, x.Due, x.Due+1, x.Due+7)
	}
	return list
}

// someCosts are those of a task, and four that are none.
var someCosts = [][]int{{1}, {1000}, {3, 4, 5}, {1, 1, 1, 1, 1, 1}, nil, {1, 1, 1, 1, 1, 1, 1}, {1, 0}, {1001, 1}}

// checkSched holds each function of one schedule, right or not, against the chapter.
func checkSched(t *testing.T, s impl.Sched) bool {
	t.Helper()
	ok := wantSchedOk(s)
	if impl.SchedOk(s) != ok {
		t.Fatalf("SchedOk(%v) = %t", s, !ok)
	}
	checkTold(t, s)
	checkChanges(t, s)
	return ok
}

// checkTold is of what is told of a schedule: its numbers, or the fixed answers when it is not right.
func checkTold(t *testing.T, s impl.Sched) {
	t.Helper()
	late, _ := lateAndOthers(s)
	left, pick := wantDemand(s, math.MaxInt), wantPick(s)
	if !slices.Equal(impl.LateOf(s), late) || impl.PickNext(s) != pick || impl.FitsIn(s) != wantFits(s) || impl.WorkLeft(s) != left {
		t.Fatalf("%v: late %v, next %d, fits %t, left %d, not %v, %d, %t, %d", s, impl.LateOf(s), impl.PickNext(s), impl.FitsIn(s), impl.WorkLeft(s), late, pick, wantFits(s), left)
	}
	for _, id := range idsAround(s) {
		if got, want := impl.RemainOf(s, id), wantRemain(s, id); got != want {
			t.Fatalf("RemainOf(%v, %d) = %d, not %d", s, id, got, want)
		}
	}
	for _, d := range duesAround(s) {
		demand, block := wantDemand(s, d), wantBlock(s, d)
		if impl.DemandAt(s, d) != demand || impl.BlockAt(s, d) != block {
			t.Fatalf("%v at %d: demand %d, block %d, not %d, %d", s, d, impl.DemandAt(s, d), impl.BlockAt(s, d), demand, block)
		}
	}
}

// checkChanges is of what comes of a schedule, or that it comes back whole.
func checkChanges(t *testing.T, s impl.Sched) {
	t.Helper()
	for _, id := range idsAround(s) {
		want, wantOk := wantCancel(s, id)
		if got, ok := impl.CancelTask(s, id); ok != wantOk || !equalSched(got, want) {
			t.Fatalf("CancelTask(%v, %d) = %v, %t, not %v, %t", s, id, got, ok, want, wantOk)
		}
	}
	for _, stalled := range []bool{false, true} {
		want, wantId, wantGoes := wantTick(s, stalled)
		if got, id, goes := impl.TickSched(s, stalled); id != wantId || goes != wantGoes || !equalSched(got, want) {
			t.Fatalf("TickSched(%v, %t) = %v, %d, %t, not %v, %d, %t", s, stalled, got, id, goes, want, wantId, wantGoes)
		}
	}
	for _, costs := range someCosts {
		for _, due := range duesAround(s) {
			want, wantId, wantCode := wantAdmit(s, costs, due)
			if got, id, code := impl.Admit(s, costs, due); id != wantId || code != wantCode || !equalSched(got, want) {
				t.Fatalf("Admit(%v, %v, %d) = %v, %d, %d, not %v, %d, %d", s, costs, due, got, id, code, want, wantId, wantCode)
			}
		}
	}
}

// pair has a task that is late, one that is not and whose layer is under way, and room for more.
func pair() impl.Sched {
	s := running(sched(40, task(3, 40, 7, 2, 3), task(8, 70, 40, 5, 6, 7)), 8, 4)
	s.Slack, s.Age, s.Turns, s.Next, s.Tasks[1].At = 2, 3, 5, 20, 1
	return s
}

// twelve has as many tasks as there may be, each in time.
func twelve() impl.Sched {
	var tasks []impl.Task
	for i := range 12 {
		tasks = append(tasks, task(5*i+1, 1000+100*i, i, 4, 1, 9))
	}
	return sched(11, tasks...)
}

func TestTaskBounds(t *testing.T) {
	for _, f := range []struct {
		name        string
		least, most int
		set         func(x *impl.Task, to int)
	}{
		{"Id", 1, 1000000, func(x *impl.Task, to int) { x.Id = to }},
		{"At", 0, 2, func(x *impl.Task, to int) { x.At = to }},
		{"Due", 0, 1000000, func(x *impl.Task, to int) { x.Due = to }},
		{"Born", 0, 1000000, func(x *impl.Task, to int) { x.Born = to }},
		{"the first cost", 1, 1000, func(x *impl.Task, to int) { x.Costs[0] = to }},
		{"the last cost", 1, 1000, func(x *impl.Task, to int) { x.Costs[2] = to }},
		{"the costs", 1, 1000, func(x *impl.Task, to int) { x.Costs = same(3, to) }},
	} {
		for _, to := range around(f.least, f.most) {
			x := task(7, 30, 10, 4, 5, 6)
			f.set(&x, to)
			if want := to >= f.least && to <= f.most; impl.TaskOk(x) != want {
				t.Errorf("%s %d: %t", f.name, to, !want)
			}
			checkSched(t, sched(20, x))
		}
	}
	for n := range 10 {
		for at := -1; at < 11; at++ {
			x := task(1, 9, 0, same(n, 3)...)
			x.At = at
			if want := n >= 1 && n <= 6 && at >= 0 && at < n; impl.TaskOk(x) != want || checkSched(t, sched(0, x)) != want {
				t.Errorf("at %d of %d costs: %t", at, n, !want)
			}
		}
	}
	if impl.TaskOk(impl.Task{}) || !impl.TaskOk(task(1, 0, 1000000, 1)) || !impl.TaskOk(task(1000000, 1000000, 0, 1000)) {
		t.Error("a task of zero values, one that is born behind its Due, or the greatest one")
	}
}

func TestSchedBounds(t *testing.T) {
	for _, f := range []struct {
		name        string
		least, most int
		set         func(s *impl.Sched, to int)
	}{
		{"Now", 0, 1000000, func(s *impl.Sched, to int) { s.Now, s.Tasks = to, nil }},
		{"Now of the last Born", 40, 1000000, func(s *impl.Sched, to int) { s.Now, s.Run, s.Left = to, 0, 0 }},
		{"Slack", 0, 1000, func(s *impl.Sched, to int) { s.Slack = to }},
		{"Age", 0, 20, func(s *impl.Sched, to int) { s.Age = to }},
		{"Turns", 0, 1000000, func(s *impl.Sched, to int) { s.Turns = to }},
		{"Next", 9, 1000000, func(s *impl.Sched, to int) { s.Next = to }},
		{"Next without tasks", 1, 1000000, func(s *impl.Sched, to int) { s.Next, s.Tasks = to, nil }},
		{"the first Id", 1, 7, func(s *impl.Sched, to int) { s.Tasks[0].Id = to }},
		{"the last Id", 4, 19, func(s *impl.Sched, to int) { s.Tasks[1].Id, s.Run, s.Left = to, 0, 0 }},
		{"the first Born", 0, 40, func(s *impl.Sched, to int) { s.Tasks[0].Born = to }},
		{"the last Born", 0, 40, func(s *impl.Sched, to int) { s.Tasks[1].Born = to }},
		{"Run", 8, 8, func(s *impl.Sched, to int) { s.Run = to }},
		{"Run without Left", 0, 0, func(s *impl.Sched, to int) { s.Run, s.Left = to, 0 }},
		{"Left", 1, 6, func(s *impl.Sched, to int) { s.Left = to }},
		{"Left of the first task", 1, 2, func(s *impl.Sched, to int) { s.Run, s.Left = 3, to }},
		{"Left without Run", 0, 0, func(s *impl.Sched, to int) { s.Run, s.Left = 0, to }},
		{"the last At", 0, 2, func(s *impl.Sched, to int) { s.Tasks[1].At = to }},
	} {
		for _, to := range around(f.least, f.most) {
			s := pair()
			f.set(&s, to)
			if len(s.Tasks) == 0 {
				s.Run, s.Left = 0, 0
			}
			if want := to >= f.least && to <= f.most; checkSched(t, s) != want {
				t.Errorf("%s %d: %t", f.name, to, !want)
			}
		}
	}
}

func TestNumbersOfTasks(t *testing.T) {
	for n := range 16 {
		var tasks []impl.Task
		for i := range n {
			tasks = append(tasks, task(i+1, 500, 0, 1))
		}
		if got := checkSched(t, sched(0, tasks...)); got != (n <= 12) {
			t.Errorf("%d tasks: %t", n, got)
		}
	}
}

func TestSchedsThatAreNotOk(t *testing.T) {
	one, two, three := task(1, 90, 0, 5), task(2, 80, 0, 5), task(3, 70, 0, 5)
	late := task(4, 90, 6, 5)
	bad := task(2, 80, 0, 5)
	bad.Costs = nil
	short := running(sched(5, one, two), 2, 3)
	short.Tasks = short.Tasks[:1]
	for _, s := range []impl.Sched{
		{}, {Now: 5}, {Next: 1, Left: 1}, {Next: 1, Run: 1}, {Next: 2, Run: 1, Left: 1}, {Tasks: []impl.Task{{}}, Next: 2}, {Tasks: []impl.Task{one}},
		sched(5, two, one), sched(5, one, three, two), sched(5, one, one), sched(5, one, two, two), sched(5, one, one, two), sched(5, late), sched(5, one, bad, three), short,
		running(sched(5, one), 1, 6), running(sched(5, one), 2, 5), running(sched(5, one), -1, 5), running(sched(5, one), 1, 0), running(sched(5, one), 0, 5),
		{Now: -3, Slack: -1, Age: 99, Tasks: []impl.Task{{Id: -5, Costs: []int{0, -1, 2000}, At: 77, Due: -9, Born: -8}, late, bad}, Run: 6, Left: -2, Turns: -1, Next: -4},
	} {
		if checkSched(t, s) {
			t.Errorf("%v is right", s)
		}
	}
}

func TestSchedInNumbers(t *testing.T) {
	s := pair()
	if !impl.SchedOk(s) || impl.RemainOf(s, 3) != 5 || impl.RemainOf(s, 8) != 11 || impl.RemainOf(s, 4) != -1 || impl.RemainOf(s, 0) != -1 || impl.WorkLeft(s) != 16 {
		t.Errorf("remain %d and %d of %d", impl.RemainOf(s, 3), impl.RemainOf(s, 8), impl.WorkLeft(s))
	}
	if !slices.Equal(impl.LateOf(s), []int{3}) || impl.PickNext(s) != 8 || impl.FitsIn(s) {
		t.Errorf("late %v, next %d", impl.LateOf(s), impl.PickNext(s))
	}
	for _, c := range []struct{ d, demand, block int }{{-1, 0, 4}, {0, 0, 4}, {39, 0, 4}, {40, 5, 4}, {69, 5, 4}, {70, 16, 0}, {71, 16, 0}, {math.MinInt, 0, 4}, {math.MaxInt, 16, 0}} {
		if impl.DemandAt(s, c.d) != c.demand || impl.BlockAt(s, c.d) != c.block {
			t.Errorf("at %d: %d, %d", c.d, impl.DemandAt(s, c.d), impl.BlockAt(s, c.d))
		}
	}
	idle := running(s, 0, 0)
	if impl.RemainOf(idle, 8) != 13 || impl.WorkLeft(idle) != 18 || impl.BlockAt(idle, -1) != 0 || impl.BlockAt(idle, 50) != 0 || impl.DemandAt(idle, 70) != 18 {
		t.Error("nothing under way")
	}
	empty := sched(7)
	if impl.WorkLeft(empty) != 0 || impl.DemandAt(empty, 100) != 0 || impl.BlockAt(empty, 0) != 0 || !impl.FitsIn(empty) || impl.PickNext(empty) != 0 || len(impl.LateOf(empty)) != 0 {
		t.Error("no task")
	}
	checkSched(t, empty)
	checkSched(t, twelve())
}

func TestNewSched(t *testing.T) {
	for _, slack := range around(0, 1000) {
		for _, age := range around(0, 20) {
			s, ok := impl.NewSched(slack, age)
			if want := among(0, 1000, slack) && among(0, 20, age); ok != want || !want && !isZeroSched(s) || want && !equalSched(s, impl.Sched{Slack: slack, Age: age, Next: 1}) {
				t.Fatalf("NewSched(%d, %d) = %v, %t", slack, age, s, ok)
			}
			if ok && !checkSched(t, s) {
				t.Fatalf("%v is not right", s)
			}
		}
	}
}

func TestLateOf(t *testing.T) {
	for _, c := range []struct {
		now  int
		late []int
	}{{0, nil}, {9, nil}, {10, []int{2}}, {11, []int{1, 2}}, {12, []int{1, 2}}, {29, []int{1, 2}}, {30, []int{1, 2, 9}}, {1000000, []int{1, 2, 9}}} {
		s := sched(c.now, task(1, 11, 0, 1), task(2, 10, 0, 5), task(9, 30, 0, 3))
		if got := impl.LateOf(s); !slices.Equal(got, c.late) {
			t.Errorf("at %d: %v", c.now, got)
		}
		checkSched(t, s)
	}
	if got := impl.LateOf(sched(0, task(1, 0, 0, 1))); !slices.Equal(got, []int{1}) {
		t.Errorf("what is due at 0 at 0: %v", got)
	}
}

func TestPickNext(t *testing.T) {
	all := []impl.Task{task(2, 50, 4, 1), task(4, 40, 6, 2), task(5, 30, 6, 3), task(7, 60, 3, 4), task(8, 30, 3, 5), task(9, 70, 9, 6)}
	for _, c := range []struct{ now, age, turns, want int }{
		// None is late: the least Due, of 5 and 8 the least Id, whatever Age and Turns are.
		{10, 0, 0, 5}, {29, 0, 7, 5}, {29, 1, 0, 5}, {29, 2, 1, 5}, {29, 20, 1000000, 5},
		// 5 and 8 are late, and wait when it is not their turn.
		{30, 0, 0, 4}, {30, 0, 1000000, 4}, {30, 2, 1, 4}, {30, 2, 3, 4}, {30, 20, 19, 4}, {30, 20, 21, 4}, {30, 3, 1000000, 4},
		// When it is, the least Born counts.
		{30, 1, 0, 8}, {30, 1, 5, 8}, {30, 2, 0, 8}, {30, 2, 2, 8}, {30, 20, 0, 8}, {30, 20, 20, 8}, {30, 20, 1000000, 8}, {39, 3, 999999, 8},
		{40, 0, 0, 2}, {40, 3, 1, 2}, {49, 3, 3, 8}, {50, 0, 0, 7}, {50, 3, 6, 8}, {60, 0, 0, 9}, {60, 3, 0, 7}, {69, 3, 2, 9}, {69, 3, 3, 7},
		// All are late: the least Born, of 7 and 8 the least Id.
		{70, 0, 0, 7}, {70, 0, 5, 7}, {70, 2, 0, 7}, {70, 2, 1, 7}, {1000000, 20, 3, 7},
	} {
		s := aged(sched(c.now, all...), c.age, c.turns)
		if got := impl.PickNext(s); got != c.want {
			t.Errorf("at %d, with Age %d and Turns %d: %d, not %d", c.now, c.age, c.turns, got, c.want)
		}
		checkSched(t, s)
		// A layer that is under way changes nothing in that.
		for _, x := range all {
			if got := impl.PickNext(running(s, x.Id, 1)); got != c.want {
				t.Errorf("at %d, with Age %d, Turns %d and %d under way: %d, not %d", c.now, c.age, c.turns, x.Id, got, c.want)
			}
		}
	}
}

// Each task at its bound: what is left of all that are due by then, of the layer under way, and Slack.
func TestFitsIn(t *testing.T) {
	for _, c := range []struct {
		s     impl.Sched
		slack int
		want  bool
	}{
		{sched(0), 1000, true}, {sched(1000000), 1000, true},
		{sched(0, task(1, 3, 0, 1, 2)), 0, true}, {sched(0, task(1, 3, 0, 1, 2)), 1, false}, {sched(1, task(1, 3, 0, 1, 2)), 0, false},
		{sched(10, task(1, 10, 0, 1)), 0, false}, {sched(10, task(1, 11, 0, 1)), 0, true}, {sched(10, task(1, 9, 0, 1)), 0, false}, {sched(10, task(1, 9, 0, 1), task(2, 900, 0, 1)), 0, false},
		{sched(0, task(1, 1000000, 0, 1000)), 1000, true}, {sched(998000, task(1, 1000000, 0, 1000)), 1000, true}, {sched(998001, task(1, 1000000, 0, 1000)), 1000, false},
		// The second one has to wait for the first, and the other way round.
		{sched(0, task(1, 3, 0, 3), task(2, 7, 0, 4)), 0, true}, {sched(0, task(1, 3, 0, 3), task(2, 6, 0, 4)), 0, false}, {sched(0, task(1, 7, 0, 3), task(2, 4, 0, 4)), 0, true}, {sched(0, task(1, 6, 0, 3), task(2, 4, 0, 4)), 0, false},
		{sched(0, task(1, 7, 0, 3), task(2, 7, 0, 4)), 0, true}, {sched(0, task(1, 7, 0, 3), task(2, 7, 0, 4)), 1, false}, {sched(0, task(1, 6, 0, 3), task(2, 6, 0, 4)), 0, false},
		// The layer under way of a task with a later Due goes ahead, that of one with the same Due or a lesser one counts once.
		{running(sched(0, task(1, 20, 0, 5, 5), task(2, 7, 0, 4)), 1, 3), 0, true}, {running(sched(0, task(1, 20, 0, 5, 5), task(2, 7, 0, 4)), 1, 4), 0, false}, {running(sched(0, task(1, 20, 0, 5, 5), task(2, 7, 0, 4)), 1, 3), 1, false},
		{running(sched(0, task(1, 7, 0, 3), task(2, 7, 0, 4)), 1, 3), 0, true}, {running(sched(0, task(1, 3, 0, 3), task(2, 7, 0, 4)), 1, 3), 0, true}, {running(sched(0, task(1, 3, 0, 4), task(2, 7, 0, 4)), 1, 3), 0, true},
	} {
		c.s.Slack = c.slack
		if got := impl.FitsIn(c.s); got != c.want {
			t.Errorf("%v: %t", c.s, got)
		}
		checkSched(t, c.s)
	}
}

func TestAdmit(t *testing.T) {
	s := pair()
	s.Tasks[0].Due = 100
	then, id, code := impl.Admit(s, []int{3, 1}, 65)
	want := cloneSched(s)
	want.Tasks, want.Next = append(want.Tasks, task(20, 65, 40, 3, 1)), 21
	if id != 20 || code != impl.AdmitOk || !equalSched(then, want) || !impl.FitsIn(then) {
		t.Errorf("%v, %d, %d", then, id, code)
	}
	full := twelve()
	worst := full
	worst.Tasks = slices.Clone(full.Tasks)
	worst.Tasks[0].Due = 5
	last, end := sched(50), sched(50, task(1, 50, 0, 1))
	last.Next, end.Next = 999999, 1000000
	wrong := worst
	wrong.Turns = -1
	free := full
	free.Tasks = full.Tasks[:11]
	for _, c := range []struct {
		s     impl.Sched
		costs []int
		due   int
		code  int
	}{
		{sched(50), []int{4}, 54, 0}, {sched(50), []int{4}, 53, 3}, {sched(50), []int{4}, 50, 3}, {sched(50), []int{4}, 0, 3}, {sched(50), []int{4}, -1, 1}, {sched(50), []int{4}, 1000000, 0}, {sched(50), []int{4}, 1000001, 1},
		{sched(50), []int{1000}, 1050, 0}, {sched(50), []int{1001}, 5000, 1}, {sched(50), []int{1, 0}, 5000, 1}, {sched(50), nil, 5000, 1}, {sched(50), same(6, 7), 92, 0}, {sched(50), same(7, 7), 5000, 1},
		{free, []int{1}, 5000, 0}, {full, []int{1}, 5000, 2}, {last, []int{1}, 5000, 0}, {end, []int{1}, 5000, 2},
		// Several reasons at once: AdmitBad, AdmitFull, AdmitLate.
		{wrong, []int{1}, 5000, 1}, {wrong, nil, -1, 1}, {full, nil, 5000, 1}, {full, []int{1}, 1000001, 1}, {end, []int{0}, 5000, 1}, {worst, []int{1}, -1, 1}, {worst, []int{1}, 12, 2}, {full, []int{1}, 0, 2}, {end, []int{1}, 0, 2},
		{impl.Sched{}, []int{1}, 5000, 1},
	} {
		got, id, code := impl.Admit(c.s, c.costs, c.due)
		if code != c.code || code > 0 && (id != 0 || !equalSched(got, c.s)) || code == 0 && (id != c.s.Next || got.Next != id+1 || len(got.Tasks) != len(c.s.Tasks)+1) {
			t.Errorf("Admit(%v, %v, %d) = %v, %d, %d, not %d", c.s, c.costs, c.due, got, id, code, c.code)
		}
	}
}

// What is cancelled goes, and what was under way of it; what is under way of another stays.
func TestCancelTask(t *testing.T) {
	s := pair()
	then, ok := impl.CancelTask(s, 8)
	want := running(s, 0, 0)
	want.Tasks = s.Tasks[:1]
	if !ok || !equalSched(then, want) {
		t.Errorf("8: %v, %t", then, ok)
	}
	then, ok = impl.CancelTask(s, 3)
	want = s
	want.Tasks = s.Tasks[1:]
	if !ok || !equalSched(then, want) {
		t.Errorf("3: %v, %t", then, ok)
	}
	again, ok := impl.CancelTask(then, 3)
	if ok || !equalSched(again, then) {
		t.Errorf("3 once more: %v, %t", again, ok)
	}
	last, ok := impl.CancelTask(then, 8)
	if !ok || len(last.Tasks) != 0 || last.Run != 0 || last.Left != 0 || last.Next != 20 || !impl.SchedOk(last) {
		t.Errorf("the last one: %v, %t", last, ok)
	}
	for _, x := range twelve().Tasks {
		then, ok := impl.CancelTask(running(twelve(), 26, 2), x.Id)
		if !ok || len(then.Tasks) != 11 || impl.RemainOf(then, x.Id) != -1 || (then.Run == 0) != (x.Id == 26) || (then.Left == 0) != (x.Id == 26) {
			t.Errorf("%d of twelve: %v, %t", x.Id, then, ok)
		}
	}
}

// Two tasks tick by tick, and a third one that has to wait for the layer under way, though its Due is less.
func TestTickSchedInNumbers(t *testing.T) {
	s := sched(0, task(1, 20, 0, 2, 1), task(2, 15, 0, 3))
	s.Turns = 1000000
	for i, c := range []struct {
		stalled                       bool
		run, left, turns, tasks, done int
		goes                          bool
	}{
		{true, 0, 0, 1000000, 2, 0, false},
		{false, 2, 2, 0, 2, 0, false},
		{true, 2, 2, 0, 2, 0, false},
		{false, 2, 1, 0, 2, 0, false},
		{false, 0, 0, 0, 1, 2, true},
		{false, 1, 1, 1, 1, 0, false},
		{false, 0, 0, 1, 2, 1, false},
		{false, 0, 0, 2, 1, 3, true},
		{false, 0, 0, 3, 0, 1, true},
		{false, 0, 0, 3, 0, 0, false},
		{true, 0, 0, 3, 0, 0, false},
	} {
		if s.Now == 6 {
			var id, code int
			if s, id, code = impl.Admit(s, []int{1}, 9); id != 3 || code != impl.AdmitOk {
				t.Fatalf("Admit: %v, %d, %d", s, id, code)
			}
		}
		checkSched(t, s)
		then, id, goes := impl.TickSched(s, c.stalled)
		if then.Now != i+1 || then.Run != c.run || then.Left != c.left || then.Turns != c.turns || len(then.Tasks) != c.tasks || id != c.done || goes != c.goes {
			t.Fatalf("tick %d of %v: %v, %d, %t", i+1, s, then, id, goes)
		}
		s = then
	}
}

func TestTurns(t *testing.T) {
	for _, c := range []struct{ turns, want int }{{0, 1}, {1, 2}, {999998, 999999}, {999999, 1000000}, {1000000, 0}} {
		for _, age := range []int{0, 1, 20} {
			s := aged(sched(3, task(1, 9, 0, 2)), age, c.turns)
			then, _, _ := impl.TickSched(s, false)
			still, _, _ := impl.TickSched(s, true)
			under, _, _ := impl.TickSched(running(s, 1, 2), false)
			none, _, _ := impl.TickSched(aged(sched(3), age, c.turns), false)
			if then.Turns != c.want || still.Turns != c.turns || under.Turns != c.turns || none.Turns != c.turns {
				t.Errorf("behind %d: %d, stalled %d, under way %d, without a task %d", c.turns, then.Turns, still.Turns, under.Turns, none.Turns)
			}
		}
	}
}

// The pick of a tick sees Now as it was ahead of it: what is due at the end of the tick is not late in it.
func TestPickOfATickSeesNowAhead(t *testing.T) {
	for _, c := range []struct{ now, age, run int }{{8, 0, 1}, {9, 0, 1}, {10, 0, 2}, {11, 0, 2}, {9, 1, 1}, {10, 1, 1}, {20, 0, 1}} {
		s := aged(sched(c.now, task(1, 10, 0, 5), task(2, 20, 0, 5)), c.age, 0)
		then, id, goes := impl.TickSched(s, false)
		if then.Run != c.run || then.Left != 4 || then.Now != c.now+1 || id != 0 || goes || impl.PickNext(s) != c.run {
			t.Errorf("at %d with Age %d: %v, %d, %t", c.now, c.age, then, id, goes)
		}
	}
	// It is done just by its Due, and a tick later it would have been late.
	for _, now := range []int{9, 10} {
		then, id, goes := impl.TickSched(sched(now, task(1, 10, 0, 1), task(2, 20, 0, 1)), false)
		if want := now - 8; id != want || !goes || impl.RemainOf(then, 3-want) != 1 {
			t.Errorf("at %d: %v, %d, %t", now, then, id, goes)
		}
	}
}

func TestTicksAtMaxTick(t *testing.T) {
	for _, stalled := range []bool{false, true} {
		for _, s := range []impl.Sched{sched(1000000), sched(1000000, task(1, 9, 0, 1)), running(sched(1000000, task(1, 1000000, 0, 1)), 1, 1)} {
			then, id, goes := impl.TickSched(s, stalled)
			if id != 0 || goes || !equalSched(then, s) {
				t.Errorf("TickSched(%v, %t) = %v, %d, %t", s, stalled, then, id, goes)
			}
			checkSched(t, s)
			s.Now = 999999
			then, id, goes = impl.TickSched(s, stalled)
			if then.Now != 1000000 || goes != (len(s.Tasks) > 0 && !stalled) || (id == 1) != goes {
				t.Errorf("TickSched(%v, %t) = %v, %d, %t", s, stalled, then, id, goes)
			}
			checkSched(t, s)
		}
	}
}

func TestLayersOfATick(t *testing.T) {
	for left := 1; left <= 3; left++ {
		for at := range 3 {
			x := task(4, 50, 1, 3, 3, 3)
			x.At = at
			s := running(sched(10, task(2, 60, 0, 9), x, task(5, 11, 2, 1)), 4, left)
			then, id, goes := impl.TickSched(s, false)
			want := cloneSched(s)
			want.Now, want.Left = 11, left-1
			if left == 1 {
				want.Run, want.Tasks[1].At = 0, at+1
			}
			last := left == 1 && at == 2
			if last {
				want.Tasks = slices.Delete(want.Tasks, 1, 2)
			}
			if goes != last || (id == 4) != (left == 1) || (id == 0) != (left > 1) || !equalSched(then, want) {
				t.Errorf("%d left of layer %d: %v, %d, %t", left, at, then, id, goes)
			}
		}
	}
}

// With Age the late one has its turn, though there is always one that is not late.
func TestAgeGivesTurnsToTheLate(t *testing.T) {
	for _, c := range []struct {
		age  int
		want []int
	}{{0, []int{2, 3, 4, 5, 6, 7, 8, 9, 10, 11, 12, 1, 1}}, {1, []int{1, 1, 2, 3, 4, 5, 6, 7, 8, 9, 10, 11, 12}}, {2, []int{1, 2, 1, 3, 4, 5, 6, 7, 8, 9, 10, 11, 12}}, {5, []int{1, 2, 3, 4, 5, 1, 6, 7, 8, 9, 10, 11, 12}}} {
		tasks := []impl.Task{task(1, 5, 0, 1, 1)}
		for id := 2; id <= 12; id++ {
			tasks = append(tasks, task(id, 100, 9, 1))
		}
		s := aged(sched(10, tasks...), c.age, 0)
		var order []int
		for range c.want {
			id := 0
			s, id, _ = impl.TickSched(s, false)
			order = append(order, id)
		}
		if !slices.Equal(order, c.want) || len(s.Tasks) != 0 {
			t.Errorf("with Age %d: %v, and then %v", c.age, order, s)
		}
	}
}

// drawSched is a right schedule, often with several of one Due or Born, with late ones, and with a layer under way.
func drawSched(next func(n int) int) impl.Sched {
	s := impl.Sched{Now: next(20), Slack: next(5), Age: next(5), Turns: next(12)}
	if next(6) == 0 {
		s.Turns = 1000000 - next(2)
	}
	id := 0
	n := next(6)
	if next(5) == 0 {
		n = 12 - next(3)
	}
	for range n {
		id += 1 + next(3)
		x := task(id, max(s.Now-5+next(30), 0), max(s.Now-next(4), 0))
		for range 1 + next(6) {
			x.Costs = append(x.Costs, 1+next(4))
		}
		x.At = next(len(x.Costs))
		s.Tasks = append(s.Tasks, x)
	}
	s.Next = id + 1 + next(3)
	if next(9) == 0 {
		s.Next = 1000000 - next(2)
	}
	if n > 0 && next(2) == 0 {
		x := s.Tasks[next(n)]
		s = running(s, x.Id, 1+next(x.Costs[x.At]))
	}
	return s
}

// atTheEnd is s at one of the last ticks; what is due behind these is due at the last one.
func atTheEnd(s impl.Sched, now int) impl.Sched {
	for i := range s.Tasks {
		x := &s.Tasks[i]
		x.Due, x.Born = min(x.Due+now-s.Now, 1000000), x.Born+now-s.Now
	}
	s.Now = now
	return s
}

// drawFit is a schedule that fits; mostly it would not with one Due that is less by one.
func drawFit(next func(n int) int) impl.Sched {
	s := drawSched(next)
	for i := range s.Tasks {
		s.Tasks[i].Due = s.Now + 1 + next(60)
	}
	for !wantFits(s) {
		for i := range s.Tasks {
			x := &s.Tasks[i]
			for wantDemand(s, x.Due)+wantBlock(s, x.Due)+s.Slack > x.Due-s.Now {
				x.Due++
			}
		}
	}
	return s
}

func TestDrawnSchedules(t *testing.T) {
	next := draws(7)
	late, under, full, fit := 0, 0, 0, 0
	for range 1500 {
		s := drawSched(next)
		if next(6) == 0 {
			s = atTheEnd(s, 1000000-next(12))
		}
		if !checkSched(t, s) {
			t.Fatalf("%v is not right", s)
		}
		ids, others := lateAndOthers(s)
		if len(ids) > 1 && len(others) > 1 {
			late++
		}
		if s.Run > 0 {
			under++
		}
		if len(s.Tasks) == 12 {
			full++
		}
		if len(s.Tasks) > 1 && wantFits(s) {
			fit++
		}
	}
	if late < 200 || under < 200 || full < 20 || fit < 20 {
		t.Errorf("only %d have late and other tasks, %d a layer under way, %d are full and %d fit", late, under, full, fit)
	}
}

// Promise 7: of the work that is left each tick takes one cycle, and a stalled one none.
func TestATickTakesOneCycle(t *testing.T) {
	next := draws(77)
	for range 400 {
		s := drawSched(next)
		for tick := 0; impl.WorkLeft(s) > 0; tick++ {
			if tick > 2000 {
				t.Fatalf("%v never ends", s)
			}
			left, stalled := impl.WorkLeft(s), next(3) == 0
			then, id, goes := impl.TickSched(s, stalled)
			want := left - 1
			if stalled {
				want = left
			}
			if !impl.SchedOk(then) || impl.WorkLeft(then) != want || then.Now != s.Now+1 || stalled && (id != 0 || goes) || goes && impl.RemainOf(then, id) != -1 {
				t.Fatalf("TickSched(%v, %t) = %v, %d, %t: left are %d of %d", s, stalled, then, id, goes, impl.WorkLeft(then), left)
			}
			if next(12) == 0 {
				then, _, _ = impl.Admit(then, []int{1 + next(5), 1 + next(5)}, then.Now+next(80))
			}
			s = then
		}
		if len(s.Tasks) != 0 || s.Run != 0 || s.Left != 0 {
			t.Fatalf("%v has no work left", s)
		}
	}
}

// Nobody is left for ever: as many ticks as there is work, and each one goes once.
func TestWorkLeftIsEnough(t *testing.T) {
	next := draws(78)
	for range 300 {
		s := drawSched(next)
		var gone, ids []int
		for _, x := range s.Tasks {
			ids = append(ids, x.Id)
		}
		for range impl.WorkLeft(s) {
			then, id, goes := impl.TickSched(s, false)
			if goes {
				gone = append(gone, id)
			}
			s = then
		}
		slices.Sort(gone)
		if len(s.Tasks) != 0 || !slices.Equal(gone, ids) {
			t.Fatalf("%v went of %v, and there is %v", gone, ids, s)
		}
	}
}

// doneAt plays s until all tasks went, with a stalled tick where stall says so, and tells the tick at which each was done.
func doneAt(t *testing.T, s impl.Sched, stall func(tick int) bool) map[int]int {
	t.Helper()
	ends := map[int]int{}
	for tick := 0; len(s.Tasks) > 0; tick++ {
		if tick > 2000 {
			t.Fatalf("%v never ends", s)
		}
		then, id, goes := impl.TickSched(s, stall(tick))
		if goes {
			ends[id] = then.Now
		}
		s = then
	}
	return ends
}

// stalls are the ways to lay n stalled ticks: all at once from some tick on, or at drawn ones.
func stalls(n, from int, next func(n int) int) []func(tick int) bool {
	drawn := map[int]bool{}
	for len(drawn) < n {
		drawn[next(90)] = true
	}
	return []func(tick int) bool{
		func(tick int) bool { return tick < n },
		func(tick int) bool { return tick >= from && tick < from+n },
		func(tick int) bool { return drawn[tick] },
		func(tick int) bool { return tick%2 == 1 && tick < 2*n },
	}
}

// Promise 8: from a schedule that fits, with Slack stalled ticks or less anywhere each task is done by its Due.
func TestWhatFitsIsDoneByItsDue(t *testing.T) {
	next := draws(8)
	just, under, passed := 0, 0, 0
	for range 700 {
		s := drawFit(next)
		if !impl.FitsIn(s) || !checkSched(t, s) {
			t.Fatalf("%v does not fit", s)
		}
		if s.Run > 0 && impl.BlockAt(s, s.Now) > 0 && impl.PickNext(s) != s.Run {
			under++
		}
		for n := range s.Slack + 1 {
			for _, stall := range stalls(n, next(60), next) {
				ends := doneAt(t, s, stall)
				for _, x := range s.Tasks {
					if end, ok := ends[x.Id]; !ok || end > x.Due {
						t.Fatalf("%v: %d is done at %d", s, x.Id, end)
					}
					if ends[x.Id] == x.Due {
						just++
					}
				}
			}
		}
		// One stalled tick more is not promised.
		ends := doneAt(t, s, stalls(s.Slack+1, 0, next)[0])
		if slices.ContainsFunc(s.Tasks, func(x impl.Task) bool { return ends[x.Id] > x.Due }) {
			passed++
		}
	}
	if just < 100 || under < 50 || passed < 50 {
		t.Errorf("only %d were done just by their Due, %d had another under way, %d were late with one stalled tick more", just, under, passed)
	}
}

// Promise 8, with tasks that come and go meanwhile: who was admitted, and met no more than Slack stalled ticks by its Due, is done by then.
func TestWhoIsAdmittedIsDoneByItsDue(t *testing.T) {
	next := draws(88)
	kept, late := 0, 0
	for range 250 {
		s, _ := impl.NewSched(next(4), next(4))
		rare := 3 + next(40)
		dues, met := map[int]int{}, map[int]int{}
		for range 250 {
			id, code, due := 0, 0, s.Now+s.Slack+next(40)
			switch next(6) {
			case 0:
				if s, id, code = impl.Admit(s, []int{1 + next(6), 1 + next(6), 1 + next(3)}[next(3):], due); code == 0 {
					dues[id], met[id] = due, 0
				}
			case 1:
				if len(s.Tasks) > 0 && next(5) == 0 {
					id = s.Tasks[next(len(s.Tasks))].Id
					s, _ = impl.CancelTask(s, id)
					delete(dues, id)
				}
			default:
				stalled, goes := next(rare) == 0, false
				s, id, goes = impl.TickSched(s, stalled)
				for who := range dues {
					if stalled {
						met[who]++
					}
				}
				if goes && s.Now <= dues[id] {
					kept++
					delete(dues, id)
				}
			}
			for who, due := range dues {
				if due <= s.Now && met[who] <= s.Slack {
					t.Fatalf("%v: %d was due at %d, and met %d stalled ticks", s, who, due, met[who])
				}
				if due <= s.Now {
					late++
					delete(dues, who)
				}
			}
		}
	}
	if kept < 1000 || late < 50 {
		t.Errorf("only %d were kept, %d late", kept, late)
	}
}

// Promise 9: AdmitLate is told just where the schedule then would not fit.
func TestAdmitRefusesJustWhatDoesNotFit(t *testing.T) {
	next := draws(9)
	codes := [4]int{}
	for range 3000 {
		s := drawFit(next)
		costs := []int{1 + next(9), 1 + next(9), 1 + next(9)}[next(3):]
		then := cloneSched(s)
		then.Tasks, then.Next = append(then.Tasks, task(s.Next, s.Now+next(90), s.Now, costs...)), s.Next+1
		due := then.Tasks[len(s.Tasks)].Due
		got, id, code := impl.Admit(s, costs, due)
		codes[code]++
		if full := len(s.Tasks) == 12 || s.Next == 1000000; (code == impl.AdmitFull) != full || code == impl.AdmitBad {
			t.Fatalf("Admit(%v, %v, %d): %d", s, costs, due, code)
		}
		if code == impl.AdmitFull {
			continue
		}
		if fits := impl.FitsIn(then); (code == impl.AdmitOk) != fits || fits && (id != s.Next || !equalSched(got, then)) || !fits && (id != 0 || !equalSched(got, s)) {
			t.Fatalf("Admit(%v, %v, %d) = %v, %d, %d, but it fits: %t", s, costs, due, got, id, code, fits)
		}
	}
	if codes[0] < 300 || codes[2] < 100 || codes[3] < 300 {
		t.Errorf("told were %v", codes)
	}
}

// Promise 9: a schedule without tasks admits what has time enough, and with one tick less it does not.
func TestAnEmptyScheduleAdmits(t *testing.T) {
	for _, now := range []int{0, 1, 500, 990000} {
		for _, slack := range []int{0, 1, 7, 1000} {
			for _, age := range []int{0, 20} {
				for _, costs := range [][]int{{1}, {2, 3}, {1000}, same(6, 1000)} {
					s := impl.Sched{Now: now, Slack: slack, Age: age, Turns: 5, Next: 999999}
					enough := now + slack + total(costs)
					_, _, less := impl.Admit(s, costs, enough-1)
					then, id, code := impl.Admit(s, costs, enough)
					_, _, more := impl.Admit(s, costs, enough+1)
					if less != impl.AdmitLate || code != impl.AdmitOk || more != impl.AdmitOk || id != 999999 || !impl.FitsIn(then) || impl.WorkLeft(then) != total(costs) {
						t.Errorf("%v with %v: %d, %d, %d", s, costs, less, code, more)
					}
				}
			}
		}
	}
}

func TestPlaySchedInNumbers(t *testing.T) {
	ops := [][]int{{0, 3, 1, 1}, {0, 9, 5}, {0, 9, 4}, {0, 9}, {0, 9, 0}, {0, -1, 1}, {1, 7}, {2, 1}, {2, 0}, {2, 2}, {2, -1}, {1, 2}, {1, 2}, {0, 7, 1}, {2, 0, 1}, {1, 0, 5, 5}, {2, 7}, {0, 20, 9}, {2, 0}, {1, 3}, {1, 4}, nil, {0}, {1}, {2}, {3, 1}, {-1, 1}, {-9, 0}, {math.MaxInt, 1}, {math.MinInt, 1, 1}, {256, 1}}
	want := []int{1, 2, -3, -1, -1, -1, 0, 0, 1, 1000001, 0, 1, 0, 3, 1000003, 0, 0, 4, 0, 0, 1, -9, -9, -9, -9, -9, -9, -9, -9, -9, -9}
	s, told := impl.PlaySched(0, 0, ops)
	if !slices.Equal(told, want) || !equalSched(s, impl.Sched{Now: 7, Turns: 5, Next: 5}) {
		t.Errorf("%v and %v, not %v", s, told, want)
	}
	// The first two have no time enough; twelve are admitted, and a thirteenth is not, also when it has no time.
	ops = [][]int{{0, 0, 1}, {0, 1, 1, 1}}
	want = []int{-3, -3}
	for i := range 12 {
		ops, want = append(ops, []int{0, 500 - i, 1}), append(want, i+1)
	}
	ops, want = append(ops, []int{0, 500, 1}, []int{0, 0, 1}, []int{0, 0}, []int{2, 0}, []int{1, 3}), append(want, -2, -2, -1, 1000012, 1)
	s, told = impl.PlaySched(1, 20, ops)
	if !slices.Equal(told, want) || len(s.Tasks) != 10 || s.Now != 1 || s.Slack != 1 || s.Age != 20 || s.Turns != 1 || s.Next != 13 {
		t.Errorf("%v and %v, not %v", s, told, want)
	}
}

func TestPlaySchedOfNoPlay(t *testing.T) {
	ops := [][]int{{0, 50, 1}}
	for _, slack := range around(0, 1000) {
		for _, age := range around(0, 20) {
			s, told := impl.PlaySched(slack, age, ops)
			if want, wantTold := wantPlay(slack, age, ops); !equalSched(s, want) || !slices.Equal(told, wantTold) {
				t.Errorf("PlaySched(%d, %d) = %v, %v", slack, age, s, told)
			}
		}
	}
	for _, n := range []int{0, 1, 299, 300, 301, 302, 5000} {
		s, told := impl.PlaySched(2, 3, slices.Repeat([][]int{{2, 0}}, n))
		if n <= 300 && (len(told) != n || s.Now != n || s.Next != 1 || s.Slack != 2 || s.Age != 3) || n > 300 && (len(told) != 0 || !isZeroSched(s)) {
			t.Errorf("%d ops: %v, %v", n, s, told)
		}
	}
	s, told := impl.PlaySched(0, 0, slices.Repeat([][]int{nil}, 300))
	if !slices.Equal(told, same(300, -9)) || !equalSched(s, impl.Sched{Next: 1}) {
		t.Errorf("300 ops that are none: %v, %v", s, told)
	}
}

func TestDrawnPlays(t *testing.T) {
	next := draws(70)
	kinds := map[int]int{}
	for range 400 {
		var ops [][]int
		for range 20 + next(281) {
			op := []int{next(9) - 2}
			switch {
			case op[0] == 0:
				op = append(op, next(400))
				for range next(8) {
					op = append(op, next(7))
				}
			case op[0] == 1:
				op = append(op, next(20))
			case op[0] >= 2 && next(30) > 0:
				op = []int{2, next(3)}
			case next(2) == 0:
				op = append(op, next(5), next(5))
			}
			ops = append(ops, op)
		}
		slack, age := next(5), next(6)
		s, told := impl.PlaySched(slack, age, ops)
		want, wantTold := wantPlay(slack, age, ops)
		if !equalSched(s, want) || !slices.Equal(told, wantTold) || !impl.SchedOk(s) {
			t.Fatalf("PlaySched(%d, %d, %v) = %v, %v, not %v, %v", slack, age, ops, s, told, want, wantTold)
		}
		for i, number := range told {
			kinds[min(number, 1)*10+min(len(ops[i]), 1)]++
			if number > 1000000 {
				kinds[1000000]++
			}
		}
	}
	if kinds[1000000] < 500 || kinds[-10+1] < 100 || kinds[-30+1] < 100 || kinds[-90+1] < 100 {
		t.Errorf("told were %v", kinds)
	}
}

// spare stands in the room behind the tasks of roomySched.
var spare = task(77, 78, 79, 80)

// roomySched is s with room behind each of its lists.
func roomySched(s impl.Sched) impl.Sched {
	s.Tasks = append(slices.Clone(s.Tasks), spare, spare)[:len(s.Tasks)]
	for i := range s.Tasks {
		s.Tasks[i].Costs = roomy(s.Tasks[i].Costs)
	}
	return s
}

func schedHasRoom(s impl.Sched) bool {
	for _, x := range s.Tasks {
		if !hasRoom(x.Costs) {
			return false
		}
	}
	room := s.Tasks[:len(s.Tasks)+2][len(s.Tasks):]
	return equalTask(room[0], spare) && equalTask(room[1], spare)
}

func overwriteSched(s impl.Sched) {
	for _, x := range s.Tasks {
		overwrite(x.Costs, 1000)
	}
	tasks := s.Tasks[:cap(s.Tasks)]
	for i := range tasks {
		tasks[i] = task(1001, 1002, 1003, 1004)
	}
}

func TestSchedArgumentsAreLeft(t *testing.T) {
	next := draws(71)
	list := []impl.Sched{pair(), twelve(), sched(4), running(twelve(), 6, 1)}
	for range 120 {
		list = append(list, drawSched(next), drawFit(next))
	}
	for _, s := range list[:80] {
		bad := cloneSched(s)
		bad.Turns = -1
		worse := cloneSched(s)
		worse.Tasks = append(worse.Tasks, worse.Tasks...)
		list = append(list, bad, worse)
	}
	for _, before := range list {
		s := roomySched(before)
		costs := roomy([]int{2, 3})
		var answers []impl.Sched
		for _, due := range duesAround(before) {
			got, _, _ := impl.Admit(s, costs, due)
			none, _, _ := impl.Admit(s, nil, due)
			answers = append(answers, got, none)
		}
		for _, id := range idsAround(before) {
			got, _ := impl.CancelTask(s, id)
			answers = append(answers, got)
		}
		for _, stalled := range []bool{false, true} {
			got, _, _ := impl.TickSched(s, stalled)
			answers = append(answers, got)
		}
		overwrite(impl.LateOf(s), 1005)
		for _, got := range answers {
			overwriteSched(got)
		}
		if !equalSched(s, before) || !schedHasRoom(s) || !slices.Equal(costs, []int{2, 3}) || !hasRoom(costs) {
			t.Fatalf("%v shares memory with an answer, or was written into: %v, %v", before, s, costs)
		}
		checkSched(t, s)
		if !equalSched(s, before) || !schedHasRoom(s) {
			t.Fatalf("%v was written into: %v", before, s)
		}
	}
}

// checkOwnSched writes into each list of s, and into the room behind it, to see whether two share memory.
func checkOwnSched(t *testing.T, s impl.Sched) {
	t.Helper()
	for i, x := range s.Tasks {
		overwrite(x.Costs, 1000+i)
	}
	for i, x := range s.Tasks {
		if !slices.Equal(x.Costs, same(len(x.Costs), 1000+i)) {
			t.Fatalf("the Costs of %d in %v were written into through others", x.Id, s)
		}
	}
}

// No two lists of one schedule that is answered share memory, though those of the argument all do.
func TestListsOfASchedAreItsOwn(t *testing.T) {
	costs := []int{1, 2, 3, 4}
	s := sched(5, task(1, 90, 0, costs...), task(2, 80, 0, costs[:2]...), task(5, 70, 0, costs[1:]...), task(6, 4, 0, costs...))
	bad := s
	bad.Run = 9
	for _, s := range []impl.Sched{s, running(s, 2, 1), bad, {Now: -1, Tasks: s.Tasks}} {
		for _, due := range []int{-1, 6, 100} {
			got, _, _ := impl.Admit(s, costs, due)
			checkOwnSched(t, got)
			free, _ := impl.CancelTask(s, 6)
			got, _, _ = impl.Admit(free, costs, due)
			checkOwnSched(t, got)
			checkOwnSched(t, free)
		}
		for _, stalled := range []bool{false, true} {
			got, _, _ := impl.TickSched(s, stalled)
			checkOwnSched(t, got)
		}
		none, _ := impl.CancelTask(s, 77)
		checkOwnSched(t, none)
	}
	if !slices.Equal(costs, []int{1, 2, 3, 4}) {
		t.Errorf("the costs of the argument were written into: %v", costs)
	}
}

func TestPlaySchedSharesNothing(t *testing.T) {
	op := roomy([]int{0, 500, 3, 4})
	ops := append([][]int{op, op, {2, 0}, op, {1, 2}, {5, 5}, {2, 1}}, op, nil)[:8]
	before := [][]int{{0, 500, 3, 4}, {0, 500, 3, 4}, {2, 0}, {0, 500, 3, 4}, {1, 2}, {5, 5}, {2, 1}, {0, 500, 3, 4}}
	s, told := impl.PlaySched(1, 2, ops)
	if !slices.Equal(told, []int{1, 2, 0, 3, 1, -9, 0, 4}) {
		t.Errorf("told %v", told)
	}
	checkOwnSched(t, s)
	overwriteSched(s)
	overwrite(told, 1006)
	if !slices.EqualFunc(ops, before, slices.Equal) || !hasRoom(op) || ops[:9][8] != nil {
		t.Errorf("the ops were written into: %v", ops)
	}
	for _, n := range []int{0, 301} {
		s, told := impl.PlaySched(0, 0, slices.Repeat([][]int{op}, n))
		overwriteSched(s)
		overwrite(told, 1007)
	}
	if !hasRoom(op) || !slices.Equal(op, before[0]) {
		t.Errorf("an op was written into: %v", op)
	}
}
