package tests

import (
	"math"
	"slices"
	"testing"

	"loop.example/g00778/impl"
)

// batches are numbers of tensors, right and not.
var batches = []int{math.MinInt, math.MinInt + 1, -1 << 32, -9, -8, -2, -1, 0, 1, 2, 3, 4, 5, 6, 7, 8, 9, 10, 16, 300, 1 << 32, 1<<32 + 1, math.MaxInt - 1, math.MaxInt}

// row is a tensor that may be joined.
func row(numbers ...int) impl.Tensor { return tensor(1, 1, len(numbers), numbers...) }

// rows are n tensors of c numbers each, no two of them alike.
func rows(n, c int) []impl.Tensor {
	var list []impl.Tensor
	for i := range n {
		x := row(spread(c, -128, 127)...)
		x.Data[0] = i*3 - 100
		list = append(list, x)
	}
	return list
}

// cloneAll copies tensors for themselves.
func cloneAll(list []impl.Tensor) []impl.Tensor {
	var all []impl.Tensor
	for _, x := range list {
		all = append(all, clone(x))
	}
	return all
}

func equalAll(a, b []impl.Tensor) bool { return slices.EqualFunc(a, b, equal) }

// putAt is list with x at that place instead of what stands there.
func putAt[T any](list []T, place int, x T) []T {
	list = slices.Clone(list)
	list[place] = x
	return list
}

func wantJoined(list []impl.Tensor) (impl.Tensor, bool) {
	var numbers []int
	for _, x := range list {
		if !wantTensorOk(x) || x.Shape.H != 1 || x.Shape.W != 1 || x.Shape.C != list[0].Shape.C {
			return impl.Tensor{}, false
		}
		numbers = append(numbers, x.Data...)
	}
	if !in(len(list), 1, 8) {
		return impl.Tensor{}, false
	}
	return tensor(len(list), 1, list[0].Shape.C, numbers...), true
}

// wantRows takes each row number by number.
func wantRows(x impl.Tensor) ([]impl.Tensor, bool) {
	if !wantTensorOk(x) || x.Shape.W != 1 {
		return nil, false
	}
	var list []impl.Tensor
	for h := range x.Shape.H {
		one := row()
		for c := range x.Shape.C {
			one.Data = append(one.Data, x.Data[h*x.Shape.C+c])
		}
		one.Shape.C = x.Shape.C
		list = append(list, one)
	}
	return list, true
}

func wantOuts(m impl.Model, list []impl.Tensor) ([]impl.Tensor, bool) {
	shapes, _ := wantWalk(m)
	if shapes == nil || !in(len(list), 1, 8) {
		return nil, false
	}
	var outs []impl.Tensor
	for _, x := range list {
		if !wantTensorOk(x) || x.Shape != m.In {
			return nil, false
		}
		outs = append(outs, wantEval(m, x))
	}
	return outs, true
}

// wantBatchCost counts tensor by tensor.
func wantBatchCost(m impl.Model, n int) int {
	_, costs := wantWalk(m)
	if len(costs) == 0 || !in(n, 0, 8) {
		return -1
	}
	whole, sum := total(costs), 0
	for i := range n {
		if i == 0 {
			sum += whole
		} else {
			sum += (whole - whole%2) / 2
		}
	}
	return sum
}

func wantSaved(m impl.Model, sizes []int) int {
	_, costs := wantWalk(m)
	sum := 0
	for _, size := range sizes {
		cost := wantBatchCost(m, size)
		if cost == -1 {
			return -1
		}
		sum += total(costs)*size - cost
	}
	if len(sizes) > 300 {
		return -1
	}
	return sum
}

func wantSameOuts(a, b []impl.Tensor) bool {
	if len(a) != len(b) {
		return false
	}
	for i, x := range a {
		if !wantTensorOk(x) || !equal(x, b[i]) {
			return false
		}
	}
	return true
}

// checkJoined holds JoinBatch against the chapter, and whether the list is joined.
func checkJoined(t *testing.T, list []impl.Tensor) bool {
	t.Helper()
	want, ok := wantJoined(list)
	got, is := impl.JoinBatch(list)
	if is != ok || !equal(got, want) || impl.TensorOk(got) != ok {
		t.Fatalf("JoinBatch(%v) = %v, %t, not %v, %t", list, got, is, want, ok)
	}
	if !ok && !isZero(got) {
		t.Fatalf("JoinBatch(%v) = %v and false", list, got)
	}
	return ok
}

func checkRows(t *testing.T, x impl.Tensor) bool {
	t.Helper()
	want, ok := wantRows(x)
	got, is := impl.SplitBatch(x)
	if is != ok || !equalAll(got, want) {
		t.Fatalf("SplitBatch(%v) = %v, %t, not %v, %t", x, got, is, want, ok)
	}
	return ok
}

func checkOuts(t *testing.T, m impl.Model, list []impl.Tensor) bool {
	t.Helper()
	want, ok := wantOuts(m, list)
	got, is := impl.EvalBatch(m, list)
	if is != ok || !equalAll(got, want) {
		t.Fatalf("EvalBatch(%v, %v) = %v, %t, not %v, %t", m, list, got, is, want, ok)
	}
	return ok
}

func checkBatchCosts(t *testing.T, m impl.Model) {
	t.Helper()
	for _, n := range batches {
		if got := impl.BatchCost(m, n); got != wantBatchCost(m, n) {
			t.Fatalf("BatchCost(%v, %d) = %d, not %d", m, n, got, wantBatchCost(m, n))
		}
	}
}

func checkSaved(t *testing.T, m impl.Model, sizes []int) int {
	t.Helper()
	want := wantSaved(m, sizes)
	if got := impl.SavedBy(m, sizes); got != want {
		t.Fatalf("SavedBy(%v, %v) = %d, not %d", m, sizes, got, want)
	}
	return want
}

func TestMaxBatch(t *testing.T) {
	if impl.MaxBatch != 8 {
		t.Error("the limit is another")
	}
}

func TestJoinBatch(t *testing.T) {
	for _, c := range []struct {
		list []impl.Tensor
		want string
	}{
		{nil, ""}, {[]impl.Tensor{}, ""},
		{[]impl.Tensor{row(5)}, "1x1x1: 5"}, {[]impl.Tensor{row(1, -2, 3)}, "1x1x3: 1 -2 3"}, {[]impl.Tensor{row(1, 2), row(3, 4)}, "2x1x2: 1 2 3 4"}, {[]impl.Tensor{row(3, 4), row(1, 2)}, "2x1x2: 3 4 1 2"},
		{[]impl.Tensor{row(-128), row(127), row(0)}, "3x1x1: -128 127 0"}, {[]impl.Tensor{row(7, 8), row(7, 8), row(7, 8)}, "3x1x2: 7 8 7 8 7 8"},
		{[]impl.Tensor{row(1), row(2), row(3), row(4), row(5), row(6), row(7), row(8)}, "8x1x1: 1 2 3 4 5 6 7 8"},
		{[]impl.Tensor{row(1), row(2), row(3), row(4), row(5), row(6), row(7), row(8), row(9)}, ""},
		{[]impl.Tensor{row(1, 2, 3, 4, 5, 6, 7, 8), row(-1, -2, -3, -4, -5, -6, -7, -8)}, "2x1x8: 1 2 3 4 5 6 7 8 -1 -2 -3 -4 -5 -6 -7 -8"},
		// An H or a W that is not 1, in one or in all of them.
		{[]impl.Tensor{tensor(2, 1, 1, 1, 2)}, ""}, {[]impl.Tensor{tensor(1, 2, 1, 1, 2)}, ""}, {[]impl.Tensor{tensor(2, 2, 1, 1, 2, 3, 4)}, ""}, {[]impl.Tensor{tensor(2, 1, 1, 1, 2), tensor(2, 1, 1, 1, 2)}, ""},
		{[]impl.Tensor{tensor(1, 2, 1, 1, 2), tensor(1, 2, 1, 1, 2)}, ""}, {[]impl.Tensor{row(1), tensor(2, 1, 1, 1, 2)}, ""}, {[]impl.Tensor{tensor(2, 1, 1, 1, 2), row(1)}, ""}, {[]impl.Tensor{row(1), tensor(1, 2, 1, 1, 2)}, ""}, {[]impl.Tensor{tensor(1, 2, 1, 1, 2), row(1)}, ""},
		// As many numbers, but another Shape; and another C.
		{[]impl.Tensor{row(1, 2), tensor(1, 2, 1, 1, 2)}, ""}, {[]impl.Tensor{row(1, 2), tensor(2, 1, 1, 1, 2)}, ""}, {[]impl.Tensor{row(1, 2), row(1)}, ""}, {[]impl.Tensor{row(1), row(1, 2)}, ""}, {[]impl.Tensor{row(1), row(1, 2), row(1)}, ""}, {[]impl.Tensor{row(1, 2), row(1, 2), row(1, 2, 3)}, ""},
		// One that is not TensorOk.
		{[]impl.Tensor{row(128)}, ""}, {[]impl.Tensor{row(1), row(-129)}, ""}, {[]impl.Tensor{tensor(1, 1, 2, 1)}, ""}, {[]impl.Tensor{row(1, 2), tensor(1, 1, 2, 1, 2, 3)}, ""}, {[]impl.Tensor{row(1, 2), tensor(1, 1, 2, 1)}, ""}, {[]impl.Tensor{{}}, ""}, {[]impl.Tensor{row()}, ""},
		{[]impl.Tensor{row(1, 2, 3, 4, 5, 6, 7, 8, 9)}, ""}, {[]impl.Tensor{tensor(1, 1, -1), tensor(1, 1, -1)}, ""},
		// As many numbers in all as the joined one has room for.
		{[]impl.Tensor{tensor(1, 1, 2, 1), tensor(1, 1, 2, 1, 2, 3)}, ""}, {[]impl.Tensor{tensor(1, 1, 2, 1, 2, 3), tensor(1, 1, 2, 1)}, ""},
	} {
		got, ok := impl.JoinBatch(c.list)
		if ok != (c.want != "") || impl.TensorText(got) != c.want || !ok && !isZero(got) {
			t.Errorf("JoinBatch(%v) = %v, %t, not %q", c.list, got, ok, c.want)
		}
		checkJoined(t, c.list)
	}
}

func TestJoinBatchOfEachNumber(t *testing.T) {
	for n := range 12 {
		for c := 1; c <= 8; c++ {
			if checkJoined(t, rows(n, c)) != (n >= 1 && n <= 8) {
				t.Errorf("%d tensors of %d numbers are joined or are not", n, c)
			}
		}
	}
	for _, n := range []int{20, 300, 301, 1000} {
		if checkJoined(t, slices.Repeat(rows(1, 2), n)) {
			t.Errorf("%d tensors are joined", n)
		}
	}
}

// strangers are tensors that can't be joined with others of c numbers.
func strangers(c int) []impl.Tensor {
	list := []impl.Tensor{some(shape(2, 1, c)), some(shape(1, 2, c)), some(shape(8, 1, c)), some(shape(1, 8, c)), some(shape(2, 2, c)), some(shape(1, c%7+2, c)), some(shape(c%7+2, 1, c)), some(shape(8, 8, 8))}
	for other := 1; other <= 8; other++ {
		if other != c {
			list = append(list, row(spread(other, -128, 127)...), some(shape(c, 1, other)), some(shape(1, c, other)))
		}
	}
	return append(list, badTensors()...)
}

func TestJoinBatchWithOneStranger(t *testing.T) {
	for n := 1; n <= 9; n++ {
		for _, c := range []int{1, 2, 5, 8} {
			for _, x := range strangers(c) {
				for _, place := range []int{0, n / 2, n - 1} {
					list := putAt(rows(n, c), place, x)
					if checkJoined(t, list) && n > 1 {
						t.Fatalf("JoinBatch(%v) is true", list)
					}
				}
			}
		}
	}
}

// All of them alike, but not to be joined.
func TestJoinBatchOfWrongShapes(t *testing.T) {
	eachShape(func(s impl.Shape) {
		for _, n := range []int{1, 2, 8} {
			list := slices.Repeat([]impl.Tensor{some(s)}, n)
			if checkJoined(t, list) != (s.H == 1 && s.W == 1) {
				t.Fatalf("%d tensors of %v are joined or are not", n, s)
			}
		}
	})
	for _, x := range badTensors() {
		for _, n := range []int{1, 2, 8} {
			if checkJoined(t, slices.Repeat([]impl.Tensor{x}, n)) {
				t.Fatalf("%v is joined", x)
			}
		}
	}
}

func TestSplitBatch(t *testing.T) {
	for _, c := range []struct {
		x    impl.Tensor
		want []impl.Tensor
	}{
		{row(5), []impl.Tensor{row(5)}}, {row(1, -2, 3), []impl.Tensor{row(1, -2, 3)}}, {tensor(2, 1, 2, 1, 2, 3, 4), []impl.Tensor{row(1, 2), row(3, 4)}}, {tensor(3, 1, 1, -128, 127, 0), []impl.Tensor{row(-128), row(127), row(0)}},
		{tensor(2, 1, 3, 1, 2, 3, 4, 5, 6), []impl.Tensor{row(1, 2, 3), row(4, 5, 6)}}, {tensor(3, 1, 2, 1, 2, 3, 4, 5, 6), []impl.Tensor{row(1, 2), row(3, 4), row(5, 6)}},
		{tensor(8, 1, 1, 1, 2, 3, 4, 5, 6, 7, 8), []impl.Tensor{row(1), row(2), row(3), row(4), row(5), row(6), row(7), row(8)}},
		{tensor(1, 2, 1, 1, 2), nil}, {tensor(2, 2, 1, 1, 2, 3, 4), nil}, {tensor(1, 8, 1, 1, 2, 3, 4, 5, 6, 7, 8), nil}, {tensor(1, 0, 1), nil}, {tensor(1, -1, 1, 1), nil},
		{impl.Tensor{}, nil}, {tensor(0, 1, 1), nil}, {tensor(-1, 1, 1, 1), nil}, {tensor(-1, 1, -1, 1), nil}, {tensor(9, 1, 1, 1, 2, 3, 4, 5, 6, 7, 8, 9), nil}, {tensor(2, 1, 0), nil}, {tensor(2, 1, 2, 1, 2, 3), nil}, {tensor(2, 1, 2, 1, 2, 3, 4, 5), nil}, {tensor(2, 1, 1, 1, 128), nil}, {tensor(2, 1, 1, -129, 1), nil},
	} {
		got, ok := impl.SplitBatch(c.x)
		if ok != (c.want != nil) || !equalAll(got, c.want) {
			t.Errorf("SplitBatch(%v) = %v, %t, not %v", c.x, got, ok, c.want)
		}
		checkRows(t, c.x)
	}
}

func TestSplitBatchOfEachShape(t *testing.T) {
	for _, x := range goodTensors() {
		if checkRows(t, x) != (x.Shape.W == 1) {
			t.Errorf("%v is split or is not", x)
		}
	}
	for _, x := range badTensors() {
		if checkRows(t, x) {
			t.Errorf("%v is split", x)
		}
	}
	for _, h := range []int{math.MinInt, -8, 0, 9, 10, 16, 300, 1<<32 + 1, math.MaxInt} {
		for _, n := range []int{0, 1, 8, 9, 16, 300} {
			if checkRows(t, tensor(h, 1, 1, spread(n, -128, 127)...)) {
				t.Errorf("%d numbers in %d rows are split", n, h)
			}
		}
	}
}

// What is split may be joined again, whoever made it.
func TestSplitIsJoinedAgain(t *testing.T) {
	for _, x := range goodTensors() {
		list, ok := impl.SplitBatch(x)
		again, is := impl.JoinBatch(list)
		if ok != is || ok && !equal(again, x) {
			t.Fatalf("%v is split, %t, and joined to %v, %t", x, ok, again, is)
		}
	}
}

// inputs are n tensors for m, no two of them alike where there is room for that.
func inputs(m impl.Model, n int) []impl.Tensor {
	var list []impl.Tensor
	for i := range n {
		x := some(m.In)
		x.Data[0], x.Data[len(x.Data)-1] = i*17-128, 127-i*23
		list = append(list, x)
	}
	return list
}

func TestEvalBatch(t *testing.T) {
	m := model(shape(2, 2, 1), relu(0), pool(2, 2, 1))
	three := []impl.Tensor{small(-1, 2, 3, -4), small(-5, -6, -7, -8), small(9, 8, 127, 1)}
	outs, ok := impl.EvalBatch(m, three)
	if !ok || !equalAll(outs, []impl.Tensor{row(3), row(0), row(127)}) {
		t.Errorf("EvalBatch = %v, %t", outs, ok)
	}
	for n := range 12 {
		outs, ok := impl.EvalBatch(m, inputs(m, n))
		if ok != (n >= 1 && n <= 8) || ok && len(outs) != n || !ok && len(outs) != 0 {
			t.Errorf("EvalBatch of %d = %v, %t", n, outs, ok)
		}
	}
	if outs, ok := impl.EvalBatch(m, nil); ok || len(outs) != 0 {
		t.Errorf("EvalBatch of none = %v, %t", outs, ok)
	}
	if outs, ok := impl.EvalBatch(impl.Model{}, three); ok || len(outs) != 0 {
		t.Errorf("EvalBatch of no model = %v, %t", outs, ok)
	}
}

func TestEvalBatchOfGoodModels(t *testing.T) {
	for i, m := range append(goodModels(), longModels()...) {
		for _, n := range []int{0, 1, 2 + i%6, 8, 9} {
			if checkOuts(t, m, inputs(m, n)) != (n >= 1 && n <= 8) {
				t.Fatalf("%d inputs of %v are run or are not", n, m)
			}
		}
	}
}

func TestEvalBatchWithOneRefused(t *testing.T) {
	for _, m := range goodModels()[:9] {
		wrong := append(badTensors(), impl.Tensor{Shape: m.In}, impl.Tensor{Shape: m.In, Data: make([]int, impl.SizeOf(m.In)+1)})
		for _, s := range []impl.Shape{shape(m.In.H%8+1, m.In.W, m.In.C), shape(m.In.H, m.In.W%8+1, m.In.C), shape(m.In.H, m.In.W, m.In.C%8+1), shape(5, 5, 5)} {
			wrong = append(wrong, some(s))
		}
		for _, x := range wrong {
			for _, n := range []int{1, 3, 8} {
				for _, place := range []int{0, n / 2, n - 1} {
					if checkOuts(t, m, putAt(inputs(m, n), place, x)) {
						t.Fatalf("%v at %d of %d is run", x, place, n)
					}
				}
			}
		}
	}
	m := goodModels()[0]
	for n := 1; n <= 8; n++ {
		for place := range n {
			if checkOuts(t, m, putAt(inputs(m, n), place, some(shape(1, 1, 1)))) {
				t.Fatalf("one at %d of %d is no input, and they are run", place, n)
			}
		}
	}
}

func TestEvalBatchOfBadModels(t *testing.T) {
	for _, m := range badModels() {
		x := some(shape(1, 1, 1))
		if impl.ShapeOk(m.In) {
			x = some(m.In)
		}
		for _, n := range []int{0, 1, 8, 9} {
			if checkOuts(t, m, slices.Repeat([]impl.Tensor{x}, n)) {
				t.Fatalf("%v runs", m)
			}
		}
	}
}

func TestBatchCost(t *testing.T) {
	for _, c := range []struct {
		m    impl.Model
		want []int // of -1 tensors, of 0 and so on
	}{
		{model(shape(1, 1, 1), relus(1)...), []int{-1, 0, 1, 1, 1, 1, 1, 1, 1, 1, -1}}, {model(shape(1, 1, 1), relus(2)...), []int{-1, 0, 2, 3, 4, 5, 6, 7, 8, 9, -1}},
		{model(shape(1, 1, 1), relus(3)...), []int{-1, 0, 3, 4, 5, 6, 7, 8, 9, 10, -1}}, {model(shape(1, 1, 1), relus(4)...), []int{-1, 0, 4, 6, 8, 10, 12, 14, 16, 18, -1}},
		{model(shape(8, 8, 1), relu(0)), []int{-1, 0, 5, 7, 9, 11, 13, 15, 17, 19, -1}}, {model(shape(8, 8, 8), relus(2)...), []int{-1, 0, 66, 99, 132, 165, 198, 231, 264, 297, -1}}, {model(shape(8, 8, 8), relu(0), relu(0), relu(0)), []int{-1, 0, 99, 148, 197, 246, 295, 344, 393, 442, -1}},
		{impl.Model{}, same(11, -1)}, {model(shape(1, 1, 1)), same(11, -1)}, {model(shape(1, 1, 1), relus(7)...), same(11, -1)}, {model(shape(9, 1, 1), relu(0)), same(11, -1)}, {model(shape(1, 1, 1), relu(128)), same(11, -1)},
	} {
		for i, want := range c.want {
			if got := impl.BatchCost(c.m, i-1); got != want {
				t.Errorf("BatchCost(%v, %d) = %d, not %d", c.m, i-1, got, want)
			}
		}
		checkBatchCosts(t, c.m)
	}
}

func TestBatchCostOfModels(t *testing.T) {
	odd, even := 0, 0
	for _, m := range append(goodModels(), longModels()...) {
		checkBatchCosts(t, m)
		odd, even = odd+impl.TotalCost(m)%2, even+1-impl.TotalCost(m)%2
		if impl.BatchCost(m, 0) != 0 || impl.BatchCost(m, 1) != impl.TotalCost(m) {
			t.Errorf("%v: %d for none, %d for one", m, impl.BatchCost(m, 0), impl.BatchCost(m, 1))
		}
	}
	if odd < 50 || even < 50 {
		t.Errorf("%d costs are odd, %d even", odd, even)
	}
	for _, m := range badModels() {
		checkBatchCosts(t, m)
		if impl.BatchCost(m, 0) != -1 || impl.BatchCost(m, 1) != -1 {
			t.Errorf("%v: %d for none, %d for one", m, impl.BatchCost(m, 0), impl.BatchCost(m, 1))
		}
	}
}

func TestSavedBy(t *testing.T) {
	one, two, three := model(shape(1, 1, 1), relus(1)...), model(shape(1, 1, 1), relus(2)...), model(shape(1, 1, 1), relus(3)...)
	for _, c := range []struct {
		m     impl.Model
		sizes []int
		want  int
	}{
		{two, nil, 0}, {two, []int{}, 0}, {two, []int{0}, 0}, {two, []int{1}, 0}, {two, []int{2}, 1}, {two, []int{3}, 2}, {two, []int{8}, 7}, {two, []int{3, 1}, 2}, {two, []int{1, 3, 0, 8, 8}, 16}, {two, same(300, 8), 2100}, {two, same(300, 0), 0}, {two, same(300, 1), 0}, {two, same(299, 2, 8), 306},
		{one, []int{1}, 0}, {one, []int{2}, 1}, {one, []int{8}, 7}, {three, []int{2}, 2}, {three, []int{8, 2}, 16}, {three, []int{0, 0, 8}, 14}, {model(shape(8, 8, 8), relus(2)...), []int{8}, 231}, {model(shape(8, 8, 8), relu(0), relu(0), relu(0)), []int{8}, 350},
		{two, []int{-1}, -1}, {two, []int{9}, -1}, {two, []int{8, 9}, -1}, {two, []int{9, 8}, -1}, {two, []int{1, -1, 1}, -1}, {two, []int{9, -9}, -1}, {two, same(301, 8), -1}, {two, same(301, 0), -1}, {two, same(300, 8, -1), -1}, {two, same(299, 8, -1), -1}, {two, same(1000, 1), -1},
		{two, []int{math.MinInt}, -1}, {two, []int{math.MaxInt}, -1}, {two, []int{math.MaxInt, math.MinInt}, -1}, {two, []int{1 << 32}, -1},
		{impl.Model{}, nil, 0}, {impl.Model{}, []int{}, 0}, {impl.Model{}, []int{0}, -1}, {impl.Model{}, []int{1}, -1}, {impl.Model{}, same(300, 0), -1}, {impl.Model{}, same(301, 0), -1}, {model(shape(1, 1, 1), relus(7)...), []int{0, 0}, -1}, {model(shape(1, 1, 1), relus(7)...), nil, 0},
	} {
		if got := checkSaved(t, c.m, c.sizes); got != c.want {
			t.Errorf("SavedBy(%v, %v) = %d, not %d", c.m, c.sizes, got, c.want)
		}
	}
}

func TestSavedByWithOneSize(t *testing.T) {
	for _, m := range []impl.Model{goodModels()[0], goodModels()[3], model(shape(1, 1, 1), relu(0))} {
		for _, size := range batches {
			for _, n := range []int{1, 2, 5, 299, 300, 301} {
				for _, place := range []int{0, n / 2, n - 1} {
					got := checkSaved(t, m, putAt(spread(n, 0, 8), place, size))
					if (got != -1) != (size >= 0 && size <= 8 && n <= 300) {
						t.Fatalf("%d at %d of %d sizes: %d", size, place, n, got)
					}
				}
			}
		}
	}
}

func TestSavedByOfModels(t *testing.T) {
	next := draws(131)
	for _, m := range append(goodModels(), longModels()...) {
		sizes := spread(next(301), 0, 8)
		if got := checkSaved(t, m, sizes); got < 0 {
			t.Fatalf("SavedBy(%v, %v) = %d", m, sizes, got)
		}
	}
	for _, m := range badModels() {
		if checkSaved(t, m, nil) != 0 || checkSaved(t, m, []int{0}) != -1 || checkSaved(t, m, spread(5, 0, 8)) != -1 || checkSaved(t, m, same(301, 0)) != -1 {
			t.Fatalf("SavedBy of %v", m)
		}
	}
}

func TestSameOutputs(t *testing.T) {
	for _, c := range []struct {
		a, b []impl.Tensor
		want bool
	}{
		{nil, nil, true}, {[]impl.Tensor{}, nil, true}, {nil, []impl.Tensor{}, true}, {nil, []impl.Tensor{row(1)}, false}, {[]impl.Tensor{row(1)}, nil, false}, {[]impl.Tensor{{}}, nil, false}, {nil, []impl.Tensor{{}}, false},
		{[]impl.Tensor{row(1)}, []impl.Tensor{row(1)}, true}, {[]impl.Tensor{row(1)}, []impl.Tensor{row(2)}, false}, {[]impl.Tensor{row(1, 2)}, []impl.Tensor{row(1, 2)}, true}, {[]impl.Tensor{row(1, 2)}, []impl.Tensor{row(2, 1)}, false}, {[]impl.Tensor{row(1, 2)}, []impl.Tensor{row(1)}, false},
		{[]impl.Tensor{row(1), row(2)}, []impl.Tensor{row(1), row(2)}, true}, {[]impl.Tensor{row(1), row(2)}, []impl.Tensor{row(2), row(1)}, false}, {[]impl.Tensor{row(1), row(2)}, []impl.Tensor{row(1)}, false}, {[]impl.Tensor{row(1)}, []impl.Tensor{row(1), row(2)}, false}, {[]impl.Tensor{row(1), row(2)}, []impl.Tensor{row(2)}, false}, {[]impl.Tensor{row(1), row(1)}, []impl.Tensor{row(1)}, false},
		// One Shape that differs, with the same numbers.
		{[]impl.Tensor{row(1, 2)}, []impl.Tensor{tensor(2, 1, 1, 1, 2)}, false}, {[]impl.Tensor{row(1, 2)}, []impl.Tensor{tensor(1, 2, 1, 1, 2)}, false}, {[]impl.Tensor{tensor(1, 2, 1, 1, 2)}, []impl.Tensor{tensor(2, 1, 1, 1, 2)}, false}, {[]impl.Tensor{row(1, 2), row(1, 2)}, []impl.Tensor{row(1, 2), tensor(2, 1, 1, 1, 2)}, false},
		{[]impl.Tensor{row(1), tensor(2, 1, 2, 1, 2, 3, 4)}, []impl.Tensor{row(1), tensor(2, 1, 2, 1, 2, 3, 4)}, true},
		// What is not TensorOk is the same as nothing.
		{[]impl.Tensor{{}}, []impl.Tensor{{}}, false}, {[]impl.Tensor{row(128)}, []impl.Tensor{row(128)}, false}, {[]impl.Tensor{row(1), row(-129)}, []impl.Tensor{row(1), row(-129)}, false}, {[]impl.Tensor{tensor(1, 1, 2, 1)}, []impl.Tensor{tensor(1, 1, 2, 1)}, false},
	} {
		if got := impl.SameOutputs(c.a, c.b); got != c.want || wantSameOuts(c.a, c.b) != c.want {
			t.Errorf("SameOutputs(%v, %v) = %t", c.a, c.b, got)
		}
	}
}

// There is no limit to how many outputs there are.
func TestSameOutputsOfMany(t *testing.T) {
	good := goodTensors()
	if len(good) < 301 || !impl.SameOutputs(good, cloneAll(good)) || impl.SameOutputs(good, good[1:]) || impl.SameOutputs(good[:300], good) || impl.SameOutputs(append(good[1:], good[0]), good) {
		t.Errorf("SameOutputs of %d", len(good))
	}
	all := append(badTensors(), good[:60]...)
	for i, a := range all {
		for j, b := range all {
			list, other := []impl.Tensor{row(1), a, row(2)}, []impl.Tensor{row(1), b, row(2)}
			if got := impl.SameOutputs(list, other); got != wantSameOuts(list, other) {
				t.Fatalf("SameOutputs(%v, %v) = %t, at %d and %d", list, other, got, i, j)
			}
		}
	}
}

func TestSameOutputsWithOneNumber(t *testing.T) {
	list := []impl.Tensor{row(1, 2, 3), some(shape(2, 3, 2)), row(-128), some(shape(8, 1, 8))}
	for place, x := range list {
		for i := range x.Data {
			for _, number := range []int{-128, -1, 0, 127, 128, math.MaxInt, x.Data[i] - 256, x.Data[i] + 1<<32} {
				other := cloneAll(list)
				other[place].Data[i] = number
				if got := impl.SameOutputs(list, other); got != (number == x.Data[i]) || impl.SameOutputs(other, list) != got {
					t.Fatalf("SameOutputs with %d for %d at %d of %d: %t", number, x.Data[i], i, place, got)
				}
			}
		}
	}
}

// Promise 16: what is joined is split again to the same.
func TestABatchThatIsJoinedIsSplitAgain(t *testing.T) {
	next := draws(132)
	for range 3000 {
		list := drawRows(next)
		joined, ok := impl.JoinBatch(list)
		parts, is := impl.SplitBatch(joined)
		if !ok || !is || !impl.SameOutputs(parts, list) || !equalAll(parts, list) {
			t.Fatalf("%v is joined to %v, %t, and split to %v, %t", list, joined, ok, parts, is)
		}
		if joined.Shape != shape(len(list), 1, list[0].Shape.C) {
			t.Fatalf("%v is joined to %v", list, joined)
		}
	}
}

// drawRows may be joined.
func drawRows(next func(n int) int) []impl.Tensor {
	n, c := 1+next(8), 1+next(8)
	var list []impl.Tensor
	for range n {
		x := row(make([]int, c)...)
		for i := range x.Data {
			x.Data[i] = []int{-128, 127, next(256) - 128}[next(3)]
		}
		list = append(list, x)
	}
	return list
}

// drawBatch is a right model, and what may be run by it.
func drawBatch(next func(n int) int) (impl.Model, []impl.Tensor) {
	m := drawModel(next)
	if len(m.Layers) == 0 {
		m.Layers = []impl.Layer{relu(next(256) - 128)}
	}
	var list []impl.Tensor
	for range 1 + next(8) {
		x := some(m.In)
		for i := range x.Data {
			x.Data[i] = next(256) - 128
		}
		list = append(list, x)
	}
	return m, list
}

// Promise 16: a batch gives what each would give alone.
func TestABatchGivesWhatEachWouldGiveAlone(t *testing.T) {
	next := draws(133)
	for range 1500 {
		m, list := drawBatch(next)
		if !checkOuts(t, m, list) {
			t.Fatalf("EvalBatch(%v, %v) is false", m, list)
		}
		var alone []impl.Tensor
		for _, x := range list {
			out, _ := impl.EvalModel(m, x)
			alone = append(alone, out)
		}
		outs, _ := impl.EvalBatch(m, list)
		if !impl.SameOutputs(outs, alone) || !impl.SameOutputs(alone, outs) {
			t.Fatalf("EvalBatch(%v, %v) = %v, not %v", m, list, outs, alone)
		}
		checkBatchCosts(t, m)
	}
}

// Promise 16: also what was joined and split gives that.
func TestAJoinedBatchGivesWhatEachWouldGiveAlone(t *testing.T) {
	next := draws(134)
	for range 1000 {
		list := drawRows(next)
		c := list[0].Shape.C
		m := model(shape(1, 1, c), relu(next(256)-128), dense(1+next(8), c, 1<<30, 4, next(256)-128))
		joined, _ := impl.JoinBatch(list)
		parts, _ := impl.SplitBatch(joined)
		outs, ok := impl.EvalBatch(m, parts)
		if !ok || len(outs) != len(list) {
			t.Fatalf("EvalBatch(%v, %v) = %v, %t", m, parts, outs, ok)
		}
		for i, x := range list {
			if !equal(outs[i], wantEval(m, x)) {
				t.Fatalf("%v gives %v in a batch, not %v", x, outs[i], wantEval(m, x))
			}
		}
		again, ok := impl.JoinBatch(outs)
		if want, is := wantJoined(outs); !ok || !is || !equal(again, want) {
			t.Fatalf("%v is joined to %v, %t", outs, again, ok)
		}
	}
}

// Drawn lists in which something may be wrong.
func TestDrawnBatches(t *testing.T) {
	next := draws(135)
	right, wrong := 0, 0
	for range 4000 {
		list := drawRows(next)
		all := strangers(list[0].Shape.C)
		switch next(4) {
		case 0:
			list = append(list, drawRows(next)...)
		case 1:
			list[next(len(list))] = all[next(len(all))]
		}
		m := model(shape(1, 1, list[0].Shape.C), relu(0), flat())
		if checkOuts(t, m, list) != checkJoined(t, list) {
			t.Fatalf("%v is joined, and not run by %v, or run alone", list, m)
		}
		if checkJoined(t, list) {
			right++
		} else {
			wrong++
		}
		checkRows(t, list[0])
	}
	if right < 1000 || wrong < 1000 {
		t.Errorf("%d are right, %d wrong", right, wrong)
	}
}

// roomyTensors are the tensors with room behind each list and behind them all.
func roomyTensors(list []impl.Tensor) []impl.Tensor {
	all := append(slices.Clone(list), row(77), row(78))[:len(list)]
	for i, x := range all {
		all[i].Data = roomy(x.Data)
	}
	return all
}

func tensorsHaveRoom(list []impl.Tensor) bool {
	for _, x := range list {
		if !hasRoom(x.Data) {
			return false
		}
	}
	return equalAll(list[:len(list)+2][len(list):], []impl.Tensor{row(77), row(78)})
}

func overwriteTensors(list []impl.Tensor) {
	for _, x := range list {
		overwrite(x.Data, 1000)
	}
	list = list[:cap(list)]
	for i := range list {
		list[i] = row(1001)
	}
}

func TestArgumentsOfBatchesAreLeft(t *testing.T) {
	next := draws(136)
	for i := range 600 {
		m, before := drawBatch(next)
		if i%2 == 0 {
			before = drawRows(next)
			m = model(before[0].Shape, relu(3), flat())
		}
		if i%5 == 0 {
			before = append(before, badTensors()[i%50])
		}
		held, list := roomyModel(m), roomyTensors(before)
		sizes := roomy(spread(i%302, 0, 8))
		joined, _ := impl.JoinBatch(list)
		outs, _ := impl.EvalBatch(held, list)
		parts, _ := impl.SplitBatch(list[0])
		impl.SameOutputs(list, list)
		impl.BatchCost(held, len(list))
		impl.SavedBy(held, sizes)
		overwrite(joined.Data, 1000)
		overwriteTensors(outs)
		overwriteTensors(parts)
		if !equalAll(list, before) || !tensorsHaveRoom(list) || !impl.SameModel(held, m) || !modelHasRoom(held) || !slices.Equal(sizes, spread(i%302, 0, 8)) || !hasRoom(sizes) {
			t.Fatalf("%v or %v was written into: %v, %v", m, before, held, list)
		}
	}
}

// Each list of an answer is its own, also where the argument has one list several times.
func TestListsOfABatchAreTheirOwn(t *testing.T) {
	for i, m := range append(goodModels(), longModels()...) {
		shared := slices.Repeat(inputs(m, 1), 1+i%8)
		outs, ok := impl.EvalBatch(m, shared)
		for place, x := range outs {
			if !ok || !equal(x, wantEval(m, shared[0])) {
				t.Fatalf("output %d of %v shares memory with one ahead: %v, %t", place, m, x, ok)
			}
			overwrite(x.Data, 1000)
		}
	}
	for _, x := range goodTensors() {
		want, _ := wantRows(x)
		got, _ := impl.SplitBatch(x)
		for h, one := range got {
			if !equal(one, want[h]) {
				t.Fatalf("row %d of %v shares memory with one ahead: %v", h, x, one)
			}
			overwrite(one.Data, 1000)
		}
	}
}

// The same call gives the same answer each time, whatever was written into the one before.
func TestAnswersOfBatchesAreNew(t *testing.T) {
	next := draws(137)
	for range 300 {
		m, list := drawBatch(next)
		joinable := drawRows(next)
		for range 3 {
			checkOuts(t, m, list)
			checkJoined(t, joinable)
			checkBatchCosts(t, m)
			outs, _ := impl.EvalBatch(m, list)
			joined, _ := impl.JoinBatch(joinable)
			parts, _ := impl.SplitBatch(joined)
			overwrite(joined.Data, 1000)
			if !equalAll(parts, joinable) {
				t.Fatalf("SplitBatch shares memory with %v", joined)
			}
			overwriteTensors(outs)
			overwriteTensors(parts)
		}
	}
}
