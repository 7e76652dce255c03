package tests

import (
	"math"
	"math/big"
	"slices"
	"strings"
	"testing"

	"loop.example/g00778/impl"
)

// A fitted layer is one with a Shape that comes to it.
type fitted struct {
	s impl.Shape
	l impl.Layer
}

// fields are the names of a layer's numbers.
var fields = []string{"Kind", "Out", "Size", "Step", "Mult", "Shift", "Zero"}

func fieldOf(l *impl.Layer, name string) *int {
	return map[string]*int{"Kind": &l.Kind, "Out": &l.Out, "Size": &l.Size, "Step": &l.Step, "Mult": &l.Mult, "Shift": &l.Shift, "Zero": &l.Zero}[name]
}

func with(l impl.Layer, name string, x int) impl.Layer {
	*fieldOf(&l, name) = x
	return l
}

func cloneLayer(l impl.Layer) impl.Layer {
	l.Weights, l.Bias = slices.Clone(l.Weights), slices.Clone(l.Bias)
	return l
}

// spread are n numbers from least to most, all over.
func spread(n, least, most int) []int {
	var list []int
	for i := range n {
		list = append(list, least+(i*7919+i*i*31+n)%(most-least+1))
	}
	return list
}

func dense(out, items, mult, shift, zero int) impl.Layer {
	return impl.Layer{Kind: 0, Out: out, Mult: mult, Shift: shift, Zero: zero, Weights: spread(out*items, -128, 127), Bias: spread(out, -3000, 3000)}
}

func conv(out, size, step, channels, mult, shift, zero int) impl.Layer {
	return impl.Layer{Kind: 1, Out: out, Size: size, Step: step, Mult: mult, Shift: shift, Zero: zero,
		Weights: spread(out*size*size*channels, -128, 127), Bias: spread(out, -3000, 3000)}
}

func pool(kind, size, step int) impl.Layer {
	return impl.Layer{Kind: kind, Size: size, Step: step}
}

func relu(zero int) impl.Layer { return impl.Layer{Kind: 4, Zero: zero} }

// goodLayers are right for their Shapes: at least two of each kind.
func goodLayers() []fitted {
	const most, half = math.MaxInt32, 1 << 30
	return []fitted{
		{shape(1, 1, 1), dense(1, 1, most, 31, 127)}, {shape(2, 2, 2), dense(3, 8, half, 5, -128)}, {shape(8, 8, 1), dense(8, 64, most, 0, 0)}, {shape(1, 8, 8), dense(8, 64, 1, 0, -1)},
		{shape(1, 1, 1), conv(1, 1, 1, 1, most, 0, 0)}, {shape(4, 4, 2), conv(3, 3, 1, 2, half, 6, 5)}, {shape(8, 8, 8), conv(8, 3, 2, 8, most, 9, -7)}, {shape(3, 2, 1), conv(2, 2, 2, 1, half, 2, 127)}, {shape(3, 3, 8), conv(8, 3, 2, 8, 0, 31, -128)},
		{shape(1, 1, 1), pool(2, 1, 1)}, {shape(5, 4, 3), pool(2, 2, 2)}, {shape(3, 3, 1), pool(2, 3, 1)}, {shape(8, 8, 8), pool(2, 3, 2)},
		{shape(1, 1, 1), pool(3, 1, 2)}, {shape(4, 5, 3), pool(3, 2, 1)}, {shape(3, 8, 1), pool(3, 3, 2)}, {shape(8, 8, 8), pool(3, 1, 1)},
		{shape(1, 1, 1), relu(0)}, {shape(8, 8, 8), relu(-128)}, {shape(2, 3, 4), relu(127)},
		{shape(1, 1, 1), impl.Layer{Kind: 5}}, {shape(2, 2, 2), impl.Layer{Kind: 5}}, {shape(8, 1, 1), impl.Layer{Kind: 5}}, {shape(1, 7, 1), impl.Layer{Kind: 5}},
	}
}

func among(least, most int, numbers ...int) bool {
	return !slices.ContainsFunc(numbers, func(x int) bool { return x < least || x > most })
}

// wantShape is the chapter's table.
func wantShape(s impl.Shape, l impl.Layer) (impl.Shape, bool) {
	if !impl.ShapeOk(s) {
		return impl.Shape{}, false
	}
	size := s.H * s.W * s.C
	noFilter := l.Out == 0 && l.Mult == 0 && l.Shift == 0 && len(l.Weights) == 0 && len(l.Bias) == 0
	noWindow := l.Size == 0 && l.Step == 0
	filter := func(each int) bool {
		return among(1, 8, l.Out) && among(0, math.MaxInt32, l.Mult) && among(0, 31, l.Shift) && among(-128, 127, l.Zero) &&
			len(l.Weights) == l.Out*each && among(-128, 127, l.Weights...) && len(l.Bias) == l.Out && among(-1000000, 1000000, l.Bias...)
	}
	window := among(1, 3, l.Size) && l.Size <= s.H && l.Size <= s.W && among(1, 2, l.Step)
	then, ok := s, false
	switch l.Kind {
	case 0:
		then, ok = shape(1, 1, l.Out), noWindow && size <= 64 && filter(size)
	case 1:
		ok = window && filter(l.Size*l.Size*s.C) && len(l.Weights) <= 600
		then.C = l.Out
	case 2, 3:
		ok = window && noFilter && l.Zero == 0
	case 4:
		ok = noFilter && noWindow && among(-128, 127, l.Zero)
	case 5:
		then, ok = shape(1, 1, size), noFilter && noWindow && l.Zero == 0 && size <= 8
	}
	if !ok {
		return impl.Shape{}, false
	}
	if l.Kind >= 1 && l.Kind <= 3 {
		then.H, then.W = places(s.H, l), places(s.W, l)
	}
	return then, true
}

// places counts those at which the window can begin along a side.
func places(side int, l impl.Layer) int {
	n := 0
	for at := 0; at+l.Size <= side; at += l.Step {
		n++
	}
	return n
}

// wantRun is what a right layer gives, and how many products it makes on the way.
func wantRun(t impl.Tensor, l impl.Layer) ([]int, int) {
	s := t.Shape
	then, _ := wantShape(s, l)
	var list []int
	products := 0
	scaled := func(sum, o int) int {
		with := cut32(new(big.Int).Add(cut32(wideInt(sum)), wideInt(l.Bias[o])))
		return int(wantRequant(int(with.Int64()), l.Mult, l.Shift, l.Zero).Int64())
	}
	switch l.Kind {
	case 0:
		for o := range l.Out {
			sum := 0
			for i, x := range t.Data {
				sum += x * l.Weights[o*len(t.Data)+i]
				products++
			}
			list = append(list, scaled(sum, o))
		}
		return list, products
	case 4, 5:
		for _, x := range t.Data {
			if l.Kind == 4 && x < l.Zero {
				x = l.Zero
			}
			list = append(list, x)
		}
		return list, len(t.Data)
	}
	for h := range then.H {
		for w := range then.W {
			for c := range then.C {
				sum, greatest := 0, -128
				for i := range l.Size {
					for j := range l.Size {
						row := ((h*l.Step+i)*s.W + w*l.Step + j) * s.C
						if l.Kind != 1 {
							sum, greatest = sum+t.Data[row+c], max(greatest, t.Data[row+c])
							products++
							continue
						}
						for from := range s.C {
							sum += t.Data[row+from] * l.Weights[((c*l.Size+i)*l.Size+j)*s.C+from]
							products++
						}
					}
				}
				switch l.Kind {
				case 1:
					list = append(list, scaled(sum, c))
				case 2:
					list = append(list, greatest)
				case 3:
					list = append(list, int(nearestAway(wideInt(sum), wideInt(l.Size*l.Size)).Int64()))
				}
			}
		}
	}
	return list, products
}

// checkLayer holds what OutShape, RunLayer and CostOf say of a layer, right or not, against the chapter, for t of the Shape s.
func checkLayer(t *testing.T, x impl.Tensor, l impl.Layer) bool {
	t.Helper()
	s := x.Shape
	then, ok := wantShape(s, l)
	if got, gotOk := impl.OutShape(s, l); got != then || gotOk != ok {
		t.Fatalf("OutShape(%v, %v) = %v, %t, not %v, %t", s, l, got, gotOk, then, ok)
	}
	want, cost := impl.Tensor{}, 0
	if ok {
		items, products := wantRun(x, l)
		want, cost = impl.Tensor{Shape: then, Data: items}, 1+products/16
	}
	got, gotOk := impl.RunLayer(x, l)
	if gotOk != ok || !equal(got, want) || ok != impl.TensorOk(got) {
		t.Fatalf("RunLayer(%v, %v) = %v, %t, not %v, %t", x, l, got, gotOk, want, ok)
	}
	if got := impl.CostOf(s, l); got != cost {
		t.Fatalf("CostOf(%v, %v) = %d, not %d", s, l, got, cost)
	}
	return ok
}

func TestLayerKinds(t *testing.T) {
	if impl.LayerDense != 0 || impl.LayerConv != 1 || impl.LayerMax != 2 || impl.LayerAvg != 3 || impl.LayerRelu != 4 || impl.LayerFlat != 5 {
		t.Error("a kind is another")
	}
}

func TestOutShape(t *testing.T) {
	for _, c := range []struct {
		s    impl.Shape
		l    impl.Layer
		then impl.Shape
	}{
		{shape(1, 1, 1), dense(1, 1, 0, 0, 0), shape(1, 1, 1)}, {shape(2, 3, 4), dense(5, 24, 1, 1, 1), shape(1, 1, 5)}, {shape(8, 8, 1), dense(8, 64, 1, 1, 1), shape(1, 1, 8)}, {shape(4, 4, 4), dense(1, 64, 1, 1, 1), shape(1, 1, 1)},
		{shape(1, 1, 1), conv(1, 1, 1, 1, 0, 0, 0), shape(1, 1, 1)}, {shape(8, 8, 8), conv(8, 1, 1, 8, 1, 1, 1), shape(8, 8, 8)}, {shape(8, 8, 8), conv(8, 3, 1, 8, 1, 1, 1), shape(6, 6, 8)}, {shape(8, 8, 8), conv(1, 3, 2, 8, 1, 1, 1), shape(3, 3, 1)},
		{shape(7, 5, 2), conv(3, 3, 2, 2, 1, 1, 1), shape(3, 2, 3)}, {shape(3, 8, 1), conv(2, 3, 1, 1, 1, 1, 1), shape(1, 6, 2)}, {shape(8, 3, 1), conv(2, 3, 2, 1, 1, 1, 1), shape(3, 1, 2)}, {shape(3, 3, 1), conv(2, 3, 2, 1, 1, 1, 1), shape(1, 1, 2)}, {shape(8, 7, 1), conv(2, 1, 2, 1, 1, 1, 1), shape(4, 4, 2)},
		{shape(2, 2, 3), pool(2, 2, 1), shape(1, 1, 3)}, {shape(5, 4, 3), pool(2, 2, 2), shape(2, 2, 3)}, {shape(4, 5, 8), pool(2, 2, 1), shape(3, 4, 8)}, {shape(3, 4, 1), pool(2, 3, 2), shape(1, 1, 1)}, {shape(8, 8, 8), pool(2, 1, 1), shape(8, 8, 8)}, {shape(2, 1, 1), pool(2, 1, 2), shape(1, 1, 1)},
		{shape(3, 3, 3), pool(3, 3, 1), shape(1, 1, 3)}, {shape(6, 7, 3), pool(3, 3, 2), shape(2, 3, 3)}, {shape(8, 2, 1), pool(3, 2, 2), shape(4, 1, 1)}, {shape(2, 8, 1), pool(3, 2, 1), shape(1, 7, 1)},
		{shape(8, 7, 6), relu(0), shape(8, 7, 6)}, {shape(1, 2, 3), relu(-128), shape(1, 2, 3)}, {shape(1, 2, 3), relu(127), shape(1, 2, 3)},
		{shape(1, 1, 1), impl.Layer{Kind: 5}, shape(1, 1, 1)}, {shape(2, 2, 2), impl.Layer{Kind: 5}, shape(1, 1, 8)}, {shape(7, 1, 1), impl.Layer{Kind: 5}, shape(1, 1, 7)}, {shape(2, 3, 1), impl.Layer{Kind: 5, Weights: []int{}, Bias: []int{}}, shape(1, 1, 6)},
	} {
		if got, ok := impl.OutShape(c.s, c.l); !ok || got != c.then {
			t.Errorf("OutShape(%v, %v) = %v, %t, not %v", c.s, c.l, got, ok, c.then)
		}
		checkLayer(t, some(c.s), c.l)
	}
}

func TestLayersThatAreNotRight(t *testing.T) {
	less, more := conv(2, 3, 1, 2, 1, 1, 1), conv(2, 3, 1, 2, 1, 1, 1)
	less.Weights, more.Weights = less.Weights[1:], append(more.Weights, 0)
	fewer, further := dense(2, 8, 1, 1, 1), dense(2, 8, 1, 1, 1)
	fewer.Bias, further.Bias = fewer.Bias[1:], append(further.Bias, 0)
	for _, c := range []fitted{
		{shape(5, 13, 1), dense(1, 65, 1, 1, 1)}, {shape(3, 3, 8), dense(1, 72, 1, 1, 1)}, {shape(8, 8, 2), dense(1, 128, 1, 1, 1)}, {shape(1, 1, 8), dense(9, 8, 1, 1, 1)}, {shape(1, 1, 8), dense(0, 8, 1, 1, 1)}, {shape(1, 1, 8), with(dense(0, 8, 1, 1, 1), "Out", -1)},
		{shape(1, 1, 1), dense(1, 1, -1, 0, 0)}, {shape(1, 1, 1), dense(1, 1, 1<<31, 0, 0)}, {shape(1, 1, 1), dense(1, 1, 0, -1, 0)}, {shape(1, 1, 1), dense(1, 1, 0, 32, 0)}, {shape(1, 1, 1), dense(1, 1, 0, 0, -129)}, {shape(1, 1, 1), dense(1, 1, 0, 0, 128)},
		{shape(2, 2, 2), fewer}, {shape(2, 2, 2), further}, {shape(2, 2, 2), dense(2, 7, 1, 1, 1)}, {shape(2, 2, 2), dense(2, 9, 1, 1, 1)}, {shape(2, 2, 2), with(dense(2, 8, 1, 1, 1), "Size", 1)}, {shape(2, 2, 2), with(dense(2, 8, 1, 1, 1), "Step", 1)},
		{shape(4, 4, 2), less}, {shape(4, 4, 2), more}, {shape(2, 4, 2), conv(2, 3, 1, 2, 1, 1, 1)}, {shape(4, 2, 2), conv(2, 3, 1, 2, 1, 1, 1)}, {shape(1, 1, 1), conv(1, 2, 1, 1, 1, 1, 1)}, {shape(8, 8, 1), conv(1, 4, 1, 1, 1, 1, 1)}, {shape(8, 8, 1), conv(1, 0, 1, 1, 1, 1, 1)},
		{shape(8, 8, 1), conv(1, 2, 0, 1, 1, 1, 1)}, {shape(8, 8, 1), conv(1, 2, 3, 1, 1, 1, 1)}, {shape(8, 8, 1), conv(9, 2, 1, 1, 1, 1, 1)}, {shape(8, 8, 1), conv(0, 2, 1, 1, 1, 1, 1)}, {shape(8, 8, 1), conv(1, 2, 1, 2, 1, 1, 1)},
		{shape(8, 8, 8), pool(2, 4, 1)}, {shape(8, 8, 8), pool(2, 0, 1)}, {shape(8, 8, 8), pool(2, 2, 0)}, {shape(8, 8, 8), pool(2, 2, 3)}, {shape(1, 2, 8), pool(2, 2, 1)}, {shape(2, 1, 8), pool(2, 2, 1)}, {shape(8, 8, 8), with(pool(2, 2, 1), "Zero", -128)},
		{shape(8, 8, 8), pool(3, 4, 1)}, {shape(8, 8, 8), pool(3, -1, 1)}, {shape(8, 8, 8), pool(3, 2, -1)}, {shape(8, 8, 8), pool(3, 2, 3)}, {shape(2, 3, 8), pool(3, 3, 1)}, {shape(3, 2, 8), pool(3, 3, 1)}, {shape(8, 8, 8), with(pool(3, 2, 1), "Mult", 1)},
		{shape(1, 1, 1), relu(128)}, {shape(1, 1, 1), relu(-129)}, {shape(1, 1, 1), with(relu(1), "Out", 1)}, {shape(1, 1, 1), impl.Layer{Kind: 4, Bias: []int{0}}},
		{shape(3, 3, 1), impl.Layer{Kind: 5}}, {shape(1, 3, 3), impl.Layer{Kind: 5}}, {shape(8, 8, 8), impl.Layer{Kind: 5}}, {shape(1, 1, 1), impl.Layer{Kind: 5, Zero: 1}}, {shape(1, 1, 1), impl.Layer{Kind: 5, Weights: []int{0}}},
		{shape(1, 1, 1), impl.Layer{Kind: -1}}, {shape(1, 1, 1), impl.Layer{Kind: 6}}, {shape(1, 1, 1), impl.Layer{Kind: math.MaxInt}}, {shape(1, 1, 1), impl.Layer{Kind: math.MinInt}}, {impl.Shape{}, impl.Layer{Kind: 5}}, {impl.Shape{}, relu(0)},
	} {
		then, ok := impl.OutShape(c.s, c.l)
		got, ran := impl.RunLayer(some(c.s), c.l)
		if ok || then != (impl.Shape{}) || ran || !isZero(got) || impl.CostOf(c.s, c.l) != 0 {
			t.Errorf("%v is right for %v: %v, %t; %v, %t; %d", c.l, c.s, then, ok, got, ran, impl.CostOf(c.s, c.l))
		}
	}
}

// Each number of each kind, at both ends of its bounds, beside them, and at the ends of int.
func TestEachFieldOfALayer(t *testing.T) {
	right := 0
	for _, c := range goodLayers() {
		for _, name := range fields {
			for _, x := range edges {
				if checkLayer(t, some(c.s), with(c.l, name, x)) {
					right++
				}
			}
		}
	}
	if right < 1000 {
		t.Errorf("only %d were right", right)
	}
}

// Each list of each kind, with one number too few or too many, and with numbers beside their bounds at each end of it.
func TestEachListOfALayer(t *testing.T) {
	check := func(s impl.Shape, l impl.Layer, change func(list []int) []int) {
		other := cloneLayer(l)
		other.Weights = change(other.Weights)
		checkLayer(t, some(s), other)
		other = cloneLayer(l)
		other.Bias = change(other.Bias)
		checkLayer(t, some(s), other)
		other.Weights = change(other.Weights)
		checkLayer(t, some(s), other)
	}
	for _, c := range goodLayers() {
		check(c.s, c.l, func(list []int) []int { return append(list, 0) })
		check(c.s, c.l, func(list []int) []int { return append(list, list...) })
		check(c.s, c.l, func(list []int) []int { return list[min(1, len(list)):] })
		check(c.s, c.l, func(list []int) []int { return []int{} })
		check(c.s, c.l, func(list []int) []int { return nil })
		check(c.s, c.l, func(list []int) []int { return make([]int, 600) })
		check(c.s, c.l, func(list []int) []int { return make([]int, 601) })
		for _, x := range edges {
			for _, part := range []int{0, 1, 2} {
				check(c.s, c.l, func(list []int) []int {
					if len(list) > 0 {
						list[part*(len(list)-1)/2] = x
					}
					return list
				})
			}
		}
	}
}

func TestLayersAtShapesAndTensorsThatAreNotOk(t *testing.T) {
	for _, c := range goodLayers() {
		for _, s := range append(badShapes(), impl.Shape{}) {
			then, ok := impl.OutShape(s, c.l)
			if ok || then != (impl.Shape{}) || impl.CostOf(s, c.l) != 0 {
				t.Fatalf("%v is right for %v: %v, %t, %d", c.l, s, then, ok, impl.CostOf(s, c.l))
			}
			if got, ok := impl.RunLayer(impl.Tensor{Shape: s, Data: []int{1}}, c.l); ok || !isZero(got) {
				t.Fatalf("%v runs on %v: %v, %t", c.l, s, got, ok)
			}
		}
		x := some(c.s)
		bad := []impl.Tensor{{Shape: c.s}, {Shape: c.s, Data: x.Data[1:]}, {Shape: c.s, Data: append(slices.Clone(x.Data), 0)}}
		for _, number := range []int{-129, 128, math.MinInt, math.MaxInt} {
			first, last := clone(x), clone(x)
			first.Data[0], last.Data[len(x.Data)-1] = number, number
			bad = append(bad, first, last)
		}
		for _, x := range append(bad, badTensors()...) {
			if got, ok := impl.RunLayer(x, c.l); ok || !isZero(got) {
				t.Fatalf("%v runs on %v: %v, %t", c.l, x, got, ok)
			}
		}
	}
}

type run struct {
	x    impl.Tensor
	l    impl.Layer
	want []int
}

func checkRuns(t *testing.T, runs []run) {
	t.Helper()
	for _, r := range runs {
		got, ok := impl.RunLayer(r.x, r.l)
		if !ok || !slices.Equal(got.Data, r.want) {
			t.Errorf("RunLayer(%v, %v) = %v, %t, not %v", r.x, r.l, got, ok, r.want)
		}
		checkLayer(t, r.x, r.l)
	}
}

func TestRunDense(t *testing.T) {
	const half, most = 1 << 30, math.MaxInt32
	two := func(mult, shift, zero int, weights []int, bias ...int) impl.Layer {
		return impl.Layer{Kind: 0, Out: len(bias), Mult: mult, Shift: shift, Zero: zero, Weights: weights, Bias: bias}
	}
	four := tensor(2, 2, 1, 1, 2, 3, 4)
	least := impl.Tensor{Shape: shape(8, 8, 1), Data: same(64, -128)}
	checkRuns(t, []run{
		{four, two(half, 0, 1, []int{1, 1, 1, 1}, 2), []int{7}},
		{four, two(half, 0, 0, []int{1, 0, 0, 0, 0, 1, 0, 0, 0, 0, 10, 0, 0, 0, 0, -10}, 1, 2, 10, 0), []int{1, 2, 20, -20}},
		{four, two(most, 0, 0, []int{1, 2, 3, 4, -4, -3, -2, -1}, 0, 0), []int{30, -20}},
		{four, two(0, 0, -128, []int{100, 100, 100, 100}, 1000000), []int{-128}}, {four, two(0, 31, 127, []int{100, 100, 100, 100}, -1000000), []int{127}},
		{four, two(most, 0, 0, []int{0, 0, 0, 0}, 1000000), []int{127}}, {four, two(most, 0, 0, []int{0, 0, 0, 0}, -1000000), []int{-128}},
		{four, two(half, 0, 0, []int{0, 0, 0, 0}, 3), []int{2}}, {four, two(half, 0, 0, []int{0, 0, 0, 0}, -3), []int{-1}}, {four, two(half, 1, 0, []int{0, 0, 0, 0}, 10), []int{3}}, {four, two(half, 1, 0, []int{0, 0, 0, 0}, -10), []int{-3}},
		{tensor(1, 1, 1, -128), two(most, 7, 0, []int{-128}, 0), []int{127}}, {tensor(1, 1, 1, -128), two(most, 8, 0, []int{-128}, 0), []int{64}}, {tensor(1, 1, 1, -128), two(most, 7, 0, []int{127}, 0), []int{-127}}, {tensor(1, 1, 1, -128), two(most, 31, 5, []int{127}, 0), []int{5}},
		{least, two(most, 14, 0, same(64, -128), 1000000), []int{125}}, {least, two(most, 14, 0, same(64, 127), -1000000), []int{-125}}, {least, two(most, 0, 0, same(64, -128), 1000000), []int{127}}, {least, two(most, 0, 127, same(64, 127), -1000000), []int{-128}},
	})
}

func TestRunConv(t *testing.T) {
	const half, most = 1 << 30, math.MaxInt32
	filter := func(size, step, mult int, weights []int, bias ...int) impl.Layer {
		return impl.Layer{Kind: 1, Out: len(bias), Size: size, Step: step, Mult: mult, Weights: weights, Bias: bias}
	}
	nine := tensor(3, 3, 1, 1, 2, 3, 4, 5, 6, 7, 8, 9)
	pairs := tensor(2, 3, 2, 1, 2, 3, 4, 5, 6, 7, 8, 9, 10, 11, 12)
	checkRuns(t, []run{
		{tensor(2, 2, 1, 1, 2, 3, 4), filter(2, 1, half, []int{1, 0, 0, 1}, 0), []int{3}},
		{nine, filter(2, 1, most, []int{1, 0, 0, 0}, 0), []int{1, 2, 4, 5}}, {nine, filter(2, 1, most, []int{0, 1, 0, 0}, 0), []int{2, 3, 5, 6}}, {nine, filter(2, 1, most, []int{0, 0, 1, 0}, 0), []int{4, 5, 7, 8}}, {nine, filter(2, 1, most, []int{0, 0, 0, 1}, 0), []int{5, 6, 8, 9}},
		{nine, filter(2, 2, most, []int{1, 1, 1, 1}, 1), []int{13}}, {nine, filter(1, 2, most, []int{2}, 0), []int{2, 6, 14, 18}}, {nine, filter(1, 1, most, []int{-1, 3}, 0, 1), []int{-1, 4, -2, 7, -3, 10, -4, 13, -5, 16, -6, 19, -7, 22, -8, 25, -9, 28}},
		{nine, filter(3, 1, most, []int{1, 0, 0, 0, 0, 0, 0, 0, 10}, 0), []int{91}}, {nine, filter(3, 2, most, []int{0, 0, 1, 0, 0, 0, 1, 0, 0}, -20), []int{-10}},
		{pairs, filter(2, 1, most, []int{1, 0, 0, 0, 0, 0, 0, 1}, 0), []int{11, 15}}, {pairs, filter(2, 2, most, []int{0, 1, 0, 0, 0, 0, 1, 0}, 0), []int{11}}, {pairs, filter(1, 1, most, []int{1, -1, 0, 2}, 0, 0), []int{-1, 4, -1, 8, -1, 12, -1, 16, -1, 20, -1, 24}},
		{tensor(1, 4, 1, 1, 2, 3, 4), filter(1, 2, most, []int{1}, 0), []int{1, 3}}, {tensor(4, 1, 1, 1, 2, 3, 4), filter(1, 2, most, []int{1}, 0), []int{1, 3}},
		{tensor(2, 4, 1, 1, 2, 3, 4, 5, 6, 7, 8), filter(2, 1, most, []int{0, 0, 0, 1}, 0), []int{6, 7, 8}}, {tensor(4, 2, 1, 1, 2, 3, 4, 5, 6, 7, 8), filter(2, 2, most, []int{0, 0, 0, 1}, 0), []int{4, 8}},
		{impl.Tensor{Shape: shape(3, 3, 8), Data: same(72, -128)}, filter(3, 1, most, same(72, -128), 1000000), []int{127}}, {impl.Tensor{Shape: shape(3, 3, 8), Data: same(72, -128)}, filter(3, 1, most, same(72, 127), -1000000), []int{-128}},
	})
}

func TestRunMax(t *testing.T) {
	checkRuns(t, []run{
		{tensor(2, 2, 1, 1, 2, 3, 4), pool(2, 2, 1), []int{4}}, {tensor(2, 2, 1, 4, 2, 3, 1), pool(2, 2, 2), []int{4}}, {tensor(2, 2, 1, -4, -2, -3, -128), pool(2, 2, 1), []int{-2}}, {tensor(2, 2, 1, -128, -128, -128, -128), pool(2, 2, 1), []int{-128}},
		{tensor(2, 2, 2, 1, -1, 2, -2, 3, -3, 4, -4), pool(2, 2, 1), []int{4, -1}}, {tensor(2, 2, 1, 1, 2, 3, 4), pool(2, 1, 1), []int{1, 2, 3, 4}}, {tensor(3, 3, 1, 1, 9, 3, 4, 5, 6, 7, 8, 127), pool(2, 2, 1), []int{9, 9, 8, 127}},
		{tensor(3, 3, 1, 1, 2, 100, 3, 4, 100, 100, 100, 100), pool(2, 2, 2), []int{4}}, {tensor(3, 3, 1, 1, 2, 3, 4, 5, 6, 7, 8, 9), pool(2, 1, 2), []int{1, 3, 7, 9}}, {tensor(3, 3, 1, 1, 2, 3, 4, 5, 6, 7, 8, -9), pool(2, 3, 2), []int{8}},
		{tensor(1, 3, 2, 1, 2, 3, 4, 5, 6), pool(2, 1, 2), []int{1, 2, 5, 6}}, {tensor(2, 4, 1, 1, 2, 3, 4, 8, 7, 6, 5), pool(2, 2, 1), []int{8, 7, 6}}, {tensor(4, 2, 1, 1, 2, 3, 4, 8, 7, 6, 5), pool(2, 2, 2), []int{4, 8}},
	})
}

func TestRunAvg(t *testing.T) {
	runs := []run{
		{tensor(2, 2, 1, 1, 2, 3, 4), pool(3, 2, 1), []int{3}}, {tensor(2, 2, 1, -1, -2, -3, -4), pool(3, 2, 1), []int{-3}}, {tensor(2, 2, 1, 127, 127, 127, 127), pool(3, 2, 1), []int{127}}, {tensor(2, 2, 1, -128, -128, -128, -128), pool(3, 2, 1), []int{-128}},
		{tensor(2, 2, 1, 127, 127, -128, -128), pool(3, 2, 1), []int{-1}}, {tensor(2, 2, 1, 127, 127, -128, -127), pool(3, 2, 2), []int{0}}, {tensor(2, 2, 2, 1, -1, 2, -2, 3, -3, 4, -4), pool(3, 2, 1), []int{3, -3}},
		{tensor(1, 2, 2, 1, -2, 3, -4), pool(3, 1, 1), []int{1, -2, 3, -4}}, {tensor(3, 3, 1, 1, 2, 3, 4, 5, 6, 7, 8, 9), pool(3, 2, 1), []int{3, 4, 6, 7}}, {tensor(3, 3, 1, 1, 2, 100, 3, 4, 100, 100, 100, 100), pool(3, 2, 2), []int{3}},
		{tensor(2, 3, 1, -1, -2, -4, -2, -1, -4), pool(3, 2, 1), []int{-2, -3}},
	}
	// The sums of four numbers and what they are on the average, halves away from 0.
	for sum, want := range map[int]int{0: 0, 1: 0, 2: 1, 3: 1, 4: 1, 5: 1, 6: 2, 7: 2, 8: 2, 9: 2, 10: 3, 126: 32, 122: 31, -1: 0, -2: -1, -3: -1, -4: -1, -5: -1, -6: -2, -7: -2, -8: -2, -9: -2, -10: -3, -126: -32, -122: -31} {
		runs = append(runs, run{tensor(2, 2, 1, 0, sum, 0, 0), pool(3, 2, 1), []int{want}}, run{tensor(2, 2, 1, 0, 0, 0, sum), pool(3, 2, 2), []int{want}})
	}
	// Those of nine: none of them is a half.
	for sum, want := range map[int]int{0: 0, 4: 0, 5: 1, 9: 1, 13: 1, 14: 2, 22: 2, 23: 3, 121: 13, 122: 14, -4: 0, -5: -1, -9: -1, -13: -1, -14: -2, -22: -2, -23: -3, -121: -13, -122: -14} {
		runs = append(runs, run{tensor(3, 3, 1, 0, 0, 0, 0, sum, 0, 0, 0, 0), pool(3, 3, 1), []int{want}})
	}
	checkRuns(t, runs)
}

func TestRunRelu(t *testing.T) {
	x := tensor(2, 1, 4, -128, -127, -1, 0, 1, 2, 126, 127)
	checkRuns(t, []run{
		{x, relu(0), []int{0, 0, 0, 0, 1, 2, 126, 127}}, {x, relu(-128), x.Data}, {x, relu(127), same(8, 127)}, {x, relu(1), []int{1, 1, 1, 1, 1, 2, 126, 127}}, {x, relu(-127), []int{-127, -127, -1, 0, 1, 2, 126, 127}},
	})
}

func TestRunFlat(t *testing.T) {
	x := tensor(2, 1, 4, -128, -127, -1, 0, 1, 2, 126, 127)
	checkRuns(t, []run{{x, impl.Layer{Kind: 5}, x.Data}, {tensor(1, 1, 1, -5), impl.Layer{Kind: 5}, []int{-5}}, {tensor(1, 3, 2, 1, 2, 3, 4, 5, 6), impl.Layer{Kind: 5}, []int{1, 2, 3, 4, 5, 6}}})
	if got, ok := impl.RunLayer(x, impl.Layer{Kind: 5}); !ok || got.Shape != shape(1, 1, 8) {
		t.Errorf("flat: %v, %t", got, ok)
	}
}

// Promise 3: at every Shape, what a layer gives is TensorOk and has the Shape of OutShape.
func TestWhatALayerGivesIsRight(t *testing.T) {
	right := 0
	eachShape(func(s impl.Shape) {
		x, least := some(s), impl.Tensor{Shape: s, Data: same(s.H*s.W*s.C, -128)}
		layers := []impl.Layer{relu(-s.H * s.W), relu(s.C - 4), {Kind: 5}}
		for _, out := range []int{1, 1 + (s.H+s.W)%8} {
			layers = append(layers, dense(out, s.H*s.W*s.C, 1<<30+s.W, s.H, s.C-4))
			for size := 1; size <= 4; size++ {
				for step := 1; step <= 3; step++ {
					layers = append(layers, conv(out, size, step, s.C, 1<<30-s.H, s.W, s.C), pool(2, size, step), pool(3, size, step))
				}
			}
		}
		for _, l := range layers {
			if !checkLayer(t, x, l) {
				continue
			}
			right++
			then, _ := impl.OutShape(s, l)
			for _, x := range []impl.Tensor{x, least} {
				if got, ok := impl.RunLayer(x, l); !ok || !impl.TensorOk(got) || got.Shape != then || !impl.ShapeOk(then) {
					t.Fatalf("RunLayer(%v, %v) = %v, %t", x, l, got, ok)
				}
			}
		}
	})
	if right < 5000 {
		t.Errorf("only %d layers were right", right)
	}
}

func TestCostOf(t *testing.T) {
	for _, c := range []struct {
		s    impl.Shape
		l    impl.Layer
		cost int
	}{
		{shape(1, 1, 1), dense(1, 1, 0, 0, 0), 1}, {shape(1, 1, 5), dense(3, 5, 0, 0, 0), 1}, {shape(1, 1, 8), dense(2, 8, 0, 0, 0), 2}, {shape(1, 1, 8), dense(8, 8, 0, 0, 0), 5}, {shape(8, 8, 1), dense(8, 64, 0, 0, 0), 33}, {shape(3, 7, 3), dense(1, 63, 0, 0, 0), 4}, {shape(1, 8, 2), dense(1, 16, 0, 0, 0), 2},
		{shape(4, 4, 2), conv(3, 3, 1, 2, 0, 0, 0), 14}, {shape(1, 1, 1), conv(1, 1, 1, 1, 0, 0, 0), 1}, {shape(8, 8, 8), conv(8, 3, 1, 8, 0, 0, 0), 1297}, {shape(8, 8, 8), conv(8, 3, 2, 8, 0, 0, 0), 325}, {shape(4, 4, 1), conv(1, 1, 1, 1, 0, 0, 0), 2}, {shape(3, 5, 1), conv(1, 1, 1, 1, 0, 0, 0), 1},
		{shape(2, 2, 1), pool(2, 2, 1), 1}, {shape(4, 4, 1), pool(2, 1, 1), 2}, {shape(4, 4, 1), pool(2, 2, 2), 2}, {shape(4, 4, 1), pool(2, 2, 1), 3}, {shape(8, 8, 8), pool(2, 3, 1), 163}, {shape(3, 5, 1), pool(2, 1, 1), 1},
		{shape(2, 2, 1), pool(3, 2, 1), 1}, {shape(4, 4, 1), pool(3, 2, 1), 3}, {shape(8, 8, 8), pool(3, 3, 2), 41}, {shape(8, 8, 8), pool(3, 2, 2), 33},
		{shape(1, 1, 1), relu(0), 1}, {shape(3, 5, 1), relu(0), 1}, {shape(4, 4, 1), relu(0), 2}, {shape(8, 8, 8), relu(0), 33}, {shape(1, 1, 1), impl.Layer{Kind: 5}, 1}, {shape(2, 2, 2), impl.Layer{Kind: 5}, 1},
	} {
		if got := impl.CostOf(c.s, c.l); got != c.cost {
			t.Errorf("CostOf(%v, %s) = %d, not %d", c.s, impl.LayerText(c.l), got, c.cost)
		}
	}
}

func TestWeightsIn(t *testing.T) {
	for _, c := range []struct {
		l    impl.Layer
		want int
	}{
		{impl.Layer{}, 0}, {relu(5), 0}, {dense(3, 8, 0, 0, 0), 27}, {conv(8, 3, 1, 8, 0, 0, 0), 584}, {impl.Layer{Kind: 99, Weights: []int{math.MaxInt}}, 1}, {impl.Layer{Kind: -1, Bias: []int{1, 2}}, 2}, {impl.Layer{Weights: make([]int, 700), Bias: make([]int, 5)}, 705},
	} {
		if got := impl.WeightsIn(c.l); got != c.want {
			t.Errorf("WeightsIn(%v) = %d, not %d", c.l, got, c.want)
		}
	}
}

// withLists are a layer and those that differ from it in one list.
func withLists(l impl.Layer) []impl.Layer {
	list := []impl.Layer{}
	for _, weights := range [][]int{{}, {0}, {1}, {1, 2}, {2, 1}, {1, 2, 3}} {
		for _, bias := range [][]int{{}, {0}, {1}, {1, 2}, {2, 1}} {
			l.Weights, l.Bias = weights, bias
			list = append(list, l)
		}
	}
	return list
}

func TestSameLayer(t *testing.T) {
	if !impl.SameLayer(impl.Layer{}, impl.Layer{Weights: []int{}, Bias: []int{}}) || !impl.SameLayer(impl.Layer{Weights: []int{}}, impl.Layer{Bias: []int{}}) {
		t.Error("an empty list and nil are not the same")
	}
	list := withLists(impl.Layer{Kind: 1, Out: 2, Size: 3, Step: 4, Mult: 5, Shift: 6, Zero: 7})
	for i, a := range list {
		for j, b := range list {
			if got := impl.SameLayer(a, cloneLayer(b)); got != (i == j) {
				t.Errorf("of %v and %v: %t", a, b, got)
			}
		}
		for _, name := range fields {
			for _, x := range edges {
				b := with(a, name, x)
				if same := x == *fieldOf(&a, name); impl.SameLayer(a, b) != same || impl.SameLayer(b, a) != same || !impl.SameLayer(b, b) {
					t.Errorf("of %v and %v: not %t", a, b, same)
				}
			}
		}
	}
	for _, c := range goodLayers() {
		if !impl.SameLayer(c.l, cloneLayer(c.l)) {
			t.Errorf("%v is not the same as itself", c.l)
		}
	}
}

func TestLayerText(t *testing.T) {
	for _, c := range []struct {
		l    impl.Layer
		want string
	}{
		{impl.Layer{}, "dense 0 0 0 0 0 0 0 0"}, {pool(2, 2, 1), "max 0 2 1 0 0 0 0 0"}, {pool(3, 3, 2), "avg 0 3 2 0 0 0 0 0"}, {relu(-128), "relu 0 0 0 0 0 -128 0 0"}, {impl.Layer{Kind: 5}, "flat 0 0 0 0 0 0 0 0"},
		{dense(3, 8, math.MaxInt32, 31, 127), "dense 3 0 0 2147483647 31 127 24 3"}, {conv(8, 3, 1, 8, 12, 5, -7), "conv 8 3 1 12 5 -7 576 8"},
		{impl.Layer{Kind: 1, Out: 1, Size: 2, Step: 3, Mult: 4, Shift: 5, Zero: 6, Weights: make([]int, 7), Bias: make([]int, 8)}, "conv 1 2 3 4 5 6 7 8"},
		{impl.Layer{Kind: 5, Out: math.MinInt, Size: math.MaxInt, Step: -1, Mult: -2, Shift: -3, Zero: -4, Weights: make([]int, 1000)}, "flat -9223372036854775808 9223372036854775807 -1 -2 -3 -4 1000 0"},
	} {
		if got := impl.LayerText(c.l); got != c.want {
			t.Errorf("LayerText(%v) = %q, not %q", c.l, got, c.want)
		}
	}
	words := []string{"dense", "conv", "max", "avg", "relu", "flat"}
	for _, c := range goodLayers() {
		for _, kind := range append([]int{0, 1, 2, 3, 4, 5}, edges...) {
			got := impl.LayerText(with(c.l, "Kind", kind))
			if kind < 0 || kind > 5 {
				if got != "" {
					t.Errorf("LayerText of the Kind %d: %q", kind, got)
				}
				continue
			}
			if parts := strings.Split(got, " "); len(parts) != 9 || parts[0] != words[kind] {
				t.Errorf("LayerText of the Kind %d: %q", kind, got)
			}
		}
	}
}

func TestLayerArgumentsAreLeft(t *testing.T) {
	for _, c := range goodLayers() {
		// Numbers behind the end of each list belong to the caller as well.
		x, l := some(c.s), cloneLayer(c.l)
		x.Data, l.Weights, l.Bias = roomy(x.Data), roomy(l.Weights), roomy(l.Bias)
		before, layerBefore := clone(x), cloneLayer(l)
		got, _ := impl.RunLayer(x, l)
		again := clone(got)
		impl.OutShape(c.s, l)
		impl.CostOf(c.s, l)
		impl.WeightsIn(l)
		impl.SameLayer(l, c.l)
		impl.LayerText(l)
		for i := range got.Data {
			got.Data[i] = 1000 + i
		}
		_ = append(got.Data, 7, 7, 7)
		if !equal(x, before) || !impl.SameLayer(l, layerBefore) || !hasRoom(x.Data) || !hasRoom(l.Weights) || !hasRoom(l.Bias) {
			t.Fatalf("%v or %v shares its numbers with an answer, or was written into", c.s, c.l)
		}
		if other, _ := impl.RunLayer(x, l); !equal(other, again) {
			t.Fatalf("RunLayer(%v, %v) = %v, and then %v", x, l, again, other)
		}
	}
}

// roomy is list with a few numbers behind its end.
func roomy(list []int) []int {
	return append(slices.Clone(list), 77, 78, 79)[:len(list)]
}

func hasRoom(list []int) bool {
	return slices.Equal(list[:len(list)+3][len(list):], []int{77, 78, 79})
}
