package tests

import (
	"fmt"
	"math"
	"slices"
	"testing"

	"loop.example/g00778/impl"
)

func model(in impl.Shape, layers ...impl.Layer) impl.Model {
	return impl.Model{In: in, Layers: layers}
}

func flat() impl.Layer { return impl.Layer{Kind: 5} }

func relus(n int) []impl.Layer {
	var list []impl.Layer
	for i := range n {
		list = append(list, relu(i*20-60))
	}
	return list
}

func cloneModel(m impl.Model) impl.Model {
	m.Layers = slices.Clone(m.Layers)
	for i, l := range m.Layers {
		m.Layers[i] = cloneLayer(l)
	}
	return m
}

// swapped is m with another layer at that place.
func swapped(m impl.Model, place int, l impl.Layer) impl.Model {
	m = cloneModel(m)
	m.Layers[place] = l
	return m
}

func isZeroModel(m impl.Model) bool { return m.In == impl.Shape{} && len(m.Layers) == 0 }

// wantProducts are those that a right layer makes; wantRun counts them as they are made.
func wantProducts(s, then impl.Shape, l impl.Layer) int {
	items := then.H * then.W * then.C
	switch l.Kind {
	case 0:
		return items * s.H * s.W * s.C
	case 1:
		return items * l.Size * l.Size * s.C
	case 2, 3:
		return items * l.Size * l.Size
	}
	return s.H * s.W * s.C
}

// wantWalk is what the chapter says of a model's Shapes and costs; nothing when it is not right.
func wantWalk(m impl.Model) ([]impl.Shape, []int) {
	if len(m.Layers) < 1 || len(m.Layers) > 6 {
		return nil, nil
	}
	shapes, costs := []impl.Shape{m.In}, []int{}
	for i, l := range m.Layers {
		then, ok := wantShape(shapes[i], l)
		if !ok {
			return nil, nil
		}
		shapes, costs = append(shapes, then), append(costs, 1+wantProducts(shapes[i], then, l)/16)
	}
	return shapes, costs
}

// wantEval is what a right model gives.
func wantEval(m impl.Model, x impl.Tensor) impl.Tensor {
	for _, l := range m.Layers {
		then, _ := wantShape(x.Shape, l)
		items, _ := wantRun(x, l)
		x = impl.Tensor{Shape: then, Data: items}
	}
	return x
}

func wantModelText(m impl.Model) string {
	text := fmt.Sprintf("%dx%dx%d", m.In.H, m.In.W, m.In.C)
	words := []string{"dense", "conv", "max", "avg", "relu", "flat"}
	for _, l := range m.Layers {
		text += fmt.Sprintf(" > %s %d %d %d %d %d %d %d %d", words[l.Kind], l.Out, l.Size, l.Step, l.Mult, l.Shift, l.Zero, len(l.Weights), len(l.Bias))
	}
	return text
}

// checkModel holds each function of one model, right or not, against the chapter.
func checkModel(t *testing.T, m impl.Model) bool {
	t.Helper()
	shapes, costs := wantWalk(m)
	if len(shapes) == 0 {
		checkRefused(t, m)
		return false
	}
	total, memory, costliest := 0, 0, 0
	for i, cost := range costs {
		total += cost
		memory = max(memory, shapes[i].H*shapes[i].W*shapes[i].C+shapes[i+1].H*shapes[i+1].W*shapes[i+1].C)
		if cost > costs[costliest] {
			costliest = i
		}
	}
	if !impl.ModelOk(m) || !slices.Equal(impl.ShapesOf(m), shapes) || !slices.Equal(impl.CostsOf(m), costs) {
		t.Fatalf("%v: %t, %v, %v, not true, %v, %v", m, impl.ModelOk(m), impl.ShapesOf(m), impl.CostsOf(m), shapes, costs)
	}
	if impl.TotalCost(m) != total || impl.MemoryOf(m) != memory || impl.CostliestLayer(m) != costliest {
		t.Fatalf("%v: %d, %d, %d, not %d, %d, %d", m, impl.TotalCost(m), impl.MemoryOf(m), impl.CostliestLayer(m), total, memory, costliest)
	}
	if got := impl.ModelText(m); got != wantModelText(m) {
		t.Fatalf("ModelText(%v) = %q", m, got)
	}
	x := some(m.In)
	got, ok := impl.EvalModel(m, x)
	if want := wantEval(m, x); !ok || !equal(got, want) || !impl.TensorOk(got) || got.Shape != shapes[len(shapes)-1] {
		t.Fatalf("EvalModel(%v, %v) = %v, %t, not %v", m, x, got, ok, want)
	}
	return true
}

// checkRefused holds that each function has its fixed answer for a model that is not ModelOk.
func checkRefused(t *testing.T, m impl.Model) {
	t.Helper()
	if impl.ModelOk(m) || len(impl.ShapesOf(m)) != 0 || len(impl.CostsOf(m)) != 0 || impl.TotalCost(m) != 0 || impl.MemoryOf(m) != 0 || impl.CostliestLayer(m) != -1 || impl.ModelText(m) != "" {
		t.Fatalf("%v: %t, %v, %v, %d, %d, %d, %q", m, impl.ModelOk(m), impl.ShapesOf(m), impl.CostsOf(m), impl.TotalCost(m), impl.MemoryOf(m), impl.CostliestLayer(m), impl.ModelText(m))
	}
	inputs := []impl.Tensor{{}, {Shape: m.In}, tensor(1, 1, 1, 5)}
	if impl.ShapeOk(m.In) {
		inputs = append(inputs, some(m.In))
	}
	for _, x := range inputs {
		if got, ok := impl.EvalModel(m, x); ok || !isZero(got) {
			t.Fatalf("EvalModel(%v, %v) = %v, %t", m, x, got, ok)
		}
	}
	for _, to := range []int{0, 1, len(m.Layers)} {
		if got, ok := impl.CutModel(m, 0, to); ok || !isZeroModel(got) {
			t.Fatalf("CutModel(%v, 0, %d) = %v, %t", m, to, got, ok)
		}
	}
	for _, other := range []impl.Model{m, model(m.In, relu(0)), model(shape(1, 1, 1), flat())} {
		got, ok := impl.JoinModels(m, other)
		turned, turnedOk := impl.JoinModels(other, m)
		if ok || turnedOk || !isZeroModel(got) || !isZeroModel(turned) {
			t.Fatalf("%v and %v are joined: %v, %t; %v, %t", m, other, got, ok, turned, turnedOk)
		}
	}
}

// goodModels are right: each kind of layer at the first place, between and at the last, and each number of layers.
func goodModels() []impl.Model {
	const half, most = 1 << 30, math.MaxInt32
	list := []impl.Model{
		model(shape(8, 8, 1), conv(2, 3, 1, 1, half, 5, 3), relu(0), pool(2, 2, 2), dense(4, 18, half, 6, -5)),
		model(shape(8, 8, 2), pool(3, 2, 2), conv(3, 2, 1, 2, half, 6, 0), relu(-20), pool(2, 3, 2), flat(), dense(2, 3, half, 4, 9)),
		model(shape(4, 4, 4), dense(8, 64, half, 7, 0), conv(8, 1, 1, 8, half, 5, 1), pool(2, 1, 2), pool(3, 1, 1), flat(), relu(3)),
		model(shape(2, 2, 2), flat(), dense(8, 8, most, 6, 127), relu(-127), dense(3, 8, half, 5, -128)),
		model(shape(8, 8, 8), pool(2, 1, 1), conv(8, 3, 2, 8, most, 9, -7), conv(1, 3, 1, 8, most, 8, 7)),
		model(shape(7, 5, 3), relu(10), pool(2, 3, 2), pool(3, 2, 1), conv(4, 1, 2, 3, half, 5, 0), flat()),
		model(shape(1, 1, 8), relu(-128), relu(127), flat(), dense(8, 8, half, 3, 0), dense(1, 8, half, 4, 0), dense(8, 1, most, 0, 0)),
		model(shape(3, 3, 1), conv(1, 1, 1, 1, most, 0, 0), pool(3, 3, 1)),
	}
	for n := 1; n <= 6; n++ {
		list = append(list, model(shape(2, 3, 4), relus(n)...), model(shape(1, 1, 1), slices.Repeat([]impl.Layer{flat()}, n)...))
	}
	for _, c := range goodLayers() {
		list = append(list, model(c.s, c.l))
	}
	return list
}

// nowhere are layers that are right for no Shape at all.
func nowhere() []impl.Layer {
	return []impl.Layer{
		{Kind: -1}, {Kind: 6}, {Kind: math.MaxInt}, {Kind: math.MinInt}, {}, {Kind: 1}, {Kind: 2}, {Kind: 3}, relu(128), relu(-129), with(flat(), "Zero", 1), with(relu(0), "Out", 1),
		pool(2, 4, 1), pool(3, 0, 1), pool(2, 1, 3), with(pool(3, 1, 1), "Mult", 1), dense(9, 1, 1, 1, 1), dense(1, 65, 1, 1, 1), conv(9, 1, 1, 1, 1, 1, 1), conv(1, 1, 3, 1, 1, 1, 1), {Kind: 4, Weights: []int{0}}, {Kind: 5, Bias: []int{0}},
	}
}

// badModels are not ModelOk.
func badModels() []impl.Model {
	list := []impl.Model{
		{}, {Layers: []impl.Layer{}}, model(shape(1, 1, 1)), {In: shape(1, 1, 1), Layers: []impl.Layer{}}, model(shape(8, 8, 8)), model(impl.Shape{}, relu(0)),
		model(shape(1, 1, 1), relus(7)...), model(shape(1, 1, 1), relus(8)...), model(shape(1, 1, 1), relus(1000)...),
		model(shape(3, 3, 1), flat()), model(shape(2, 2, 2), flat(), pool(2, 2, 1)), model(shape(2, 2, 2), pool(2, 2, 1), pool(2, 2, 1)), model(shape(4, 4, 1), pool(2, 2, 2), pool(2, 3, 1)),
		model(shape(1, 1, 4), dense(3, 4, 1, 1, 1), dense(3, 4, 1, 1, 1)), model(shape(2, 2, 2), dense(3, 8, 1, 1, 1), conv(1, 1, 1, 2, 1, 1, 1)), model(shape(5, 2, 1), relu(0), flat()),
	}
	for _, s := range append(badShapes(), impl.Shape{}) {
		list = append(list, model(s, relu(0)), model(s, flat(), flat()), model(s))
	}
	for _, m := range goodModels()[:20] {
		for place := range m.Layers {
			for _, l := range nowhere() {
				list = append(list, swapped(m, place, l))
			}
		}
	}
	return list
}

func TestModelLimits(t *testing.T) {
	if impl.MaxLayers != 6 {
		t.Error("a limit is another")
	}
	for n := range 10 {
		want := n >= 1 && n <= 6
		if got := checkModel(t, model(shape(2, 2, 2), relus(n)...)); got != want {
			t.Errorf("of %d layers: %t", n, got)
		}
	}
}

func TestGoodModels(t *testing.T) {
	for _, m := range goodModels() {
		if !checkModel(t, m) {
			t.Errorf("%v is not right", m)
		}
	}
}

func TestBadModels(t *testing.T) {
	for _, m := range badModels() {
		if checkModel(t, m) {
			t.Errorf("%v is right", m)
		}
	}
}

// Each number of each layer at the edges, at the first place, between and at the last.
func TestEachFieldOfAModel(t *testing.T) {
	right := 0
	for _, m := range goodModels()[:12] {
		for place, l := range m.Layers {
			for _, name := range fields {
				for _, x := range edges {
					if checkModel(t, swapped(m, place, with(l, name, x))) {
						right++
					}
				}
			}
		}
	}
	if right < 500 {
		t.Errorf("only %d were right", right)
	}
}

// Each side of In at what is no side, and at each that is one.
func TestEachInOfAModel(t *testing.T) {
	right := 0
	for _, m := range goodModels()[:12] {
		for _, x := range append(slices.Clone(badSides), 1, 2, 3, 4, 5, 6, 7, 8) {
			for _, in := range []impl.Shape{shape(x, m.In.W, m.In.C), shape(m.In.H, x, m.In.C), shape(m.In.H, m.In.W, x), shape(x, x, x)} {
				other := cloneModel(m)
				other.In = in
				if checkModel(t, other) {
					right++
				}
			}
		}
	}
	if right < 100 {
		t.Errorf("only %d were right", right)
	}
}

func TestShapesAndCostsOf(t *testing.T) {
	for _, c := range []struct {
		m         impl.Model
		shapes    []impl.Shape
		costs     []int
		total     int
		memory    int
		costliest int
	}{
		{model(shape(1, 1, 1), flat()), []impl.Shape{shape(1, 1, 1), shape(1, 1, 1)}, []int{1}, 1, 2, 0},
		{model(shape(2, 2, 1), relu(0), pool(2, 2, 1)), []impl.Shape{shape(2, 2, 1), shape(2, 2, 1), shape(1, 1, 1)}, []int{1, 1}, 2, 8, 0},
		{model(shape(8, 8, 8), conv(8, 3, 1, 8, 1, 1, 1), pool(2, 2, 2), relu(0)), []impl.Shape{shape(8, 8, 8), shape(6, 6, 8), shape(3, 3, 8), shape(3, 3, 8)}, []int{1297, 19, 5}, 1321, 800, 0},
		{model(shape(1, 1, 1), conv(8, 1, 1, 1, 0, 0, 0), dense(2, 8, 0, 0, 0), dense(8, 2, 0, 0, 0)), []impl.Shape{shape(1, 1, 1), shape(1, 1, 8), shape(1, 1, 2), shape(1, 1, 8)}, []int{1, 2, 2}, 5, 10, 1},
		{model(shape(8, 8, 1), conv(8, 1, 1, 1, 0, 0, 0), relu(0), pool(3, 3, 2)), []impl.Shape{shape(8, 8, 1), shape(8, 8, 8), shape(8, 8, 8), shape(3, 3, 8)}, []int{33, 33, 41}, 107, 1024, 2},
		{model(shape(4, 4, 1), pool(2, 1, 2), relu(1), conv(8, 1, 1, 1, 0, 0, 0)), []impl.Shape{shape(4, 4, 1), shape(2, 2, 1), shape(2, 2, 1), shape(2, 2, 8)}, []int{1, 1, 3}, 5, 36, 2},
		{model(shape(8, 8, 8), relus(6)...), slices.Repeat([]impl.Shape{shape(8, 8, 8)}, 7), same(6, 33), 198, 1024, 0},
	} {
		checkModel(t, c.m)
		if !slices.Equal(impl.ShapesOf(c.m), c.shapes) || !slices.Equal(impl.CostsOf(c.m), c.costs) || impl.TotalCost(c.m) != c.total {
			t.Errorf("%s: %v, %v, %d", impl.ModelText(c.m), impl.ShapesOf(c.m), impl.CostsOf(c.m), impl.TotalCost(c.m))
		}
		if impl.MemoryOf(c.m) != c.memory || impl.CostliestLayer(c.m) != c.costliest {
			t.Errorf("%s: %d, %d, not %d, %d", impl.ModelText(c.m), impl.MemoryOf(c.m), impl.CostliestLayer(c.m), c.memory, c.costliest)
		}
	}
}

// The greatest cost once or more often, at each place.
func TestCostliestLayer(t *testing.T) {
	for pattern := range 1 << 6 {
		var layers []impl.Layer
		first := -1
		for place := range 6 {
			if pattern>>place&1 == 0 {
				layers = append(layers, flat())
				continue
			}
			layers = append(layers, conv(8, 1, 1, 8, 1, 1, 1))
			if first < 0 {
				first = place
			}
		}
		if got := impl.CostliestLayer(model(shape(1, 1, 8), layers...)); got != max(first, 0) {
			t.Errorf("of %b: %d, not %d", pattern, got, max(first, 0))
		}
	}
	low, high := conv(8, 1, 1, 8, 1, 1, 1), conv(8, 2, 1, 8, 1, 1, 1)
	for _, c := range []struct {
		m    impl.Model
		want int
	}{
		{model(shape(3, 3, 8), low, high), 1}, {model(shape(3, 3, 8), high, low), 0}, {model(shape(2, 2, 8), low, high), 0}, {model(shape(3, 3, 8), relu(0), high, low), 1},
		{model(shape(4, 4, 8), high, high, high), 0}, {model(shape(3, 3, 8), pool(2, 1, 1), low, high), 2}, {model(shape(3, 3, 8), relu(0), low, relu(1), low, relu(2)), 1}, {model(shape(8, 8, 8), relus(6)...), 0},
	} {
		if got := impl.CostliestLayer(c.m); got != c.want || !checkModel(t, c.m) {
			t.Errorf("%s: %d, not %d", impl.ModelText(c.m), got, c.want)
		}
	}
}

func TestEvalModel(t *testing.T) {
	const half, most = 1 << 30, math.MaxInt32
	double := impl.Layer{Kind: 0, Out: 1, Mult: most, Weights: []int{2}, Bias: []int{0}}
	less := impl.Layer{Kind: 0, Out: 1, Mult: most, Weights: []int{1}, Bias: []int{-3}}
	edge := impl.Layer{Kind: 1, Out: 2, Size: 2, Step: 1, Mult: half, Weights: []int{-1, 1, -1, 1, 2, 2, 2, 2}, Bias: []int{0, 10}}
	for _, c := range []struct {
		m    impl.Model
		x    impl.Tensor
		want impl.Tensor
	}{
		{model(shape(2, 2, 1), relu(0), pool(2, 2, 1)), tensor(2, 2, 1, -1, 2, 3, -4), tensor(1, 1, 1, 3)},
		{model(shape(2, 2, 1), pool(3, 2, 1), relu(0)), tensor(2, 2, 1, -9, 2, 3, -4), tensor(1, 1, 1, 0)},
		{model(shape(2, 2, 1), relu(0), pool(3, 2, 1)), tensor(2, 2, 1, -9, 2, 3, -4), tensor(1, 1, 1, 1)},
		{model(shape(1, 1, 1), double, less), tensor(1, 1, 1, 10), tensor(1, 1, 1, 17)}, {model(shape(1, 1, 1), less, double), tensor(1, 1, 1, 10), tensor(1, 1, 1, 14)},
		{model(shape(1, 1, 1), double, double, double, double, double, less), tensor(1, 1, 1, 3), tensor(1, 1, 1, 93)}, {model(shape(1, 1, 1), double, double, double, double, double, less), tensor(1, 1, 1, 4), tensor(1, 1, 1, 124)}, {model(shape(1, 1, 1), double, less), tensor(1, 1, 1, -100), tensor(1, 1, 1, -128)},
		{model(shape(2, 3, 1), edge, relu(2), flat()), tensor(2, 3, 1, 1, 5, 2, 1, 4, 9), tensor(1, 1, 4, 4, 16, 2, 25)},
		{model(shape(2, 2, 2), flat()), tensor(2, 2, 2, 1, 2, 3, 4, 5, 6, 7, 8), tensor(1, 1, 8, 1, 2, 3, 4, 5, 6, 7, 8)},
	} {
		if got, ok := impl.EvalModel(c.m, c.x); !ok || !equal(got, c.want) {
			t.Errorf("EvalModel(%v, %v) = %v, %t, not %v", c.m, c.x, got, ok, c.want)
		}
		checkModel(t, c.m)
	}
}

func TestEvalModelRefuses(t *testing.T) {
	for _, m := range goodModels() {
		x := some(m.In)
		bad := []impl.Tensor{{Shape: m.In}, {Shape: m.In, Data: x.Data[1:]}, {Shape: m.In, Data: append(slices.Clone(x.Data), 0)}, {Data: x.Data}}
		for _, number := range []int{-129, 128, math.MinInt, math.MaxInt} {
			first, last := clone(x), clone(x)
			first.Data[0], last.Data[len(x.Data)-1] = number, number
			bad = append(bad, first, last)
		}
		// TensorOk, but of another Shape, often with as many numbers.
		for _, s := range []impl.Shape{shape(m.In.H+1, m.In.W, m.In.C), shape(m.In.H, m.In.W+1, m.In.C), shape(m.In.H, m.In.W, m.In.C+1), shape(m.In.H-1, m.In.W, m.In.C), shape(m.In.H, m.In.W-1, m.In.C), shape(m.In.H, m.In.W, m.In.C-1), shape(m.In.W, m.In.H, m.In.C), shape(m.In.C, m.In.W, m.In.H), shape(m.In.H, m.In.C, m.In.W), shape(1, 1, m.In.H*m.In.W*m.In.C)} {
			if s != m.In {
				bad = append(bad, some(s))
			}
		}
		for _, x := range append(bad, badTensors()...) {
			if got, ok := impl.EvalModel(m, x); ok || !isZero(got) {
				t.Fatalf("EvalModel(%v, %v) = %v, %t", m, x, got, ok)
			}
		}
	}
}

// runWithin runs m in one row of as many numbers, each layer from one end of it to the other.
func runWithin(t *testing.T, m impl.Model, x impl.Tensor, room int) impl.Tensor {
	t.Helper()
	row := make([]int, room)
	shapes := impl.ShapesOf(m)
	size := impl.SizeOf(m.In)
	part, left := row[:size], true
	copy(part, x.Data)
	for i, l := range m.Layers {
		size := impl.SizeOf(shapes[i+1])
		if len(part)+size > room {
			t.Fatalf("%v has no room in %d", m, room)
		}
		out, _ := impl.RunLayer(impl.Tensor{Shape: shapes[i], Data: part}, l)
		then := row[:size]
		if left {
			then = row[room-size:]
		}
		for place := range part {
			part[place] = 999
		}
		copy(then, out.Data)
		part, left = then, !left
	}
	return impl.Tensor{Shape: shapes[len(shapes)-1], Data: slices.Clone(part)}
}

// Promise 4: MemoryOf is enough, and no less is.
func TestMemoryOfIsEnough(t *testing.T) {
	for _, m := range goodModels() {
		x := some(m.In)
		want, _ := impl.EvalModel(m, x)
		if got := runWithin(t, m, x, impl.MemoryOf(m)); !equal(got, want) {
			t.Errorf("%v gives %v, and in its memory %v", m, want, got)
		}
		widest := false
		shapes := impl.ShapesOf(m)
		for i, s := range shapes[1:] {
			widest = widest || impl.SizeOf(shapes[i])+impl.SizeOf(s) == impl.MemoryOf(m)
		}
		if !widest {
			t.Errorf("MemoryOf(%v) = %d is of no two Shapes", m, impl.MemoryOf(m))
		}
	}
}

func TestSameModel(t *testing.T) {
	list := append(goodModels(), badModels()[:60]...)
	for _, a := range list {
		if !impl.SameModel(a, cloneModel(a)) {
			t.Errorf("%v is not the same as itself", a)
		}
		for _, in := range []impl.Shape{shape(a.In.H+1, a.In.W, a.In.C), shape(a.In.H, a.In.W+1, a.In.C), shape(a.In.H, a.In.W, a.In.C+1), shape(a.In.H-1, a.In.W+1, a.In.C)} {
			b := cloneModel(a)
			b.In = in
			checkOther(t, a, b)
		}
		longer := cloneModel(a)
		longer.Layers = append(longer.Layers, impl.Layer{})
		checkOther(t, a, longer)
		if n := len(a.Layers); n > 0 {
			shorter := cloneModel(a)
			shorter.Layers = shorter.Layers[:n-1]
			checkOther(t, a, shorter)
		}
	}
	for _, a := range list[:12] {
		for place, l := range a.Layers {
			for _, name := range fields {
				for _, x := range edges {
					b := swapped(a, place, with(l, name, x))
					if want := x == *fieldOf(&l, name); impl.SameModel(a, b) != want || impl.SameModel(b, a) != want || !impl.SameModel(b, cloneModel(b)) {
						t.Fatalf("of %v and %v: not %t", a, b, want)
					}
				}
			}
			longer, other := cloneLayer(l), cloneLayer(l)
			longer.Weights, other.Bias = append(longer.Weights, 0), append(other.Bias, 0)
			checkOther(t, a, swapped(a, place, longer))
			checkOther(t, a, swapped(a, place, other))
			for i := range l.Weights {
				other := cloneLayer(l)
				other.Weights[i]++
				checkOther(t, a, swapped(a, place, other))
			}
			for i := range l.Bias {
				other := cloneLayer(l)
				other.Bias[i]--
				checkOther(t, a, swapped(a, place, other))
			}
		}
	}
}

// checkOther holds that a and b are not the same, whichever comes first.
func checkOther(t *testing.T, a, b impl.Model) {
	t.Helper()
	if impl.SameModel(a, b) || impl.SameModel(b, a) {
		t.Fatalf("%v and %v are the same", a, b)
	}
}

func TestSameModelOfEmptyListsAndOrders(t *testing.T) {
	if !impl.SameModel(impl.Model{}, impl.Model{Layers: []impl.Layer{}}) || !impl.SameModel(model(shape(9, 0, -1)), impl.Model{In: shape(9, 0, -1), Layers: []impl.Layer{}}) {
		t.Error("an empty list and nil are not the same")
	}
	if !impl.SameModel(model(shape(1, 1, 1), relu(0)), model(shape(1, 1, 1), impl.Layer{Kind: 4, Weights: []int{}, Bias: []int{}})) {
		t.Error("an empty list and nil are not the same in a layer")
	}
	checkOther(t, model(shape(1, 1, 1), relu(0), flat()), model(shape(1, 1, 1), flat(), relu(0)))
	checkOther(t, model(shape(1, 1, 1), relu(0), relu(0), flat()), model(shape(1, 1, 1), relu(0), flat(), flat()))
	checkOther(t, impl.Model{}, model(impl.Shape{}, impl.Layer{}))
	seven := model(shape(1, 1, 1), relus(7)...)
	if !impl.SameModel(seven, cloneModel(seven)) {
		t.Error("seven layers are not the same as themselves")
	}
	checkOther(t, seven, swapped(seven, 6, flat()))
	extreme := model(shape(math.MinInt, math.MaxInt, 0), impl.Layer{Kind: math.MinInt, Out: math.MaxInt, Weights: []int{math.MinInt}, Bias: []int{math.MaxInt}})
	if !impl.SameModel(extreme, cloneModel(extreme)) {
		t.Error("the ends of int are not the same as themselves")
	}
}

// checkCut holds CutModel at one from and to against the chapter.
func checkCut(t *testing.T, m impl.Model, from, to int) bool {
	t.Helper()
	got, ok := impl.CutModel(m, from, to)
	shapes, _ := wantWalk(m)
	if len(shapes) == 0 || from < 0 || from >= to || to > len(m.Layers) {
		if ok || !isZeroModel(got) {
			t.Fatalf("CutModel(%v, %d, %d) = %v, %t", m, from, to, got, ok)
		}
		return false
	}
	if want := model(shapes[from], m.Layers[from:to]...); !ok || !impl.SameModel(got, want) || !impl.ModelOk(got) {
		t.Fatalf("CutModel(%v, %d, %d) = %v, %t, not %v", m, from, to, got, ok, want)
	}
	return true
}

func TestCutModel(t *testing.T) {
	for _, m := range goodModels() {
		n, cuts := len(m.Layers), 0
		for from := -2; from <= n+2; from++ {
			for to := -2; to <= n+2; to++ {
				if checkCut(t, m, from, to) {
					cuts++
				}
			}
		}
		if cuts != n*(n+1)/2 {
			t.Errorf("%v is cut in %d ways", m, cuts)
		}
	}
	for _, m := range append(goodModels()[:20], badModels()[:60]...) {
		n := len(m.Layers)
		ends := []int{math.MinInt, math.MinInt + 1, -1 << 32, -1, 0, 1, n - 1, n, n + 1, 6, 7, 1 << 32, 1<<32 + 1, math.MaxInt - 1, math.MaxInt}
		for _, from := range ends {
			for _, to := range ends {
				checkCut(t, m, from, to)
			}
		}
	}
	checkModel(t, cutOf(t, goodModels()[0], 1, 3))
}

func cutOf(t *testing.T, m impl.Model, from, to int) impl.Model {
	t.Helper()
	got, ok := impl.CutModel(m, from, to)
	if !ok {
		t.Fatalf("%v is not cut from %d to %d", m, from, to)
	}
	return got
}

// checkJoin holds JoinModels against the chapter.
func checkJoin(t *testing.T, a, b impl.Model) bool {
	t.Helper()
	got, ok := impl.JoinModels(a, b)
	shapes, _ := wantWalk(a)
	others, _ := wantWalk(b)
	if len(shapes) == 0 || len(others) == 0 || shapes[len(shapes)-1] != b.In || len(a.Layers)+len(b.Layers) > 6 {
		if ok || !isZeroModel(got) {
			t.Fatalf("JoinModels(%v, %v) = %v, %t", a, b, got, ok)
		}
		return false
	}
	if want := model(a.In, slices.Concat(a.Layers, b.Layers)...); !ok || !impl.SameModel(got, want) || !impl.ModelOk(got) {
		t.Fatalf("JoinModels(%v, %v) = %v, %t, not %v", a, b, got, ok, want)
	}
	return true
}

func TestJoinModels(t *testing.T) {
	for n := range 9 {
		for k := range 9 {
			a, b := model(shape(2, 3, 4), relus(n)...), model(shape(2, 3, 4), relus(k)...)
			if got, want := checkJoin(t, a, b), n >= 1 && k >= 1 && n+k <= 6; got != want {
				t.Errorf("of %d and %d layers: %t", n, k, got)
			}
		}
	}
	// One side of b's In is another than that of a's last Shape.
	a := model(shape(4, 5, 4), pool(2, 2, 1), relu(0))
	if !checkJoin(t, a, model(shape(3, 4, 4), relu(1))) {
		t.Errorf("%v is not joined", a)
	}
	for _, s := range []impl.Shape{shape(2, 4, 4), shape(4, 4, 4), shape(3, 3, 4), shape(3, 5, 4), shape(3, 4, 3), shape(3, 4, 5), shape(4, 3, 4), shape(4, 5, 4), shape(6, 2, 4), shape(1, 1, 1)} {
		if checkJoin(t, a, model(s, relu(1))) {
			t.Errorf("%v is joined with %v", a, s)
		}
	}
	// A layer that would fit behind a is not enough, nor is an In of a's that fits behind b.
	if checkJoin(t, model(shape(2, 2, 2), flat()), model(shape(2, 2, 2), flat())) || checkJoin(t, model(shape(1, 1, 8), flat()), model(shape(2, 2, 2), flat())) || !checkJoin(t, model(shape(2, 2, 2), flat()), model(shape(1, 1, 8), flat())) {
		t.Error("the wrong ones are joined")
	}
}

func TestJoinEachWithEach(t *testing.T) {
	list := goodModels()
	for i, m := range list {
		list[i] = cutOf(t, m, 0, (len(m.Layers)+1)/2)
	}
	list = append(list, goodModels()[:20]...)
	joined := 0
	for _, a := range list {
		for _, b := range list {
			if checkJoin(t, a, b) {
				joined++
			}
		}
		for _, b := range badModels()[:200] {
			if checkJoin(t, a, b) || checkJoin(t, b, a) {
				t.Fatalf("%v and %v are joined", a, b)
			}
		}
	}
	if joined < 20 {
		t.Errorf("only %d were joined", joined)
	}
}

// Promise 4: a model that is cut at each place and joined again gives, costs and is the same.
func TestCutAndJoinedModelsAreTheSame(t *testing.T) {
	for _, m := range append(goodModels(), longModels()...) {
		x := some(m.In)
		want, _ := impl.EvalModel(m, x)
		for k := 1; k < len(m.Layers); k++ {
			a, b := cutOf(t, m, 0, k), cutOf(t, m, k, len(m.Layers))
			joined, ok := impl.JoinModels(a, b)
			if !ok || !impl.SameModel(joined, m) || impl.ModelText(joined) != impl.ModelText(m) {
				t.Fatalf("%v cut at %d and joined: %v, %t", m, k, joined, ok)
			}
			got, _ := impl.EvalModel(joined, x)
			between, _ := impl.EvalModel(a, x)
			behind, _ := impl.EvalModel(b, between)
			if !equal(got, want) || !equal(behind, want) {
				t.Fatalf("%v cut at %d gives %v, joined %v, not %v", m, k, behind, got, want)
			}
			if !slices.Equal(slices.Concat(impl.CostsOf(a), impl.CostsOf(b)), impl.CostsOf(joined)) || impl.TotalCost(a)+impl.TotalCost(b) != impl.TotalCost(m) || impl.TotalCost(joined) != impl.TotalCost(m) {
				t.Fatalf("%v cut at %d costs %v and %v", m, k, impl.CostsOf(a), impl.CostsOf(b))
			}
			if !slices.Equal(impl.ShapesOf(joined), slices.Concat(impl.ShapesOf(a), impl.ShapesOf(b)[1:])) || max(impl.MemoryOf(a), impl.MemoryOf(b)) != impl.MemoryOf(m) || impl.MemoryOf(joined) != impl.MemoryOf(m) {
				t.Fatalf("%v cut at %d has other Shapes or memory", m, k)
			}
		}
	}
}

// longModels are right, one for each Shape: layers of changing kinds, as long as one is right for what comes.
func longModels() []impl.Model {
	var list []impl.Model
	turn := 0
	eachShape(func(s impl.Shape) {
		m := model(s)
		for range 1 + (s.H+s.W+s.C)%6 {
			items := s.H * s.W * s.C
			choice := []impl.Layer{relu(turn%200 - 100), pool(2, 1+turn%3, 1+turn%2), conv(1+turn%8, 1+turn%2, 1, s.C, 1<<30, 6, turn%50), pool(3, 1+turn%2, 2-turn%2), dense(1+turn%8, items, 1<<30, 7, 0), flat(), relu(-5)}
			for i := range choice {
				l := choice[(i+turn*3)%len(choice)]
				if then, ok := wantShape(s, l); ok {
					m.Layers, s = append(m.Layers, l), then
					break
				}
			}
			turn++
		}
		list = append(list, m)
	})
	return list
}

// What a model gives has the last Shape, at models over every Shape.
func TestLongModels(t *testing.T) {
	lengths := map[int]int{}
	for _, m := range longModels() {
		if !checkModel(t, m) {
			t.Fatalf("%v is not right", m)
		}
		lengths[len(m.Layers)]++
	}
	for n := 1; n <= 6; n++ {
		if lengths[n] < 50 {
			t.Errorf("only %d have %d layers", lengths[n], n)
		}
	}
}

// roomyModel is m with room behind each list, the list of layers too.
func roomyModel(m impl.Model) impl.Model {
	n := len(m.Layers)
	m.Layers = append(slices.Clone(m.Layers), relu(77), relu(78))[:n]
	for i, l := range m.Layers {
		l.Weights, l.Bias = roomy(l.Weights), roomy(l.Bias)
		m.Layers[i] = l
	}
	return m
}

func modelHasRoom(m impl.Model) bool {
	n := len(m.Layers)
	for _, l := range m.Layers {
		if !hasRoom(l.Weights) || !hasRoom(l.Bias) {
			return false
		}
	}
	behind := m.Layers[:n+2][n:]
	return impl.SameLayer(behind[0], relu(77)) && impl.SameLayer(behind[1], relu(78))
}

// overwrite puts x all over the list, and over the room behind it.
func overwrite(list []int, x int) {
	list = list[:cap(list)]
	for i := range list {
		list[i] = x
	}
}

func overwriteModel(m impl.Model) {
	for _, l := range m.Layers {
		overwrite(l.Weights, 1001)
		overwrite(l.Bias, 1002)
	}
	layers := m.Layers[:cap(m.Layers)]
	for i := range layers {
		layers[i] = relu(1003)
	}
}

func TestModelArgumentsAreLeft(t *testing.T) {
	for _, m := range append(goodModels(), badModels()[:60]...) {
		m = roomyModel(m)
		x := some(m.In)
		x.Data = roomy(x.Data)
		before, xBefore := cloneModel(m), clone(x)
		out, _ := impl.EvalModel(m, x)
		whole, _ := impl.CutModel(m, 0, len(m.Layers))
		first, _ := impl.CutModel(m, 0, 1)
		tail := impl.Model{}
		if shapes := impl.ShapesOf(m); len(shapes) > 0 {
			tail = model(shapes[len(shapes)-1], relu(5))
		}
		joined, _ := impl.JoinModels(m, tail)
		behind, _ := impl.JoinModels(model(m.In, relu(5)), m)
		impl.ModelOk(m)
		impl.TotalCost(m)
		impl.MemoryOf(m)
		impl.SameModel(m, whole)
		impl.CostliestLayer(m)
		impl.ModelText(m)
		overwrite(out.Data, 1000)
		overwrite(impl.CostsOf(m), 1000)
		for _, got := range []impl.Model{whole, first, joined, behind} {
			overwriteModel(got)
		}
		for i, list := 0, impl.ShapesOf(m); i < len(list); i++ {
			list[i] = shape(9, 9, 9)
		}
		if !impl.SameModel(m, before) || !modelHasRoom(m) || !equal(x, xBefore) || !hasRoom(x.Data) {
			t.Fatalf("%v or its input shares memory with an answer, or was written into", before)
		}
		if shapes, _ := wantWalk(before); len(shapes) > 0 {
			checkModel(t, m)
		}
	}
}

// What a layer that only hands its numbers on gives is new memory too.
func TestEvalModelGivesNewMemory(t *testing.T) {
	for _, m := range []impl.Model{model(shape(1, 1, 4), flat()), model(shape(1, 1, 4), relu(-128)), model(shape(1, 1, 4), pool(2, 1, 1)), model(shape(1, 1, 4), flat(), flat(), relu(-128))} {
		x := tensor(1, 1, 4, 1, 2, 3, 4)
		out, _ := impl.EvalModel(m, x)
		overwrite(out.Data, 1000)
		if !equal(x, tensor(1, 1, 4, 1, 2, 3, 4)) {
			t.Errorf("%v shares its answer with its input: %v", m, x)
		}
	}
}

// checkOwnLists writes into each list of m, and into the room behind it, to see whether two share memory.
func checkOwnLists(t *testing.T, m impl.Model) {
	t.Helper()
	var lists [][]int
	for _, l := range m.Layers {
		lists = append(lists, l.Weights, l.Bias)
	}
	for i, own := range lists {
		overwrite(own, 1000+i)
	}
	for i, own := range lists {
		if !slices.Equal(own, same(len(own), 1000+i)) {
			t.Fatalf("list %d of %v was written into through another", i, m)
		}
	}
}

// No two lists of one model that is answered share memory, though those of the arguments do.
func TestListsOfAModelAreItsOwn(t *testing.T) {
	list := []int{1, 2, 3, 4}
	one := impl.Layer{Kind: 0, Out: 4, Mult: 1 << 30, Weights: list, Bias: list}
	two := impl.Layer{Kind: 1, Out: 1, Size: 1, Step: 1, Mult: 1 << 30, Weights: list, Bias: list[:1]}
	m := model(shape(1, 1, 1), one, two, one, two)
	loop := model(shape(1, 1, 1), one, two)
	joined, ok := impl.JoinModels(loop, loop)
	for _, got := range []impl.Model{cutOf(t, m, 0, 4), cutOf(t, m, 1, 4), cutOf(t, m, 2, 3), joined} {
		checkOwnLists(t, got)
	}
	if !ok || !slices.Equal(list, []int{1, 2, 3, 4}) || !checkModel(t, m) {
		t.Errorf("the lists of the argument were written into: %t, %v", ok, list)
	}
}

func TestModelText(t *testing.T) {
	for _, c := range []struct {
		m    impl.Model
		want string
	}{
		{model(shape(2, 2, 1), relu(0), pool(2, 2, 1)), "2x2x1 > relu 0 0 0 0 0 0 0 0 > max 0 2 1 0 0 0 0 0"},
		{model(shape(1, 1, 1), flat()), "1x1x1 > flat 0 0 0 0 0 0 0 0"},
		{model(shape(8, 7, 6), pool(3, 3, 2), conv(8, 1, 1, 6, 12, 5, -7), relu(-128)), "8x7x6 > avg 0 3 2 0 0 0 0 0 > conv 8 1 1 12 5 -7 48 8 > relu 0 0 0 0 0 -128 0 0"},
		{model(shape(4, 4, 4), dense(3, 64, math.MaxInt32, 31, 127)), "4x4x4 > dense 3 0 0 2147483647 31 127 192 3"},
		{model(shape(1, 1, 1)), ""}, {impl.Model{}, ""}, {model(shape(1, 1, 1), relus(7)...), ""}, {model(impl.Shape{}, relu(0)), ""}, {model(shape(1, 1, 1), relu(128)), ""},
	} {
		if got := impl.ModelText(c.m); got != c.want {
			t.Errorf("ModelText(%v) = %q, not %q", c.m, got, c.want)
		}
	}
}
