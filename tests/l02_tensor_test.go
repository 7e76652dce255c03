package tests

import (
	"math"
	"slices"
	"strings"
	"testing"

	"loop.example/g00778/impl"
)

// badSides are no sides of a Shape.
var badSides = []int{math.MinInt, math.MinInt + 1, -1 << 32, -9, -8, -2, -1, 0, 9, 10, 16, 300, 1 << 21, 1<<32 + 1, 1 << 62, math.MaxInt - 1, math.MaxInt}

func shape(h, w, c int) impl.Shape { return impl.Shape{H: h, W: w, C: c} }

func tensor(h, w, c int, numbers ...int) impl.Tensor {
	return impl.Tensor{Shape: shape(h, w, c), Data: numbers}
}

// eachShape calls f with all that are ShapeOk.
func eachShape(f func(s impl.Shape)) {
	for h := 1; h <= 8; h++ {
		for w := 1; w <= 8; w++ {
			for c := 1; c <= 8; c++ {
				f(shape(h, w, c))
			}
		}
	}
}

// badShapes have one side, two or three that are not so.
func badShapes() []impl.Shape {
	var list []impl.Shape
	for _, x := range badSides {
		for _, y := range []int{1, 2, 8} {
			list = append(list, shape(x, y, 1), shape(1, x, y), shape(y, 1, x), shape(x, y, x), shape(x, x, y), shape(y, x, x))
		}
		for _, y := range badSides {
			list = append(list, shape(x, y, x), shape(x, x, y), shape(y, x, 1))
		}
	}
	return list
}

// some is a tensor of that Shape with numbers that are spread over all of eight bits.
func some(s impl.Shape) impl.Tensor {
	t := impl.Tensor{Shape: s}
	for i := 0; i < s.H*s.W*s.C; i++ {
		t.Data = append(t.Data, (i*89+s.H*31+s.W*7+s.C)%256-128)
	}
	return t
}

// badTensors are not TensorOk: by a side, by how many numbers they have, or by a number.
func badTensors() []impl.Tensor {
	list := []impl.Tensor{
		{}, tensor(0, 0, 0), tensor(0, 0, 0, 1), tensor(1, 1, 1), tensor(1, 1, 1, 1, 2), tensor(2, 1, 2, 1, 2, 3), tensor(2, 1, 2, 1, 2, 3, 4, 5),
		tensor(-1, -1, 1, 1), tensor(-1, -2, 2, 1, 2, 3, 4), tensor(9, 1, 1, 1, 2, 3, 4, 5, 6, 7, 8, 9), tensor(1, 1, 9, 1, 2, 3, 4, 5, 6, 7, 8, 9),
		tensor(1<<32, 1<<32, 1), tensor(1<<62, 4, 1), tensor(math.MinInt, 2, 1), tensor(math.MaxInt, math.MaxInt, 1, 7),
		{Shape: shape(8, 8, 8), Data: make([]int, 511)}, {Shape: shape(8, 8, 8), Data: make([]int, 513)}, {Shape: shape(8, 8, 8), Data: make([]int, 64)},
		{Shape: shape(1, 1, 1), Data: []int{}}, {Shape: shape(8, 8, 8), Data: make([]int, 300)},
	}
	for _, x := range []int{math.MinInt, -1 << 32, -257, -256, -130, -129, 128, 129, 255, 256, 1 << 32, 1<<32 + 1, math.MaxInt} {
		list = append(list, tensor(1, 1, 1, x), tensor(2, 1, 2, x, 0, 0, 0), tensor(2, 1, 2, 0, 0, x, 0), tensor(2, 1, 2, 0, 0, 0, x))
	}
	for _, x := range badSides {
		list = append(list, tensor(x, 1, 1, 5), tensor(1, x, 1, 5), tensor(1, 1, x, 5))
	}
	return list
}

// goodTensors are TensorOk: one of each Shape, and some with numbers at both ends.
func goodTensors() []impl.Tensor {
	list := []impl.Tensor{tensor(1, 1, 1, -128), tensor(1, 1, 1, 127), tensor(2, 1, 2, 127, -128, 0, -1), tensor(1, 2, 2, -128, -128, -128, -128)}
	eachShape(func(s impl.Shape) { list = append(list, some(s)) })
	return list
}

// equal holds tensors against each other as values, right or not.
func equal(a, b impl.Tensor) bool { return a.Shape == b.Shape && slices.Equal(a.Data, b.Data) }

func clone(t impl.Tensor) impl.Tensor {
	return impl.Tensor{Shape: t.Shape, Data: slices.Clone(t.Data)}
}

func isZero(t impl.Tensor) bool { return t.Shape == impl.Shape{} && len(t.Data) == 0 }

func TestShapeLimits(t *testing.T) {
	if impl.MaxSide != 8 || impl.MaxItems != 300 {
		t.Error("a limit is another")
	}
}

func TestShapeOkAndSizeOf(t *testing.T) {
	for _, c := range []struct {
		s    impl.Shape
		size int
	}{{shape(1, 1, 1), 1}, {shape(8, 8, 8), 512}, {shape(8, 1, 1), 8}, {shape(1, 8, 1), 8}, {shape(1, 1, 8), 8}, {shape(2, 3, 4), 24}, {shape(5, 7, 8), 280}, {shape(6, 7, 8), 336}} {
		if !impl.ShapeOk(c.s) || impl.SizeOf(c.s) != c.size {
			t.Errorf("%v: %t, %d, not true, %d", c.s, impl.ShapeOk(c.s), impl.SizeOf(c.s), c.size)
		}
	}
	eachShape(func(s impl.Shape) {
		if !impl.ShapeOk(s) || impl.SizeOf(s) != s.H*s.W*s.C {
			t.Errorf("%v: %t, %d", s, impl.ShapeOk(s), impl.SizeOf(s))
		}
	})
	for _, s := range append(badShapes(), impl.Shape{}) {
		if impl.ShapeOk(s) || impl.SizeOf(s) != 0 {
			t.Errorf("%v: %t, %d, not false, 0", s, impl.ShapeOk(s), impl.SizeOf(s))
		}
	}
}

func TestTensorOk(t *testing.T) {
	for _, x := range goodTensors() {
		if !impl.TensorOk(x) {
			t.Errorf("%v is not TensorOk", x)
		}
	}
	for _, x := range badTensors() {
		if impl.TensorOk(x) {
			t.Errorf("%v is TensorOk", x)
		}
	}
}

func TestPlaceOf(t *testing.T) {
	for _, c := range []struct {
		s             impl.Shape
		h, w, c, want int
	}{
		{shape(1, 1, 1), 0, 0, 0, 0}, {shape(2, 3, 4), 0, 0, 1, 1}, {shape(2, 3, 4), 0, 1, 0, 4}, {shape(2, 3, 4), 1, 0, 0, 12}, {shape(2, 3, 4), 1, 2, 3, 23},
		{shape(8, 8, 8), 7, 7, 7, 511}, {shape(8, 8, 8), 7, 0, 0, 448}, {shape(1, 1, 8), 0, 0, 7, 7}, {shape(8, 1, 1), 7, 0, 0, 7},
		{shape(2, 3, 4), 2, 0, 0, -1}, {shape(2, 3, 4), 0, 3, 0, -1}, {shape(2, 3, 4), 0, 0, 4, -1}, {shape(2, 3, 4), 1, -1, 0, -1},
	} {
		if got := impl.PlaceOf(c.s, c.h, c.w, c.c); got != c.want {
			t.Errorf("PlaceOf(%v, %d, %d, %d) = %d, not %d", c.s, c.h, c.w, c.c, got, c.want)
		}
	}
	for _, x := range append([]int{-1, 2, 8}, badSides...) {
		if x == 0 {
			continue
		}
		for _, s := range []impl.Shape{shape(1, 1, 1), shape(2, 2, 2)} {
			if impl.PlaceOf(s, x, 0, 0) != -1 || impl.PlaceOf(s, 0, x, 0) != -1 || impl.PlaceOf(s, 0, 0, x) != -1 || impl.PlaceOf(s, x, x, x) != -1 {
				t.Errorf("%v has a place at %d", s, x)
			}
		}
	}
	for _, s := range badShapes() {
		if impl.PlaceOf(s, 0, 0, 0) != -1 || impl.PlaceOf(s, s.H-1, s.W-1, s.C-1) != -1 {
			t.Errorf("%v has a place", s)
		}
	}
}

// Promise 2: the places of a Shape are 0 .. its size less 1, in the order of the rows, the columns and the channels.
func TestEachPlaceHasOneNumber(t *testing.T) {
	eachShape(func(s impl.Shape) {
		x := some(s)
		place := 0
		for h := range s.H {
			for w := range s.W {
				for c := range s.C {
					item, ok := impl.ItemAt(x, h, w, c)
					if got := impl.PlaceOf(s, h, w, c); got != place || !ok || item != x.Data[place] {
						t.Fatalf("%v at %d, %d, %d: place %d, not %d; item %d, %t", s, h, w, c, got, place, item, ok)
					}
					place++
				}
			}
		}
		if place != impl.SizeOf(s) {
			t.Fatalf("%v has %d places", s, place)
		}
		for h := -1; h <= s.H; h++ {
			for w := -1; w <= s.W; w++ {
				for c := -1; c <= s.C; c++ {
					inside := h >= 0 && h < s.H && w >= 0 && w < s.W && c >= 0 && c < s.C
					item, ok := impl.ItemAt(x, h, w, c)
					if ok != inside || !ok && item != 0 || inside != (impl.PlaceOf(s, h, w, c) >= 0) {
						t.Fatalf("%v at %d, %d, %d: %d, %t", s, h, w, c, item, ok)
					}
				}
			}
		}
	})
}

func TestItemAt(t *testing.T) {
	x := tensor(2, 1, 2, 1, -128, 127, 4)
	for _, c := range []struct{ h, w, c, want int }{{0, 0, 0, 1}, {0, 0, 1, -128}, {1, 0, 0, 127}, {1, 0, 1, 4}} {
		if got, ok := impl.ItemAt(x, c.h, c.w, c.c); got != c.want || !ok {
			t.Errorf("%v = %d, %t", c, got, ok)
		}
	}
	for _, at := range [][3]int{{2, 0, 0}, {0, 1, 0}, {0, 0, 2}, {-1, 0, 0}, {0, -1, 0}, {0, 0, -1}, {math.MinInt, 0, 0}, {0, math.MaxInt, 0}, {0, 0, math.MaxInt}, {math.MaxInt, math.MinInt, math.MaxInt}, {1, -1, 3}, {0, 1, -1}} {
		if got, ok := impl.ItemAt(x, at[0], at[1], at[2]); got != 0 || ok {
			t.Errorf("%v = %d, %t, not 0, false", at, got, ok)
		}
	}
	for _, x := range badTensors() {
		if got, ok := impl.ItemAt(x, 0, 0, 0); got != 0 || ok {
			t.Errorf("%v has %d, %t", x, got, ok)
		}
	}
}

func TestFillOf(t *testing.T) {
	for _, c := range [][2]int{
		{0, 0}, {1, 1}, {-1, -1}, {126, 126}, {127, 127}, {128, 127}, {200, 127}, {-127, -127}, {-128, -128}, {-129, -128}, {256, 127},
		{math.MaxInt, 127}, {math.MinInt, -128},
	} {
		for _, s := range []impl.Shape{shape(1, 1, 1), shape(1, 2, 3), shape(8, 8, 8)} {
			got, ok := impl.FillOf(s, c[0])
			if want := (impl.Tensor{Shape: s, Data: same(s.H*s.W*s.C, c[1])}); !ok || !equal(got, want) || !impl.TensorOk(got) {
				t.Errorf("FillOf(%v, %d) = %v, %t", s, c[0], got, ok)
			}
		}
	}
	for _, s := range append(badShapes(), impl.Shape{}) {
		if got, ok := impl.FillOf(s, 5); ok || !isZero(got) {
			t.Errorf("FillOf(%v) = %v, %t", s, got, ok)
		}
	}
}

func TestReshape(t *testing.T) {
	x := tensor(2, 1, 4, 1, 2, 3, 4, -128, 127, 7, 8)
	for _, s := range []impl.Shape{shape(2, 1, 4), shape(8, 1, 1), shape(1, 8, 1), shape(1, 1, 8), shape(2, 2, 2), shape(4, 2, 1), shape(1, 4, 2)} {
		got, ok := impl.Reshape(x, s)
		if !ok || got.Shape != s || !slices.Equal(got.Data, x.Data) || !impl.TensorOk(got) {
			t.Errorf("Reshape to %v: %v, %t", s, got, ok)
		}
	}
	for _, s := range append(badShapes(), impl.Shape{}, shape(1, 1, 7), shape(3, 3, 1), shape(1, 1, 1), shape(8, 8, 8), shape(-2, -4, 1), shape(-1, 1, -8), shape(16, 1, 1)) {
		if got, ok := impl.Reshape(x, s); ok || !equal(got, x) {
			t.Errorf("Reshape to %v: %v, %t, not what it was and false", s, got, ok)
		}
	}
	for _, x := range badTensors() {
		for _, s := range []impl.Shape{x.Shape, shape(1, 1, 1), shape(1, 2, 2), shape(8, 8, 8)} {
			if got, ok := impl.Reshape(x, s); ok || !equal(got, x) {
				t.Errorf("Reshape of %v: %v, %t, not what it was and false", x, got, ok)
			}
		}
	}
	long := tensor(16, 1, 1, same(16, 3)...)
	if got, ok := impl.Reshape(long, shape(4, 4, 1)); ok || !equal(got, long) {
		t.Errorf("a side of 16 is taken: %v, %t", got, ok)
	}
}

func TestFlatOf(t *testing.T) {
	for _, x := range goodTensors() {
		got, ok := impl.FlatOf(x)
		want := x
		if len(x.Data) <= 8 {
			want.Shape = shape(1, 1, len(x.Data))
		}
		if ok != (len(x.Data) <= 8) || !equal(got, want) {
			t.Errorf("FlatOf(%v) = %v, %t", x, got, ok)
		}
	}
	for _, c := range []struct {
		s  impl.Shape
		ok bool
	}{{shape(1, 1, 1), true}, {shape(2, 2, 2), true}, {shape(8, 1, 1), true}, {shape(1, 7, 1), true}, {shape(3, 3, 1), false}, {shape(1, 3, 3), false}, {shape(5, 2, 1), false}, {shape(2, 1, 8), false}, {shape(8, 8, 8), false}} {
		x := some(c.s)
		got, ok := impl.FlatOf(x)
		if ok != c.ok || !ok && !equal(got, x) || ok && got.Shape != shape(1, 1, len(x.Data)) || !slices.Equal(got.Data, x.Data) {
			t.Errorf("FlatOf of %v: %v, %t", c.s, got, ok)
		}
	}
	for _, x := range badTensors() {
		if got, ok := impl.FlatOf(x); ok || !equal(got, x) {
			t.Errorf("FlatOf(%v) = %v, %t, not what it was and false", x, got, ok)
		}
	}
}

func TestSameTensor(t *testing.T) {
	for _, x := range goodTensors() {
		if !impl.SameTensor(x, x) || !impl.SameTensor(x, clone(x)) {
			t.Errorf("%v is not the same as itself", x)
		}
		for _, place := range []int{0, len(x.Data) / 2, len(x.Data) - 1} {
			other := clone(x)
			other.Data[place] = -1 - other.Data[place]
			if impl.SameTensor(x, other) || impl.SameTensor(other, x) {
				t.Errorf("%v with another number at %d is the same", x, place)
			}
		}
	}
	four := []int{1, 2, 3, 4}
	shapes := []impl.Shape{shape(1, 1, 4), shape(1, 4, 1), shape(4, 1, 1), shape(2, 2, 1), shape(2, 1, 2), shape(1, 2, 2)}
	for i, a := range shapes {
		for j, b := range shapes {
			if got := impl.SameTensor(impl.Tensor{Shape: a, Data: four}, impl.Tensor{Shape: b, Data: four}); got != (i == j) {
				t.Errorf("of %v and %v: %t", a, b, got)
			}
		}
	}
	if impl.SameTensor(tensor(1, 1, 2, 5, 5), tensor(1, 1, 3, 5, 5, 5)) || impl.SameTensor(tensor(1, 1, 2, 1, 2), tensor(1, 1, 2, 2, 1)) {
		t.Error("others are the same")
	}
	for _, x := range badTensors() {
		if impl.SameTensor(x, x) || impl.SameTensor(x, tensor(1, 1, 1, 5)) || impl.SameTensor(tensor(1, 1, 1, 5), x) || impl.SameTensor(x, impl.Tensor{}) {
			t.Errorf("%v is the same as one", x)
		}
	}
}

func TestArgMax(t *testing.T) {
	for _, c := range []struct {
		x    impl.Tensor
		want int
	}{
		{tensor(1, 1, 1, -128), 0}, {tensor(1, 1, 1, 127), 0}, {tensor(2, 1, 2, 1, 2, 3, 4), 3}, {tensor(2, 1, 2, 4, 3, 2, 1), 0}, {tensor(2, 1, 2, 1, 4, 4, 2), 1},
		{tensor(1, 2, 2, 5, 5, 5, 5), 0}, {tensor(1, 2, 2, -128, -128, -127, -127), 2}, {tensor(1, 1, 3, -5, -3, -4), 1}, {tensor(3, 1, 1, 127, 126, 127), 0},
		{tensor(3, 1, 1, -128, -128, -128), 0}, {tensor(3, 1, 1, -1, 0, 127), 2}, {tensor(1, 3, 1, -1, 0, -2), 1}, {impl.Tensor{Shape: shape(8, 8, 8), Data: same(511, 126, 127)}, 511},
	} {
		if got := impl.ArgMax(c.x); got != c.want {
			t.Errorf("ArgMax(%v) = %d, not %d", c.x, got, c.want)
		}
	}
	for _, x := range goodTensors() {
		if got := impl.ArgMax(x); got != slices.Index(x.Data, slices.Max(x.Data)) {
			t.Errorf("ArgMax(%v) = %d", x, got)
		}
	}
	for _, x := range badTensors() {
		if got := impl.ArgMax(x); got != -1 {
			t.Errorf("ArgMax(%v) = %d, not -1", x, got)
		}
	}
}

// fullText is that of the greatest Shape with one number everywhere.
func fullText(number string) string { return "8x8x8:" + strings.Repeat(" "+number, 512) }

// texts are of TensorOk tensors.
func texts() map[string]impl.Tensor {
	return map[string]impl.Tensor{
		"1x1x1: 0": tensor(1, 1, 1, 0), "1x1x1: -1": tensor(1, 1, 1, -1), "1x1x1: 127": tensor(1, 1, 1, 127), "1x1x1: -128": tensor(1, 1, 1, -128),
		"2x1x2: 1 2 3 4": tensor(2, 1, 2, 1, 2, 3, 4), "1x3x1: 100 -100 10": tensor(1, 3, 1, 100, -100, 10), "1x1x8: 0 0 0 0 0 0 0 1": tensor(1, 1, 8, 0, 0, 0, 0, 0, 0, 0, 1),
		"8x1x1: -9 -10 -99 9 10 99 -127 126": tensor(8, 1, 1, -9, -10, -99, 9, 10, 99, -127, 126),
		fullText("-128"):                     {Shape: shape(8, 8, 8), Data: same(512, -128)}, fullText("0"): {Shape: shape(8, 8, 8), Data: same(512, 0)},
	}
}

func TestTensorText(t *testing.T) {
	for text, x := range texts() {
		if got := impl.TensorText(x); got != text {
			t.Errorf("TensorText(%v) = %q, not %q", x, got, text)
		}
	}
	for _, x := range badTensors() {
		if got := impl.TensorText(x); got != "" {
			t.Errorf("TensorText(%v) = %q", x, got)
		}
	}
}

func TestParseTensor(t *testing.T) {
	for text, x := range texts() {
		if got, ok := impl.ParseTensor(text); !ok || !equal(got, x) {
			t.Errorf("ParseTensor(%q) = %v, %t, not %v", text, got, ok, x)
		}
	}
}

// notTexts are nearly those of tensors.
var notTexts = []string{
	"", " ", ":", ": ", "x", "xx", "xx:", "xx: ", "1", "1x1x1", "1x1x1:", "1x1x1: ", "1x1x1:0", "1x1x1 0", "1x1x1 : 0", "1x1x10: 0", "1x1: 0", "1x1x1x1: 0", "x1x1: 0", "1xx1: 0", "1x1x: 0",
	" 1x1x1: 0", "1x1x1: 0 ", "1x1x1:  0", "1x1x1:\t0", "1x1x1: 0\n", "1x1x1: 0\x00", "\n1x1x1: 0", "1x1x1: 0 0", "1x1x2: 0", "1x1x2: 0  0", "1x1x2: 0, 0", "1x1x2: 0 0 ", "1x1x2: 0: 0", "1x1x1: : 0", "1x1x1:: 0", "1x1x1: 0: ",
	"1X1X1: 0", "1*1*1: 0", "1 x1x1: 0", "1x 1x1: 0", "1x1x1: x", "a", "1x1x1: a", "ax1x1: 0", "1x1x1: 1a", "1x1x1: a1", "1x1x1: 0x1", "1x1x1: 1e1", "1x1x1: 1.0", "1x1x1: 1_0",
	"01x1x1: 0", "1x01x1: 0", "1x1x01: 0", "001x1x1: 0", "+1x1x1: 0", "1x+1x1: 0", "1x1x+1: 0", "-1x-1x1: 0", "-1x1x1: 0", "1x1x-1: 0", "0x1x1: ", "0x1x1:", "0x0x0:", "0x0x0: ", "0x1x1: 0", "1x0x1: 0", "1x1x0: 0", "-0x1x1: 0", "-8x-1x1: 0 0 0 0 0 0 0 0",
	"1x1x1: 00", "1x1x1: 01", "1x1x1: 007", "1x1x1: -0", "1x1x1: -00", "1x1x1: -01", "1x1x1: -07", "1x1x1: +0", "1x1x1: +1", "1x1x1: --1", "1x1x1: -+1", "1x1x1: +-1", "1x1x1: -", "1x1x1: +", "1x1x1: 1-", "1x1x1: - 1", "1x1x1: 1-1",
	"1x1x1: 128", "1x1x1: -129", "1x1x1: 129", "1x1x1: 256", "1x1x1: -256", "1x1x1: 1000", "1x1x1: 999999999", "1x1x1: 1000000000", "1x1x1: 2147483648", "1x1x1: 4294967296", "1x1x1: 4294967297", "1x1x1: -4294967295",
	"1x1x1: 9223372036854775807", "1x1x1: 9223372036854775808", "1x1x1: -9223372036854775808", "1x1x1: -9223372036854775809", "1x1x1: 18446744073709551615", "1x1x1: 18446744073709551616", "1x1x1: 18446744073709551617", "1x1x1: 36893488147419103233", "1x1x1: 340282366920938463463374607431768211457",
	"9x1x1: 0 0 0 0 0 0 0 0 0", "1x1x9: 0 0 0 0 0 0 0 0 0", "18446744073709551617x1x1: 0", "1x4294967297x1: 0", "1x1x36893488147419103233: 0", "4294967296x4294967296x1: 0",
	"1x1x1: \xff", "\xffx1x1: 0", "1x1x1: 0\xff", "1x1x1: \xff0", "1x1x1:\xff0", "1x1x1: \xc3", "1x1x1: \xed\xa0\x80", "1x1x1: \ufffd", "1x1x1: \u0660", "1x1x1: \uff11", "1x1x1: \u00b2", "\uff11x1x1: 0", "1x1x1:\u00a00", "1\u00d71\u00d71: 0", "1x1x1: \u22121", "\ufeff1x1x1: 0", "1x1x1: 0\u200b", "1x1x1\u003a\u30000",
	"2x1x2: 1 2 3", "2x1x2: 1 2 3 4 5", "2x1x2: 1 2 3 4 ", "2x1x2: 1 2  3 4", "2x1x2: 1 2 34", "2x1x2: 1\n2\n3\n4", "2x1x2:1 2 3 4", "2x1x2: 1, 2, 3, 4", "2x1x2: [1 2 3 4]",
}

func TestParseTensorRefuses(t *testing.T) {
	list := append(slices.Clone(notTexts), fullText("0")+" 0", strings.TrimSuffix(fullText("0"), " 0"), fullText("128"), fullText("-0"), fullText("00"),
		"1x1x1: "+strings.Repeat("0", 5000), "1x1x1: "+strings.Repeat("9", 5000), "1x1x1: "+strings.Repeat("0", 5000)+"1", strings.Repeat("1", 5000)+"x1x1: 1", strings.Repeat("1x", 5000)+"1: 1")
	for _, text := range list {
		if got, ok := impl.ParseTensor(text); ok || !isZero(got) {
			t.Errorf("ParseTensor(%q) = %v, %t, not the zero value and false", text, got, ok)
		}
	}
}

// Promise 2: what is written is read as it was.
func TestTextsAreReadAsTheyWereWritten(t *testing.T) {
	for _, x := range goodTensors() {
		if got, ok := impl.ParseTensor(impl.TensorText(x)); !ok || !equal(got, x) {
			t.Errorf("%v is read as %v, %t", x, got, ok)
		}
	}
	for number := -128; number <= 127; number++ {
		x := tensor(1, 1, 2, number, -1-number)
		if got, ok := impl.ParseTensor(impl.TensorText(x)); !ok || !equal(got, x) {
			t.Errorf("%v is read as %v, %t", x, got, ok)
		}
	}
}

// Promise 2, the other way: a text that is read is the one that is written, so none of two texts is read as one tensor.
func TestNoOtherTextIsRead(t *testing.T) {
	read := 0
	check := func(text string) {
		got, ok := impl.ParseTensor(text)
		if ok {
			read++
		}
		if ok && (!impl.TensorOk(got) || impl.TensorText(got) != text) || !ok && !isZero(got) {
			t.Fatalf("%q is read as %v, %t", text, got, ok)
		}
	}
	for _, text := range []string{"2x1x2: 10 -2 0 127", "1x1x1: 0", "1x1x3: -128 5 -9", "1x2x1: 100 20"} {
		for at := range len(text) + 1 {
			check(text[:at])
			check(text[at:])
			for b := range 256 {
				check(text[:at] + string([]byte{byte(b)}) + text[at:])
				if at < len(text) {
					check(text[:at] + string([]byte{byte(b)}) + text[at+1:])
				}
			}
			if at < len(text) {
				check(text[:at] + text[at+1:])
			}
		}
	}
	if read < 50 {
		t.Errorf("only %d texts were read", read)
	}
}

func TestTensorArgumentsAreLeft(t *testing.T) {
	for _, x := range append(badTensors(), goodTensors()...) {
		before := clone(x)
		impl.TensorOk(x)
		impl.ItemAt(x, 0, 0, 0)
		impl.SameTensor(x, x)
		impl.ArgMax(x)
		impl.TensorText(x)
		one, _ := impl.Reshape(x, shape(1, 1, len(x.Data)))
		other, _ := impl.Reshape(x, shape(7, 7, 7))
		flat, _ := impl.FlatOf(x)
		for _, got := range []impl.Tensor{one, other, flat} {
			for i := range got.Data {
				got.Data[i] = 1000 + i
			}
			_ = append(got.Data, 7)
			if !equal(x, before) {
				t.Fatalf("%v shares its numbers with an answer, or was written into: %v", before, x)
			}
		}
	}
	// Numbers behind the end of a list belong to the caller as well.
	room := []int{1, 2, 3, 4, 5}
	for _, s := range []impl.Shape{shape(1, 2, 2), shape(1, 1, 3)} {
		got, _ := impl.Reshape(tensor(2, 1, 2, room[:4]...), s)
		_ = append(got.Data, 9)
	}
	if !slices.Equal(room, []int{1, 2, 3, 4, 5}) {
		t.Errorf("numbers behind the end are written into: %v", room)
	}
}

func TestTensorAnswersAreNew(t *testing.T) {
	a, _ := impl.FillOf(shape(1, 1, 2), 5)
	a.Data[0] = 9
	b, _ := impl.FillOf(shape(1, 1, 2), 5)
	c, _ := impl.ParseTensor("1x1x2: 5 5")
	c.Data[1] = 9
	d, _ := impl.ParseTensor("1x1x2: 5 5")
	if !slices.Equal(b.Data, []int{5, 5}) || !slices.Equal(d.Data, []int{5, 5}) {
		t.Error("answers share their numbers")
	}
}
