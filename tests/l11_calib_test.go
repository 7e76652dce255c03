package tests

import (
	"math"
	"math/big"
	"slices"
	"strconv"
	"testing"

	"loop.example/g00778/impl"
)

const maxReal = 1000000000

// nums and zeros are those of a Scale, right and not.
var nums = []int{
	math.MinInt, math.MinInt + 1, -1 << 32, -maxReal - 1, -maxReal, -10, -1, 0, 1, 2, 3, 4, 7, 10, 127, 254, 255, 256, 1000, 3921568, 3921569, 7843137, 7843138, 7874015, 7874016,
	maxReal/2 - 1, maxReal / 2, maxReal - 1, maxReal, maxReal + 1, 1 << 32, 1<<32 + 1, math.MaxInt - 1, math.MaxInt,
}

var zeros = []int{math.MinInt, -1 << 32, -257, -256, -130, -129, -128, -127, -28, -1, 0, 1, 5, 126, 127, 128, 129, 255, 256, 1 << 32, math.MaxInt}

// reals are numbers around the ends of a real and around 0, and some that are no reals.
var reals = []int{
	math.MinInt, math.MinInt + 1, -1 << 32, -2*maxReal - 1, -maxReal - 2, -maxReal - 1, -maxReal, -maxReal + 1, -maxReal / 2, -7843138, -7843137, -1280, -1275, -1001, -1000, -256, -255, -128, -127, -26, -25, -24, -16, -15, -14, -7, -6, -5, -4, -3, -2, -1,
	0, 1, 2, 3, 4, 5, 6, 7, 14, 15, 16, 24, 25, 26, 127, 128, 255, 256, 1000, 1001, 1270, 1275, 1285, 7843137, 7843138, maxReal / 2, maxReal - 1, maxReal, maxReal + 1, maxReal + 2, 2*maxReal + 1, 1 << 32, math.MaxInt - 1, math.MaxInt,
}

func scale(num, zero int) impl.Scale { return impl.Scale{Num: num, Zero: zero} }

func wantScaleOk(s impl.Scale) bool { return in(s.Num, 1, maxReal) && in(s.Zero, -128, 127) }

// eachScale calls f with each of nums and of zeros.
func eachScale(f func(s impl.Scale)) {
	for _, num := range nums {
		for _, zero := range zeros {
			f(scale(num, zero))
		}
	}
}

// goodScales and badScales are those that are ScaleOk and those that are not.
func goodScales() []impl.Scale { return scalesThat(true) }

func badScales() []impl.Scale { return append(scalesThat(false), impl.Scale{}) }

func scalesThat(ok bool) []impl.Scale {
	var list []impl.Scale
	eachScale(func(s impl.Scale) {
		if wantScaleOk(s) == ok {
			list = append(list, s)
		}
	})
	return list
}

// ceilDiv is x divided by d, up: what is down with the signs turned.
func ceilDiv(x, d *big.Int) *big.Int {
	down := floorDiv(new(big.Int).Neg(x), d)
	return down.Neg(down)
}

func intOf(x *big.Int) int { return int(x.Int64()) }

// wantRange sorts the list with a 0 in it.
func wantRange(list []int) (int, int, bool) {
	if len(list) == 0 || len(list) > 300 || !among(-maxReal, maxReal, list...) {
		return 0, 0, false
	}
	sorted := append([]int{0}, list...)
	slices.Sort(sorted)
	return sorted[0], sorted[len(list)], true
}

func wantScaleFor(list []int) (impl.Scale, bool) {
	least, most, ok := wantRange(list)
	if !ok {
		return impl.Scale{}, false
	}
	num := ceilDiv(wideInt(most-least), big.NewInt(255))
	num = wideInt(max(1, intOf(num)))
	zero := new(big.Int).Sub(big.NewInt(-128), floorDiv(wideInt(least), num))
	return scale(intOf(num), intOf(cut8(zero))), true
}

func wantSymmetric(list []int) (impl.Scale, bool) {
	if _, _, ok := wantRange(list); !ok {
		return impl.Scale{}, false
	}
	num := 1
	for _, x := range list {
		num = max(num, intOf(ceilDiv(new(big.Int).Abs(wideInt(x)), big.NewInt(127))))
	}
	return scale(num, 0), true
}

func wantToInt8(x int, s impl.Scale) int {
	if !in(x, -maxReal, maxReal) || !wantScaleOk(s) {
		return 0
	}
	steps := nearestAway(wideInt(x), wideInt(s.Num))
	return intOf(cut8(steps.Add(steps, wideInt(s.Zero))))
}

func wantFromInt8(q int, s impl.Scale) int {
	if !wantScaleOk(s) {
		return 0
	}
	steps := new(big.Int).Sub(cut8(wideInt(q)), wideInt(s.Zero))
	return intOf(cut(steps.Mul(steps, wideInt(s.Num)), -maxReal, maxReal))
}

func wantWorst(list []int, s impl.Scale) int {
	if _, _, ok := wantRange(list); !ok || !wantScaleOk(s) {
		return -1
	}
	worst := 0
	for _, x := range list {
		off := x - wantFromInt8(wantToInt8(x, s), s)
		worst = max(worst, off, -off)
	}
	return worst
}

// wantMults halves the fraction by hand until it is below a half no more.
func wantMults(a, w, out impl.Scale) (int, int, bool) {
	if !wantScaleOk(a) || !wantScaleOk(w) || !wantScaleOk(out) {
		return 0, 0, false
	}
	num := new(big.Int).Mul(wideInt(a.Num), wideInt(w.Num))
	den := new(big.Int).Mul(wideInt(out.Num), big.NewInt(1000))
	divisor := new(big.Int).GCD(nil, nil, num, den)
	num.Div(num, divisor)
	den.Div(den, divisor)
	if num.Cmp(den) >= 0 || den.Cmp(big.NewInt(1000000)) > 0 {
		return 0, 0, false
	}
	shift := 0
	for twice := new(big.Int).Lsh(num, 1); shift < 31 && twice.Cmp(den) < 0; twice.Lsh(twice, 1) {
		num.Set(twice)
		shift++
	}
	return intOf(floorDiv(num.Lsh(num, 31), den)), shift, true
}

// checkList holds all that takes a list against the chapter, and whether it has a range.
func checkList(t *testing.T, list []int, scales ...impl.Scale) bool {
	t.Helper()
	least, most, ok := wantRange(list)
	if a, b, is := impl.RangeOfReals(list); a != least || b != most || is != ok {
		t.Fatalf("RangeOfReals(%v) = %d, %d, %t, not %d, %d, %t", list, a, b, is, least, most, ok)
	}
	found, _ := wantScaleFor(list)
	if s, is := impl.ScaleFor(list); s != found || is != ok {
		t.Fatalf("ScaleFor(%v) = %v, %t, not %v, %t", list, s, is, found, ok)
	}
	even, _ := wantSymmetric(list)
	if s, is := impl.SymmetricScale(list); s != even || is != ok {
		t.Fatalf("SymmetricScale(%v) = %v, %t, not %v, %t", list, s, is, even, ok)
	}
	for _, s := range append(scales, found, even, impl.Scale{}) {
		if got := impl.WorstError(list, s); got != wantWorst(list, s) {
			t.Fatalf("WorstError(%v, %v) = %d, not %d", list, s, got, wantWorst(list, s))
		}
	}
	return ok
}

// checkQuant holds QuantTensor and, where it is true, RealsOf against the chapter.
func checkQuant(t *testing.T, list []int, h impl.Shape) bool {
	t.Helper()
	s, ok := wantScaleFor(list)
	ok = ok && among(1, 8, h.H, h.W, h.C) && h.H*h.W*h.C == len(list)
	x, found, is := impl.QuantTensor(list, h)
	if !ok {
		if is || found != (impl.Scale{}) || !isZero(x) {
			t.Fatalf("QuantTensor(%v, %v) = %v, %v, %t, not the zero values and false", list, h, x, found, is)
		}
		return false
	}
	want := impl.Tensor{Shape: h}
	var back []int
	for _, x := range list {
		q := wantToInt8(x, s)
		want.Data = append(want.Data, q)
		back = append(back, wantFromInt8(q, s))
	}
	if !is || found != s || !equal(x, want) || !impl.TensorOk(x) {
		t.Fatalf("QuantTensor(%v, %v) = %v, %v, %t, not %v, %v, true", list, h, x, found, is, want, s)
	}
	if got := impl.RealsOf(x, s); !slices.Equal(got, back) {
		t.Fatalf("RealsOf(%v, %v) = %v, not %v", x, s, got, back)
	}
	return true
}

func TestMaxReal(t *testing.T) {
	if impl.MaxReal != 1000000000 {
		t.Error("the limit is another")
	}
}

func TestScaleOk(t *testing.T) {
	for _, c := range []struct {
		num, zero int
		ok        bool
	}{
		{1, 0, true}, {0, 0, false}, {-1, 0, false}, {maxReal, 0, true}, {maxReal + 1, 0, false}, {10, -28, true},
		{1, -128, true}, {1, -129, false}, {1, 127, true}, {1, 128, false}, {maxReal, -128, true}, {maxReal, 127, true}, {maxReal + 1, 128, false}, {0, -129, false},
		{math.MinInt, 0, false}, {math.MaxInt, 0, false}, {1, math.MinInt, false}, {1, math.MaxInt, false}, {math.MinInt, math.MaxInt, false},
	} {
		if got := impl.ScaleOk(scale(c.num, c.zero)); got != c.ok {
			t.Errorf("ScaleOk(%d, %d) = %t", c.num, c.zero, got)
		}
	}
	eachScale(func(s impl.Scale) {
		if got := impl.ScaleOk(s); got != wantScaleOk(s) {
			t.Errorf("ScaleOk(%v) = %t", s, got)
		}
	})
}

func TestScaleText(t *testing.T) {
	for text, s := range map[string]impl.Scale{
		"10@-28": scale(10, -28), "1@0": scale(1, 0), "1@-128": scale(1, -128), "1@127": scale(1, 127), "1000000000@-128": scale(maxReal, -128), "1000000000@127": scale(maxReal, 127),
		"100@-1": scale(100, -1), "": scale(0, 0),
	} {
		if got := impl.ScaleText(s); got != text {
			t.Errorf("ScaleText(%v) = %q, not %q", s, got, text)
		}
	}
	eachScale(func(s impl.Scale) {
		want := strconv.Itoa(s.Num) + "@" + strconv.Itoa(s.Zero)
		if !wantScaleOk(s) {
			want = ""
		}
		if got := impl.ScaleText(s); got != want {
			t.Errorf("ScaleText(%v) = %q, not %q", s, got, want)
		}
	})
}

func TestRangeOfReals(t *testing.T) {
	for _, c := range []struct {
		list        []int
		least, most int
	}{
		{[]int{0}, 0, 0}, {[]int{0, 0, 0}, 0, 0}, {same(300, 0), 0, 0},
		{[]int{5}, 0, 5}, {[]int{-5}, -5, 0}, {[]int{1}, 0, 1}, {[]int{-1}, -1, 0}, {[]int{maxReal}, 0, maxReal}, {[]int{-maxReal}, -maxReal, 0},
		{[]int{5, 9}, 0, 9}, {[]int{9, 5, 7}, 0, 9}, {[]int{-5, -9}, -9, 0}, {[]int{-9, -5, -7}, -9, 0},
		{[]int{-3, 4}, -3, 4}, {[]int{4, -3}, -3, 4}, {[]int{-1000, 0, 1550}, -1000, 1550}, {[]int{2, -7, 3, -1, 9, -2}, -7, 9},
		{[]int{-maxReal, maxReal}, -maxReal, maxReal}, {[]int{maxReal, -maxReal}, -maxReal, maxReal}, {[]int{maxReal - 1, 1 - maxReal}, 1 - maxReal, maxReal - 1},
		{same(298, 3, -4, 8), -4, 8}, {same(299, -3, 2), -3, 2},
	} {
		if least, most, ok := impl.RangeOfReals(c.list); least != c.least || most != c.most || !ok {
			t.Errorf("RangeOfReals(%v) = %d, %d, %t, not %d, %d, true", c.list, least, most, ok, c.least, c.most)
		}
		checkList(t, c.list)
	}
}

// badLists have no range: by how many numbers they have, or by one that is no real.
func badLists() [][]int {
	list := [][]int{nil, {}, same(301, 0), same(301, 5), same(300, 5, -5), same(301, maxReal), same(302, 1), same(5000, 7), same(301, math.MinInt)}
	for _, x := range []int{maxReal + 1, -maxReal - 1, 2 * maxReal, -2 * maxReal, 1 << 32, -1 << 32, 1<<62 + 1, -1 << 62, math.MaxInt - 1, math.MinInt + 1, math.MaxInt, math.MinInt} {
		list = append(list, []int{x}, []int{x, x}, []int{x, 0}, []int{0, x}, []int{1, x, -1}, []int{x, -x}, []int{maxReal, x}, []int{-maxReal, x, maxReal}, same(299, 7, x), append([]int{x}, same(299, 7)...), same(300, 7, x))
	}
	return list
}

func TestListsWithoutARange(t *testing.T) {
	for _, list := range badLists() {
		if checkList(t, list, goodScales()...) {
			t.Errorf("%v has a range", list)
		}
		checkQuant(t, list, shape(1, 1, min(len(list), 8)))
	}
	if checkQuant(t, same(301, 5), shape(7, 43, 1)) || checkQuant(t, same(320, 5), shape(8, 8, 5)) || checkQuant(t, same(512, 0), shape(8, 8, 8)) {
		t.Error("too many numbers are taken")
	}
}

// No list has a Zero that had to be cut: the last ones here come to the ends and not beyond.
func TestScaleFor(t *testing.T) {
	for _, c := range []struct {
		list []int
		want impl.Scale
	}{
		{[]int{0}, scale(1, -128)}, {same(300, 0), scale(1, -128)}, {[]int{1}, scale(1, -128)}, {[]int{-1}, scale(1, -127)}, {[]int{5}, scale(1, -128)}, {[]int{-5}, scale(1, -123)},
		// A difference that 255 divides, and one more or less.
		{[]int{254}, scale(1, -128)}, {[]int{255}, scale(1, -128)}, {[]int{256}, scale(2, -128)}, {[]int{509}, scale(2, -128)}, {[]int{510}, scale(2, -128)}, {[]int{511}, scale(3, -128)},
		{[]int{-254}, scale(1, 126)}, {[]int{-255}, scale(1, 127)}, {[]int{-256}, scale(2, 0)}, {[]int{-509}, scale(2, 127)}, {[]int{-510}, scale(2, 127)}, {[]int{-511}, scale(3, 43)},
		{[]int{-100, 154}, scale(1, -28)}, {[]int{-100, 155}, scale(1, -28)}, {[]int{-100, 156}, scale(2, -78)}, {[]int{-128, 127}, scale(1, 0)}, {[]int{-127, 128}, scale(1, -1)}, {[]int{-129, 127}, scale(2, -63)},
		{[]int{-1000, 1549}, scale(10, -28)}, {[]int{-1000, 0, 1550}, scale(10, -28)}, {[]int{-1000, 1551}, scale(11, -37)},
		// A least that Num divides, and one that it doesn't.
		{[]int{-990, 1560}, scale(10, -29)}, {[]int{-991, 1559}, scale(10, -28)}, {[]int{-999, 1551}, scale(10, -28)}, {[]int{-1001, 1549}, scale(10, -27)}, {[]int{-1, 2549}, scale(10, -127)}, {[]int{-9, 2541}, scale(10, -127)}, {[]int{-10, 2540}, scale(10, -127)}, {[]int{-11, 2539}, scale(10, -126)},
		// Zero at both ends.
		{[]int{2550}, scale(10, -128)}, {[]int{-2550}, scale(10, 127)}, {[]int{-2549, 1}, scale(10, 127)}, {[]int{-2541, 9}, scale(10, 127)}, {[]int{-2540, 10}, scale(10, 126)}, {[]int{-2551}, scale(11, 104)}, {[]int{-2550, 1}, scale(11, 104)},
		{[]int{maxReal}, scale(3921569, -128)}, {[]int{-maxReal}, scale(3921569, 127)}, {[]int{-maxReal, maxReal}, scale(7843138, 0)}, {[]int{maxReal, 1 - maxReal}, scale(7843138, 0)},
		{[]int{-999999995, 100}, scale(3921569, 127)}, {[]int{999999840}, scale(3921568, -128)}, {[]int{-999999840}, scale(3921568, 127)}, {[]int{999999841}, scale(3921569, -128)}, {[]int{-999999841}, scale(3921569, 127)},
	} {
		if s, ok := impl.ScaleFor(c.list); s != c.want || !ok || !impl.ScaleOk(s) {
			t.Errorf("ScaleFor(%v) = %v, %t, not %v", c.list, s, ok, c.want)
		}
		checkList(t, c.list)
	}
}

// Each least and each greatest with a difference of up to a few times 255.
func TestEachSmallRange(t *testing.T) {
	for least := -600; least <= 0; least += 1 + least*least%3 {
		for most := 0; most <= 600; most += 1 + most%4 {
			checkList(t, []int{most, least})
		}
	}
	for width := 0; width <= 255; width++ {
		for least := -width; least <= 0; least++ {
			s, ok := impl.ScaleFor([]int{least, least + width})
			if s != scale(1, -128-least) || !ok {
				t.Fatalf("ScaleFor of %d and %d = %v, %t", least, least+width, s, ok)
			}
		}
	}
}

func TestSymmetricScale(t *testing.T) {
	for _, c := range []struct {
		num  int
		list []int
	}{
		{1, []int{0}}, {1, same(300, 0)}, {1, []int{1}}, {1, []int{-1}}, {1, []int{126}}, {1, []int{127}}, {2, []int{128}}, {1, []int{-126}}, {1, []int{-127}}, {2, []int{-128}},
		{2, []int{253}}, {2, []int{254}}, {3, []int{255}}, {2, []int{-253}}, {2, []int{-254}}, {3, []int{-255}}, {10, []int{1269, -5}}, {10, []int{-1270, 1269}}, {10, []int{1270, -1269}}, {11, []int{1271, -1270}}, {11, []int{1270, -1271}}, {11, []int{-1271, 1271}},
		{13, []int{-1000, 0, 1550}}, {13, []int{1000, 0, -1550}}, {8, []int{-1000, 5}}, {8, []int{5, 1000}},
		{7874016, []int{maxReal}}, {7874016, []int{-maxReal}}, {7874016, []int{-maxReal, maxReal}}, {7874015, []int{7874015 * 127}}, {7874015, []int{-7874015 * 127}}, {7874016, []int{7874015*127 + 1, -3}}, {7874016, []int{-7874015*127 - 1, 3}},
	} {
		if s, ok := impl.SymmetricScale(c.list); s != scale(c.num, 0) || !ok {
			t.Errorf("SymmetricScale(%v) = %v, %t, not %d", c.list, s, ok, c.num)
		}
		checkList(t, c.list)
	}
	for size := 0; size <= 1300; size++ {
		for _, list := range [][]int{{size}, {-size}, {size, -size}, {size - 1, -size}, {size, 1 - size}} {
			checkList(t, list)
		}
	}
}

func TestToInt8(t *testing.T) {
	s := scale(10, -28)
	for _, c := range []struct {
		x    int
		s    impl.Scale
		want int
	}{
		{1550, s, 127}, {-1000, s, -128}, {15, s, -26}, {0, s, -28}, {10, s, -27}, {-10, s, -29},
		// Halves go away from 0, before Zero is added.
		{14, s, -27}, {16, s, -26}, {-14, s, -29}, {-15, s, -30}, {-16, s, -30}, {5, s, -27}, {-5, s, -29}, {4, s, -28}, {-4, s, -28}, {25, s, -25}, {-25, s, -31},
		{1, scale(2, 0), 1}, {-1, scale(2, 0), -1}, {3, scale(2, 0), 2}, {-3, scale(2, 0), -2}, {1, scale(2, -5), -4}, {-1, scale(2, 5), 4}, {1, scale(3, 0), 0}, {2, scale(3, 0), 1}, {-1, scale(3, 0), 0}, {-2, scale(3, 0), -1},
		// Sat8 cuts.
		{1554, s, 127}, {1555, s, 127}, {1560, s, 127}, {-1004, s, -128}, {-1005, s, -128}, {-1010, s, -128}, {127, scale(1, 0), 127}, {128, scale(1, 0), 127}, {-128, scale(1, 0), -128}, {-129, scale(1, 0), -128},
		{1, scale(1, 127), 127}, {-1, scale(1, -128), -128}, {-1, scale(1, 127), 126}, {1, scale(1, -128), -127}, {255, scale(1, -128), 127}, {256, scale(1, -128), 127}, {-255, scale(1, 127), -128}, {-256, scale(1, 127), -128},
		// Both ends of a real, and beyond.
		{maxReal, scale(1, 0), 127}, {-maxReal, scale(1, 0), -128}, {maxReal, scale(maxReal, 5), 6}, {-maxReal, scale(maxReal, 5), 4}, {maxReal / 2, scale(maxReal, 5), 6}, {maxReal/2 - 1, scale(maxReal, 5), 5}, {-maxReal / 2, scale(maxReal, 5), 4}, {1 - maxReal/2, scale(maxReal, 5), 5},
		{maxReal + 1, scale(maxReal, 5), 0}, {-maxReal - 1, scale(maxReal, 5), 0}, {maxReal + 1, scale(1, 7), 0}, {math.MaxInt, scale(1, 7), 0}, {math.MinInt, scale(1, 7), 0}, {math.MaxInt, scale(maxReal, 7), 0}, {math.MinInt, scale(maxReal, 7), 0},
		{15, scale(0, 3), 0}, {15, scale(-10, 3), 0}, {15, scale(maxReal+1, 3), 0}, {15, scale(10, 128), 0}, {15, scale(10, -129), 0}, {15, impl.Scale{}, 0}, {15, scale(math.MinInt, 3), 0}, {15, scale(10, math.MaxInt), 0},
	} {
		if got := impl.ToInt8(c.x, c.s); got != c.want {
			t.Errorf("ToInt8(%d, %v) = %d, not %d", c.x, c.s, got, c.want)
		}
	}
	eachScale(func(s impl.Scale) {
		for _, x := range append([]int{s.Num/2 - 1, s.Num / 2, s.Num/2 + 1, s.Num, -s.Num / 2, -s.Num/2 - 1, -s.Num/2 + 1}, reals...) {
			if got := impl.ToInt8(x, s); got != wantToInt8(x, s) {
				t.Fatalf("ToInt8(%d, %v) = %d, not %d", x, s, got, wantToInt8(x, s))
			}
		}
	})
}

// Rounding is the same on both sides of 0.
func TestToInt8OnBothSides(t *testing.T) {
	for num := 1; num <= 40; num++ {
		for x := 0; x <= 130*num; x++ {
			up, down := impl.ToInt8(x, scale(num, 0)), impl.ToInt8(-x, scale(num, 0))
			if want := wantToInt8(x, scale(num, 0)); up != want || down != -want && down != -128 {
				t.Fatalf("ToInt8(%d, %d) = %d, but %d below 0", x, num, up, down)
			}
		}
	}
}

func TestFromInt8(t *testing.T) {
	s := scale(10, -28)
	for _, c := range []struct {
		q    int
		s    impl.Scale
		want int
	}{
		{-28, s, 0}, {127, s, 1550}, {-128, s, -1000}, {-27, s, 10}, {-29, s, -10}, {0, s, 280},
		// q beyond eight bits.
		{128, s, 1550}, {129, s, 1550}, {-129, s, -1000}, {-130, s, -1000}, {256, s, 1550}, {-256, s, -1000}, {1<<32 - 28, s, 1550}, {math.MaxInt, s, 1550}, {math.MinInt, s, -1000}, {math.MinInt, scale(1, 127), -255}, {math.MaxInt, scale(1, -128), 255},
		// The answer is cut at both ends.
		{1, scale(maxReal, 0), maxReal}, {2, scale(maxReal, 0), maxReal}, {-1, scale(maxReal, 0), -maxReal}, {-2, scale(maxReal, 0), -maxReal}, {127, scale(maxReal, -128), maxReal}, {-128, scale(maxReal, 127), -maxReal}, {5, scale(maxReal, 5), 0}, {math.MinInt, scale(maxReal, 127), -maxReal}, {math.MaxInt, scale(maxReal, -128), maxReal},
		{2, scale(maxReal/2, 0), maxReal}, {-2, scale(maxReal/2, 0), -maxReal}, {2, scale(maxReal/2+1, 0), maxReal}, {-2, scale(maxReal/2+1, 0), -maxReal}, {2, scale(maxReal/2-1, 0), maxReal - 2}, {-2, scale(maxReal/2-1, 0), 2 - maxReal}, {127, scale(3921568, -128), 999999840}, {127, scale(3921569, -128), maxReal}, {-128, scale(3921569, 127), -maxReal},
		{5, scale(0, 3), 0}, {5, scale(-1, 3), 0}, {5, scale(maxReal+1, 3), 0}, {5, scale(1, 128), 0}, {5, scale(1, -129), 0}, {5, impl.Scale{}, 0}, {5, scale(math.MinInt, math.MinInt), 0}, {math.MaxInt, scale(math.MaxInt, math.MinInt), 0}, {5, scale(1, math.MaxInt), 0},
	} {
		if got := impl.FromInt8(c.q, c.s); got != c.want {
			t.Errorf("FromInt8(%d, %v) = %d, not %d", c.q, c.s, got, c.want)
		}
	}
	eachScale(func(s impl.Scale) {
		for _, q := range append(slices.Clone(zeros), reals...) {
			if got := impl.FromInt8(q, s); got != wantFromInt8(q, s) {
				t.Fatalf("FromInt8(%d, %v) = %d, not %d", q, s, got, wantFromInt8(q, s))
			}
		}
	})
}

// A q comes back as it was, where neither Sat8 nor the ends of a real cut.
func TestEachStepComesBack(t *testing.T) {
	for _, s := range goodScales() {
		for q := -128; q <= 127; q++ {
			x := impl.FromInt8(q, s)
			if x != wantFromInt8(q, s) || in(x, 1-maxReal, maxReal-1) && impl.ToInt8(x, s) != q {
				t.Fatalf("%d of %v is %d, and that %d", q, s, x, impl.ToInt8(x, s))
			}
		}
	}
}

func TestQuantTensor(t *testing.T) {
	for _, c := range []struct {
		list []int
		h    impl.Shape
		s    impl.Scale
		data []int
	}{
		{[]int{-1000, 0, 1550}, shape(1, 1, 3), scale(10, -28), []int{-128, -28, 127}},
		{[]int{-1000, 0, 1550}, shape(3, 1, 1), scale(10, -28), []int{-128, -28, 127}},
		{[]int{5, 15, -5, -15, 1535, -1000}, shape(1, 3, 2), scale(10, -28), []int{-27, -26, -29, -30, 126, -128}},
		{[]int{0}, shape(1, 1, 1), scale(1, -128), []int{-128}}, {same(8, 0), shape(2, 2, 2), scale(1, -128), same(8, -128)},
		{[]int{-maxReal, maxReal, 0, 7843138}, shape(2, 2, 1), scale(7843138, 0), []int{-127, 127, 0, 1}},
		{[]int{255, 1}, shape(1, 2, 1), scale(1, -128), []int{127, -127}}, {[]int{-255, -1}, shape(2, 1, 1), scale(1, 127), []int{-128, 126}},
		// The greatest is half a step beyond the last one: Sat8 cuts.
		{[]int{-15, 2535}, shape(1, 1, 2), scale(10, -126), []int{-128, 127}},
	} {
		x, s, ok := impl.QuantTensor(c.list, c.h)
		if want := (impl.Tensor{Shape: c.h, Data: c.data}); !ok || s != c.s || !equal(x, want) {
			t.Errorf("QuantTensor(%v, %v) = %v, %v, %t, not %v, %v, true", c.list, c.h, x, s, ok, want, c.s)
		}
		checkQuant(t, c.list, c.h)
	}
}

// Of the Shapes, those with more than MaxItems numbers have no list; the greatest one below has 294.
func TestShapesOfAQuantTensor(t *testing.T) {
	eachShape(func(s impl.Shape) {
		size := s.H * s.W * s.C
		for _, n := range []int{size - 1, size, size + 1} {
			if checkQuant(t, spread(n, -900, 3000), s) != (n == size && n <= 300) {
				t.Fatalf("%d numbers and %v", n, s)
			}
		}
	})
	for _, s := range append(badShapes(), impl.Shape{}) {
		for n := range 20 {
			if checkQuant(t, spread(n, -900, 3000), s) {
				t.Fatalf("%d numbers and %v", n, s)
			}
		}
	}
	if checkQuant(t, spread(16, -9, 9), shape(16, 1, 1)) || checkQuant(t, spread(4, -9, 9), shape(-2, -2, 1)) || checkQuant(t, spread(300, -9, 9), shape(5, 6, 10)) {
		t.Error("a Shape that is not ShapeOk is taken")
	}
	if !checkQuant(t, spread(294, -maxReal, maxReal), shape(6, 7, 7)) {
		t.Error("294 numbers are not taken")
	}
}

func TestRealsOf(t *testing.T) {
	for _, c := range []struct {
		x    impl.Tensor
		s    impl.Scale
		want []int
	}{
		{tensor(1, 1, 3, -128, -28, 127), scale(10, -28), []int{-1000, 0, 1550}}, {tensor(2, 1, 2, 1, -1, 0, 5), scale(1, 0), []int{1, -1, 0, 5}},
		{tensor(1, 1, 1, -128), scale(1, -128), []int{0}}, {tensor(1, 1, 2, 127, -128), scale(1, -128), []int{255, 0}}, {tensor(1, 2, 1, 127, -128), scale(1, 127), []int{0, -255}},
		{tensor(1, 5, 1, 2, 1, 0, -1, -2), scale(maxReal, 0), []int{maxReal, maxReal, 0, -maxReal, -maxReal}}, {tensor(1, 1, 2, 127, -128), scale(maxReal, 0), []int{maxReal, -maxReal}},
	} {
		if got := impl.RealsOf(c.x, c.s); !slices.Equal(got, c.want) {
			t.Errorf("RealsOf(%v, %v) = %v, not %v", c.x, c.s, got, c.want)
		}
	}
	for i, x := range goodTensors() {
		for _, s := range []impl.Scale{scale(1, 0), scale(10, -28), scale(7843138, 127), scale(maxReal, -128), goodScales()[i%len(goodScales())]} {
			var want []int
			for _, q := range x.Data {
				want = append(want, wantFromInt8(q, s))
			}
			if got := impl.RealsOf(x, s); !slices.Equal(got, want) {
				t.Fatalf("RealsOf(%v, %v) = %v, not %v", x, s, got, want)
			}
		}
	}
}

func TestRealsOfNothing(t *testing.T) {
	for _, x := range badTensors() {
		for _, s := range append(goodScales(), impl.Scale{}) {
			if got := impl.RealsOf(x, s); len(got) != 0 {
				t.Fatalf("RealsOf(%v, %v) = %v", x, s, got)
			}
		}
	}
	for _, s := range badScales() {
		for _, x := range []impl.Tensor{tensor(1, 1, 1, 0), tensor(2, 1, 2, -128, 127, 5, 0), some(shape(8, 8, 8))} {
			if got := impl.RealsOf(x, s); len(got) != 0 {
				t.Fatalf("RealsOf(%v, %v) = %v", x, s, got)
			}
		}
	}
}

func TestWorstError(t *testing.T) {
	for _, c := range []struct {
		list []int
		s    impl.Scale
		want int
	}{
		{[]int{-1000, 0, 1550}, scale(10, -28), 0}, {[]int{0}, scale(1, 0), 0}, {[]int{0}, scale(maxReal, 127), 0}, {[]int{3}, scale(10, 0), 3}, {[]int{-3}, scale(10, 0), 3}, {[]int{5}, scale(10, 0), 5}, {[]int{-5}, scale(10, 0), 5}, {[]int{6}, scale(10, 0), 4}, {[]int{-7}, scale(10, 0), 3},
		{[]int{1, -2, 3, 14}, scale(10, 0), 4}, {[]int{1, 2, -3, 0}, scale(10, 5), 3}, {[]int{-4, 1, 10}, scale(10, 5), 4}, {[]int{10, 20}, scale(10, 5), 0}, {same(299, 10, 13), scale(10, 5), 3}, {same(300, 12), scale(10, 5), 2},
		// Numbers beyond the range of the scale.
		{[]int{1000}, scale(1, 0), 873}, {[]int{-1000}, scale(1, 0), 872}, {[]int{1000, -1000}, scale(1, 0), 873}, {[]int{-1000, 0, 1550}, scale(1, 0), 1423}, {[]int{1}, scale(1, 127), 1}, {[]int{-1}, scale(1, -128), 1}, {[]int{128}, scale(1, 0), 1}, {[]int{-129}, scale(1, 0), 1}, {[]int{-128, 127}, scale(1, 0), 0},
		{[]int{maxReal}, scale(1, 0), maxReal - 127}, {[]int{-maxReal}, scale(1, 0), maxReal - 128}, {[]int{maxReal}, scale(1, 127), maxReal}, {[]int{-maxReal}, scale(1, -128), maxReal}, {[]int{maxReal, -maxReal}, scale(maxReal, 0), 0}, {[]int{maxReal}, scale(maxReal, 127), maxReal}, {[]int{maxReal / 2}, scale(maxReal, 0), maxReal / 2}, {[]int{maxReal/2 - 1}, scale(maxReal, 0), maxReal/2 - 1}, {[]int{maxReal}, scale(maxReal/2+1, 0), 0},
		{nil, scale(1, 0), -1}, {[]int{}, scale(1, 0), -1}, {same(300, 5), scale(1, 0), 0}, {same(301, 5), scale(1, 0), -1}, {[]int{maxReal + 1}, scale(1, 0), -1}, {[]int{-maxReal - 1}, scale(1, 0), -1}, {[]int{1, 2, math.MinInt}, scale(1, 0), -1}, {[]int{math.MaxInt, 1}, scale(1, 0), -1},
		{[]int{1}, scale(0, 0), -1}, {[]int{1}, scale(maxReal+1, 0), -1}, {[]int{1}, scale(1, 128), -1}, {[]int{1}, scale(1, -129), -1}, {nil, impl.Scale{}, -1},
	} {
		if got := impl.WorstError(c.list, c.s); got != c.want {
			t.Errorf("WorstError(%v, %v) = %d, not %d", c.list, c.s, got, c.want)
		}
	}
	next := draws(111)
	eachScale(func(s impl.Scale) {
		for range 4 {
			checkList(t, drawReals(next), s)
		}
	})
}

// checkMults holds MultOfScales against the chapter, and answers whether it is true.
func checkMults(t *testing.T, a, w, out impl.Scale) bool {
	t.Helper()
	mult, shift, ok := impl.MultOfScales(a, w, out)
	wantMult, wantShift, want := wantMults(a, w, out)
	if mult != wantMult || shift != wantShift || ok != want {
		t.Fatalf("MultOfScales(%v, %v, %v) = %d, %d, %t, not %d, %d, %t", a, w, out, mult, shift, ok, wantMult, wantShift, want)
	}
	return ok
}

func TestMultOfScales(t *testing.T) {
	for _, c := range [][5]int{
		{10, 20, 1, 1717986918, 2}, {1, 1, 1, 1099511627, 9}, {500, 1, 1, 1073741824, 0}, {499, 1, 1, 2143188680, 1}, {501, 1, 1, 1075889307, 0}, {1, 999, 1, 2145336164, 0}, {30000, 30000, 901000, 2145100203, 0},
		// Without a common divisor.
		{7, 11, 3, 1763799902, 5}, {999983, 1, 1000, 2147447140, 0}, {1, 1, 1000, 1125899906, 19},
		// With one, without which they were too great.
		{1, maxReal, maxReal, 1099511627, 9}, {maxReal, 1, maxReal, 1099511627, 9}, {maxReal, 999, maxReal, 2145336164, 0}, {999, maxReal, maxReal, 2145336164, 0}, {2, 1, 2000, 1125899906, 19}, {1, 3, 2001, 1688005857, 19}, {7, 1, 1001, 1968356480, 17},
	} {
		for _, zero := range []int{-128, -1, 0, 127} {
			a, w, out := scale(c[0], zero), scale(c[1], -1-zero), scale(c[2], zero)
			if mult, shift, ok := impl.MultOfScales(a, w, out); mult != c[3] || shift != c[4] || !ok {
				t.Errorf("MultOfScales(%v, %v, %v) = %d, %d, %t, not %d, %d, true", a, w, out, mult, shift, ok, c[3], c[4])
			}
			checkMults(t, a, w, out)
		}
	}
}

// Where MultFor is false, of three that are ScaleOk.
func TestMultOfScalesWithoutAMult(t *testing.T) {
	for _, c := range [][3]int{
		{1000, 1, 1}, {1, 1000, 1}, {1001, 1, 1}, {2000, 1, 1}, {maxReal, maxReal, maxReal}, {maxReal, maxReal, 1}, {maxReal, 1, 1}, {maxReal, 1000, maxReal}, {maxReal, 1001, maxReal},
		{1, 1, 1001}, {1, 1, maxReal}, {2, 1, 2001}, {7, 1, 7001}, {31607, 31607, 999002}, {31622, 31622, 999951}, {7843138, 13, 101961}, {1, 1, 4294967}, {1, 1, 4294968},
	} {
		a, w, out := scale(c[0], 5), scale(c[1], 0), scale(c[2], -5)
		if mult, shift, ok := impl.MultOfScales(a, w, out); mult != 0 || shift != 0 || ok {
			t.Errorf("MultOfScales(%v, %v, %v) = %d, %d, %t, not 0, 0, false", a, w, out, mult, shift, ok)
		}
		checkMults(t, a, w, out)
	}
}

func TestMultOfScalesThatAreNotOk(t *testing.T) {
	one, two, ten := scale(1, 0), scale(2, 127), scale(10, -128)
	for _, s := range badScales() {
		for _, c := range [][3]impl.Scale{{s, one, ten}, {one, s, ten}, {one, two, s}, {s, s, ten}, {s, two, s}, {one, s, s}, {s, s, s}} {
			if mult, shift, ok := impl.MultOfScales(c[0], c[1], c[2]); mult != 0 || shift != 0 || ok {
				t.Fatalf("MultOfScales(%v) = %d, %d, %t, not 0, 0, false", c, mult, shift, ok)
			}
		}
	}
	if !checkMults(t, one, two, ten) {
		t.Error("the others alone are not taken")
	}
}

func TestDrawnMults(t *testing.T) {
	next := draws(112)
	taken := 0
	for range 60000 {
		most := []int{20, 300, 1100, 40000, 1000000, maxReal}
		a, w, out := scale(1+next(most[next(4)]), next(256)-128), scale(1+next(most[next(3)]), next(256)-128), scale(1+next(most[next(6)]), next(256)-128)
		if next(3) == 0 {
			out.Num = min(out.Num*a.Num, maxReal)
		}
		if checkMults(t, a, w, out) {
			taken++
		}
	}
	for _, a := range nums {
		for _, w := range nums {
			for _, out := range nums {
				checkMults(t, scale(a, 0), scale(w, 127), scale(out, -128))
			}
		}
	}
	if taken < 5000 || taken > 55000 {
		t.Errorf("%d of the drawn ones are taken", taken)
	}
}

// drawReals is a list that has a range: of few numbers or many, of small or great ones, on one side of 0 or both.
func drawReals(next func(n int) int) []int {
	count := []int{1, 2, 3, 8, 64, 300}[next(6)]
	most := []int{0, 1, 40, 255, 300, 5000, 1000000, maxReal}[next(8)]
	ahead, behind := []int{0, 1, 1, 2}[next(4)], []int{0, 1, 1, 3}[next(4)]
	var list []int
	for range count {
		x := next(most+1) * ahead
		if next(2) == 0 {
			x = -next(most+1) * behind
		}
		list = append(list, min(max(x, -maxReal), maxReal))
	}
	return list
}

func TestDrawnLists(t *testing.T) {
	next := draws(113)
	for range 3000 {
		list := drawReals(next)
		s := scale(1+next([]int{3, 300, maxReal}[next(3)]), next(256)-128)
		if !checkList(t, list, s) {
			t.Fatalf("%v has no range", list)
		}
		h := []impl.Shape{shape(1, 1, 1), shape(1, 2, 1), shape(3, 1, 1), shape(2, 2, 2), shape(8, 2, 4)}[next(5)]
		checkQuant(t, list, h)
		list[next(len(list))] = []int{maxReal + 1, -maxReal - 1, math.MaxInt, math.MinInt}[next(4)]
		if checkList(t, list, s) || checkQuant(t, list, h) {
			t.Fatalf("%v has a range", list)
		}
	}
}

// checkBack is promise 14 at one number.
func checkBack(t *testing.T, x int, s impl.Scale) {
	t.Helper()
	back := impl.FromInt8(impl.ToInt8(x, s), s)
	if off := back - x; off > s.Num || off < -s.Num {
		t.Fatalf("%d comes back as %d from %v", x, back, s)
	}
}

// within are numbers in least .. most: its ends and those beside them, those around 0 and around halves of Num, and some that are drawn.
func within(least, most, num int, next func(n int) int) []int {
	list := []int{least, most, 0}
	for _, x := range []int{least, least + num/2, least + num, -num, -num / 2, 0, num / 2, num, most - num, most - num/2, most} {
		for off := -2; off <= 2; off++ {
			list = append(list, x+off)
		}
	}
	for range 20 {
		list = append(list, least+next(most-least+1))
	}
	return slices.DeleteFunc(list, func(x int) bool { return x < least || x > most })
}

// Promise 14: what lies in the range comes back within one step, and 0 as 0.
func TestARealComesBackWithinOneStep(t *testing.T) {
	next := draws(114)
	for range 6000 {
		list := drawReals(next)
		least, most, _ := wantRange(list)
		found, ok := impl.ScaleFor(list)
		even, is := impl.SymmetricScale(list)
		if !ok || !is {
			t.Fatalf("%v has no Scale", list)
		}
		for _, s := range []impl.Scale{found, even} {
			for _, x := range append(within(least, most, s.Num, next), list...) {
				checkBack(t, x, s)
			}
			if worst := impl.WorstError(list, s); !in(worst, 0, s.Num) {
				t.Fatalf("WorstError(%v, %v) = %d", list, s, worst)
			}
			if zero := impl.ToInt8(0, s); zero != s.Zero || impl.FromInt8(zero, s) != 0 {
				t.Fatalf("0 comes back as %d from %v", impl.FromInt8(zero, s), s)
			}
		}
	}
}

// Promise 14 at each number of small ranges.
func TestEachRealOfASmallRange(t *testing.T) {
	for least := -320; least <= 0; least += 5 {
		for most := 0; most <= 320; most += 7 {
			found, _ := impl.ScaleFor([]int{least, most})
			even, _ := impl.SymmetricScale([]int{least, most})
			for x := least; x <= most; x++ {
				checkBack(t, x, found)
				checkBack(t, x, even)
			}
			if impl.FromInt8(impl.ToInt8(0, found), found) != 0 {
				t.Fatalf("0 does not come back from %v", found)
			}
		}
	}
}

// Promise 14 for a tensor: the numbers of a list, and 0 among them.
func TestATensorComesBackWithinOneStep(t *testing.T) {
	next := draws(115)
	for range 4000 {
		list := drawReals(next)
		if len(list) == 300 {
			list = list[:294]
		}
		list[next(len(list))] = 0
		h := map[int]impl.Shape{1: shape(1, 1, 1), 2: shape(1, 1, 2), 3: shape(3, 1, 1), 8: shape(2, 2, 2), 64: shape(8, 8, 1), 294: shape(6, 7, 7)}[len(list)]
		x, s, ok := impl.QuantTensor(list, h)
		back := impl.RealsOf(x, s)
		if !ok || len(back) != len(list) {
			t.Fatalf("QuantTensor(%v, %v) = %v, %v, %t", list, h, x, s, ok)
		}
		for i, x := range list {
			if off := back[i] - x; off > s.Num || off < -s.Num || x == 0 && off != 0 {
				t.Fatalf("%d comes back as %d from %v", x, back[i], s)
			}
		}
	}
}

func TestArgumentsOfScalesAreLeft(t *testing.T) {
	next := draws(116)
	lists := badLists()
	for range 300 {
		lists = append(lists, drawReals(next))
	}
	for _, before := range lists {
		list := roomy(before)
		s, _ := impl.ScaleFor(list)
		impl.RangeOfReals(list)
		impl.SymmetricScale(list)
		impl.WorstError(list, s)
		for _, h := range []impl.Shape{shape(1, 1, len(list)), shape(2, 2, 2), shape(8, 8, 1)} {
			x, _, _ := impl.QuantTensor(list, h)
			overwrite(x.Data, 1000)
		}
		if !slices.Equal(list, before) || !hasRoom(list) {
			t.Fatalf("%v shares memory with an answer, or was written into: %v", before, list)
		}
	}
	for _, before := range append(badTensors(), goodTensors()...) {
		x := impl.Tensor{Shape: before.Shape, Data: roomy(before.Data)}
		for _, s := range []impl.Scale{scale(1, 0), scale(10, -28), {}} {
			overwrite(impl.RealsOf(x, s), 1000)
		}
		if !equal(x, before) || !hasRoom(x.Data) {
			t.Fatalf("%v shares memory with an answer, or was written into: %v", before, x)
		}
	}
}

// The same call gives the same answer each time, whatever was written into the one before.
func TestAnswersOfScalesAreNew(t *testing.T) {
	next := draws(117)
	for range 200 {
		list := drawReals(next)
		h := map[int]impl.Shape{1: shape(1, 1, 1), 2: shape(1, 1, 2), 3: shape(3, 1, 1), 8: shape(2, 2, 2), 64: shape(8, 8, 1)}[len(list)]
		s := scale(1+next(maxReal), next(256)-128)
		for range 3 {
			checkList(t, list, s)
			if checkQuant(t, list, h) != (len(list) < 300) {
				t.Fatalf("%v is no tensor", list)
			}
			x, found, _ := impl.QuantTensor(list, h)
			overwrite(impl.RealsOf(x, found), 1000)
			overwrite(x.Data, 1000)
		}
	}
}
