package tests

import (
	"math"
	"math/big"
	"testing"

	"loop.example/g00778/impl"
)

// edges are the arguments at which something changes: the bounds of each width,
// the numbers beside them, halves, and the ends of int.
var edges = []int{
	math.MinInt, math.MinInt + 1, math.MinInt / 2, -1 << 33, -2147483650, -2147483649, -2147483648, -2147483647, -2147483646,
	-1073741825, -1073741824, -1073741823, -1000001, -1000000, -999999, -16384, -257, -256, -255, -129, -128, -127, -126,
	-64, -33, -32, -31, -10, -9, -8, -7, -6, -5, -4, -3, -2, -1, 0, 1, 2, 3, 4, 5, 6, 7, 8, 9, 10, 30, 31, 32, 33, 63, 64,
	125, 126, 127, 128, 129, 254, 255, 256, 16384, 524287, 524288, 999999, 1000000, 1000001,
	1073741823, 1073741824, 1073741825, 1431655765, 2147483646, 2147483647, 2147483648, 2147483649, 1 << 33,
	math.MaxInt / 2, math.MaxInt - 1, math.MaxInt,
}

func cut(x *big.Int, least, most int64) *big.Int {
	if x.Cmp(big.NewInt(least)) < 0 {
		return big.NewInt(least)
	}
	if x.Cmp(big.NewInt(most)) > 0 {
		return big.NewInt(most)
	}
	return x
}

func cut8(x *big.Int) *big.Int { return cut(x, -128, 127) }

func cut32(x *big.Int) *big.Int { return cut(x, -1<<31, 1<<31-1) }

func wideInt(x int) *big.Int { return big.NewInt(int64(x)) }

// floorDiv is x divided by d, down (Euclid's division is that for a d above 0).
func floorDiv(x, d *big.Int) *big.Int { return new(big.Int).Div(x, d) }

// nearestUp is x divided by d to the nearest whole number, ties to the greater: (2x + d) / 2d, down.
func nearestUp(x, d *big.Int) *big.Int {
	twice := new(big.Int).Lsh(x, 1)
	return floorDiv(twice.Add(twice, d), new(big.Int).Lsh(d, 1))
}

// nearestAway does the same for the size of x and puts the sign back, so ties go away from 0.
func nearestAway(x, d *big.Int) *big.Int {
	size := nearestUp(new(big.Int).Abs(x), d)
	if x.Sign() < 0 {
		size.Neg(size)
	}
	return size
}

func wantMulHigh(a, b int) *big.Int {
	product := new(big.Int).Mul(cut32(wideInt(a)), cut32(wideInt(b)))
	return cut32(nearestUp(product, big.NewInt(1<<31)))
}

func wantRoundShift(x *big.Int, n int) *big.Int {
	return nearestAway(cut32(x), new(big.Int).Lsh(big.NewInt(1), uint(min(max(n, 0), 31))))
}

func wantRequant(acc, mult, shift, zero int) *big.Int {
	shifted := wantRoundShift(wantMulHigh(acc, mult), shift)
	return cut8(shifted.Add(shifted, cut8(wideInt(zero))))
}

func is(want *big.Int, got int) bool { return want.IsInt64() && want.Int64() == int64(got) }

func TestBounds(t *testing.T) {
	if impl.MaxInt8 != 127 || impl.MinInt8 != -128 || impl.MaxInt32 != 2147483647 || impl.MinInt32 != -2147483648 {
		t.Error("a bound is another")
	}
}

func TestSat(t *testing.T) {
	for _, c := range [][2]int{
		{0, 0}, {5, 5}, {-5, -5}, {126, 126}, {127, 127}, {128, 127}, {200, 127}, {-127, -127}, {-128, -128}, {-129, -128},
		{256, 127}, {-256, -128}, {math.MaxInt, 127}, {math.MinInt, -128},
	} {
		if got := impl.Sat8(c[0]); got != c[1] {
			t.Errorf("Sat8(%d) = %d, not %d", c[0], got, c[1])
		}
	}
	for _, c := range [][2]int{
		{0, 0}, {-77, -77}, {2147483646, 2147483646}, {2147483647, 2147483647}, {2147483648, 2147483647},
		{-2147483647, -2147483647}, {-2147483648, -2147483648}, {-2147483649, -2147483648},
		{1 << 32, 2147483647}, {-1 << 32, -2147483648}, {math.MaxInt, 2147483647}, {math.MinInt, -2147483648},
	} {
		if got := impl.Sat32(c[0]); got != c[1] {
			t.Errorf("Sat32(%d) = %d, not %d", c[0], got, c[1])
		}
	}
	for _, x := range edges {
		if !is(cut8(wideInt(x)), impl.Sat8(x)) || !is(cut32(wideInt(x)), impl.Sat32(x)) {
			t.Errorf("Sat8(%d) = %d, Sat32 = %d", x, impl.Sat8(x), impl.Sat32(x))
		}
	}
}

func TestAddSat(t *testing.T) {
	for _, c := range [][3]int{
		{2, 3, 5}, {-2, 3, 1}, {0, 0, 0}, {2147483646, 1, 2147483647}, {2147483647, 1, 2147483647}, {2147483647, 2147483647, 2147483647},
		{-2147483647, -1, -2147483648}, {-2147483648, -1, -2147483648}, {-2147483648, -2147483648, -2147483648},
		{2147483647, -2147483648, -1}, {math.MaxInt, -1, 2147483646}, {math.MinInt, 1, -2147483647},
		{math.MinInt, math.MinInt, -2147483648}, {math.MaxInt, math.MaxInt, 2147483647}, {math.MaxInt, math.MinInt, -1},
	} {
		if got := impl.AddSat(c[0], c[1]); got != c[2] {
			t.Errorf("AddSat(%d, %d) = %d, not %d", c[0], c[1], got, c[2])
		}
	}
	for _, a := range edges {
		for _, b := range edges {
			want := cut32(new(big.Int).Add(cut32(wideInt(a)), cut32(wideInt(b))))
			if got := impl.AddSat(a, b); !is(want, got) {
				t.Fatalf("AddSat(%d, %d) = %d, not %s", a, b, got, want)
			}
		}
	}
}

func TestMulHigh(t *testing.T) {
	const half, least, most = 1073741824, -2147483648, 2147483647
	for _, c := range [][3]int{
		{half, half, 536870912}, {0, most, 0}, {10, half, 5}, {-10, half, -5},
		{1, half, 1}, {3, half, 2}, {5, half, 3}, {-1, half, 0}, {-3, half, -1}, {-5, half, -2}, {3, -half, -1}, {-3, -half, 2},
		{1, half - 1, 0}, {1, half + 1, 1}, {-1, half - 1, 0}, {-1, half + 1, -1},
		{least, least, most}, {most, most, 2147483646}, {least, most, -2147483647}, {most, least, -2147483647},
		{least, 1, -1}, {least, -1, 1}, {most, 1, 1}, {most, -1, -1},
		{math.MinInt, math.MinInt, most}, {math.MaxInt, math.MinInt, -2147483647}, {math.MaxInt, math.MaxInt, 2147483646}, {math.MaxInt, half, half},
	} {
		if got := impl.MulHigh(c[0], c[1]); got != c[2] {
			t.Errorf("MulHigh(%d, %d) = %d, not %d", c[0], c[1], got, c[2])
		}
	}
	for _, a := range edges {
		for _, b := range edges {
			if got := impl.MulHigh(a, b); !is(wantMulHigh(a, b), got) {
				t.Fatalf("MulHigh(%d, %d) = %d, not %s", a, b, got, wantMulHigh(a, b))
			}
		}
	}
}

func TestRoundShift(t *testing.T) {
	for _, c := range [][3]int{
		{0, 0, 0}, {5, 0, 5}, {-5, 0, -5}, {0, 31, 0}, {8, 2, 2}, {-8, 2, -2},
		{1, 1, 1}, {-1, 1, -1}, {3, 1, 2}, {-3, 1, -2}, {5, 1, 3}, {-5, 1, -3}, {6, 2, 2}, {-6, 2, -2}, {10, 2, 3}, {-10, 2, -3},
		{5, 2, 1}, {-5, 2, -1}, {7, 2, 2}, {-7, 2, -2}, {1, 2, 0}, {-1, 2, 0}, {2, 2, 1}, {-2, 2, -1},
		{5, -1, 5}, {-5, -1, -5}, {5, math.MinInt, 5}, {2147483647, -7, 2147483647},
		{1073741823, 31, 0}, {1073741824, 31, 1}, {2147483647, 31, 1}, {-1073741823, 31, 0}, {-1073741824, 31, -1}, {-2147483648, 31, -1},
		{1073741824, 30, 1}, {2147483647, 30, 2}, {-2147483648, 30, -2},
		{1073741824, 32, 1}, {-1073741824, 32, -1}, {2147483647, 63, 1}, {2147483647, 64, 1}, {-2147483648, math.MaxInt, -1},
		{math.MaxInt, 0, 2147483647}, {math.MinInt, 0, -2147483648}, {math.MaxInt, 1, 1073741824}, {math.MinInt, 1, -1073741824},
	} {
		if got := impl.RoundShift(c[0], c[1]); got != c[2] {
			t.Errorf("RoundShift(%d, %d) = %d, not %d", c[0], c[1], got, c[2])
		}
	}
	for _, x := range edges {
		for _, n := range edges {
			if got := impl.RoundShift(x, n); !is(wantRoundShift(wideInt(x), n), got) {
				t.Fatalf("RoundShift(%d, %d) = %d, not %s", x, n, got, wantRoundShift(wideInt(x), n))
			}
		}
	}
}

func TestRoundShiftIsTheSameOnBothSides(t *testing.T) {
	for x := 0; x <= impl.MaxInt32; x += 1 + x/50 {
		for n := -1; n <= 32; n++ {
			if up, down := impl.RoundShift(x, n), impl.RoundShift(-x, n); up != -down {
				t.Fatalf("RoundShift(%d, %d) = %d, but %d below 0", x, n, up, down)
			}
		}
	}
}

func TestRequant(t *testing.T) {
	const half, most = 1073741824, 2147483647
	for _, c := range [][5]int{
		{100, half, 1, 3, 28}, {100, half, 0, 0, 50}, {-100, half, 1, 3, -22}, {0, most, 0, -7, -7},
		{3, half, 0, 0, 2}, {-3, half, 0, 0, -1}, {6, half, 1, 0, 2}, {-6, half, 1, 0, -2}, {5, half, 1, 0, 2}, {-5, half, 1, 0, -1},
		{254, half, 0, 0, 127}, {256, half, 0, 0, 127}, {-256, half, 0, 0, -128}, {-258, half, 0, 0, -128},
		{250, half, 0, 2, 127}, {250, half, 0, 3, 127}, {400, half, 0, -100, 100}, {-400, half, 0, 100, -100},
		{400, half, 0, -500, 72}, {-400, half, 0, 500, -73}, {0, half, 0, 128, 127}, {0, half, 0, -129, -128},
		{100, half, -5, 0, 50}, {most, most, 31, 0, 1}, {most, most, 32, 0, 1}, {most, most, 99, 0, 1},
		{-2147483648, -2147483648, 31, 0, 1}, {-2147483648, -2147483648, 24, 0, 127}, {-2147483648, most, 24, 0, -128},
		{most, most, 0, math.MaxInt, 127}, {-2147483648, most, 0, math.MinInt, -128},
		{math.MinInt, math.MinInt, math.MaxInt, math.MinInt, -127}, {math.MaxInt, math.MaxInt, math.MinInt, math.MinInt, 127},
		{math.MaxInt, math.MinInt, math.MinInt, math.MaxInt, -128},
	} {
		if got := impl.Requant(c[0], c[1], c[2], c[3]); got != c[4] {
			t.Errorf("Requant(%d, %d, %d, %d) = %d, not %d", c[0], c[1], c[2], c[3], got, c[4])
		}
	}
	shifts := []int{math.MinInt, -1, 0, 1, 2, 7, 23, 24, 30, 31, 32, 64, math.MaxInt}
	zeros := []int{math.MinInt, -200, -129, -128, -1, 0, 1, 127, 128, 200, math.MaxInt}
	for _, acc := range edges {
		for _, mult := range edges {
			for i, shift := range shifts {
				zero := zeros[i%len(zeros)]
				if got := impl.Requant(acc, mult, shift, zero); !is(wantRequant(acc, mult, shift, zero), got) {
					t.Fatalf("Requant(%d, %d, %d, %d) = %d, not %s", acc, mult, shift, zero, got, wantRequant(acc, mult, shift, zero))
				}
			}
		}
	}
}

func TestClampTo(t *testing.T) {
	for _, c := range [][4]int{
		{5, 1, 3, 3}, {2, 1, 3, 2}, {0, 1, 3, 1}, {1, 1, 3, 1}, {3, 1, 3, 3}, {4, 1, 3, 3}, {9, 4, 4, 4}, {-9, 4, 4, 4}, {4, 4, 4, 4},
		{5, 4, 1, 4}, {0, 4, 1, 4}, {2, 4, 1, 4}, {4, 4, 1, 4}, {1, 4, 1, 4}, {9, 4, 3, 4}, {-2, -1, -3, -1}, {-4, -3, -1, -3}, {0, -3, -1, -1},
		{math.MinInt, 0, math.MaxInt, 0}, {math.MaxInt, math.MinInt, 0, 0}, {7, math.MinInt, math.MaxInt, 7},
		{math.MinInt, math.MinInt, math.MaxInt, math.MinInt}, {math.MaxInt, math.MinInt, math.MaxInt, math.MaxInt},
		{7, math.MaxInt, math.MinInt, math.MaxInt}, {math.MinInt, math.MaxInt, math.MinInt, math.MaxInt},
	} {
		if got := impl.ClampTo(c[0], c[1], c[2]); got != c[3] {
			t.Errorf("ClampTo(%d, %d, %d) = %d, not %d", c[0], c[1], c[2], got, c[3])
		}
	}
}

// same is a list of n numbers x, and others behind them.
func same(n, x int, others ...int) []int {
	list := make([]int, n, n+len(others))
	for i := range list {
		list[i] = x
	}
	return append(list, others...)
}

func TestDotOf(t *testing.T) {
	for _, c := range []struct {
		a, b []int
		want int
	}{
		{nil, nil, 0}, {[]int{}, []int{1}, 0}, {[]int{7}, nil, 0},
		{[]int{1, 2, 3}, []int{4, 5, 6}, 32}, {[]int{1, 2, 300}, []int{3, -4, 1}, 122}, {[]int{3, -4, 1}, []int{1, 2, 300}, 122},
		{[]int{1, 2, 3}, []int{4, 5}, 14}, {[]int{4}, []int{5, 6, 7}, 20},
		{[]int{-300}, []int{1}, -128}, {[]int{-128}, []int{-128}, 16384}, {[]int{-129}, []int{-129}, 16384}, {[]int{127}, []int{-128}, -16256},
		{[]int{128}, []int{128}, 16129}, {[]int{math.MinInt}, []int{math.MinInt}, 16384}, {[]int{math.MaxInt}, []int{math.MinInt}, -16256},
		{[]int{math.MaxInt, math.MinInt}, []int{math.MaxInt, 1}, 16001},
		// 131072 times 16384 is one more than MaxInt32: the sum is cut there and goes on from there.
		{same(131071, -128), same(131071, -128), 2147467264},
		{same(131072, -128), same(131072, -128), 2147483647},
		{same(131072, -128, 1), same(131072, -128, -1), 2147483646},
		{same(200000, -128, 1), same(200000, -128, -1), 2147483646},
		{same(131071, -128, 127, 127, 1), same(131071, -128, 127, 2, 1), 2147467264 + 16129 + 254},
		{same(132104, -128), same(132104, 127), -2147482624},
		{same(132105, -128), same(132105, 127), -2147483648},
		{same(200000, 127, 3), same(200000, -128, 1), -2147483645},
	} {
		if got := impl.DotOf(c.a, c.b); got != c.want {
			t.Errorf("DotOf of %d and %d numbers = %d, not %d", len(c.a), len(c.b), got, c.want)
		}
	}
}

func TestDotOfLeavesItsArguments(t *testing.T) {
	a, b := []int{300, -300, 5}, []int{-1000, 4}
	if impl.DotOf(a, b) != -127*128-128*4 {
		t.Error("the product is another")
	}
	if a[0] != 300 || a[1] != -300 || a[2] != 5 || b[0] != -1000 || b[1] != 4 {
		t.Error("an argument was written into")
	}
}

// wantScale counts the digits one by one, as they are written behind the point.
func wantScale(mult, shift int) (int, int) {
	rest := cut(wideInt(mult), 0, 1<<31-1)
	den := new(big.Int).Lsh(big.NewInt(1), uint(31+min(max(shift, 0), 31)))
	number, noughts := 0, 0
	for range 9 {
		digit := new(big.Int)
		digit.DivMod(rest.Mul(rest, big.NewInt(10)), den, rest)
		number = number*10 + int(digit.Int64())
		if number == 0 {
			noughts++
		}
	}
	return number, noughts
}

func TestScaleOf(t *testing.T) {
	for _, c := range [][4]int{
		{1073741824, 0, 500000000, 0}, {1073741824, 4, 31250000, 1}, {536870912, 0, 250000000, 0}, {1431655765, 1, 333333333, 0},
		{2147483647, 0, 999999999, 0}, {2147483648, 0, 999999999, 0}, {math.MaxInt, 0, 999999999, 0}, {math.MaxInt, math.MinInt, 999999999, 0},
		{0, 0, 0, 9}, {0, 31, 0, 9}, {-1, 0, 0, 9}, {math.MinInt, 0, 0, 9}, {math.MinInt, math.MaxInt, 0, 9},
		{1, 0, 0, 9}, {2, 0, 0, 9}, {3, 0, 1, 8}, {1, 31, 0, 9}, {214748364, 0, 99999999, 1}, {214748365, 0, 100000000, 0},
		{1073741824, -1, 500000000, 0}, {1073741824, 1, 250000000, 0}, {2147483647, 29, 1, 8}, {2147483647, 30, 0, 9},
		{2147483647, 31, 0, 9}, {2147483647, 32, 0, 9}, {2147483647, 28, 3, 8}, {2147483647, math.MaxInt, 0, 9},
	} {
		if number, noughts := impl.ScaleOf(c[0], c[1]); number != c[2] || noughts != c[3] {
			t.Errorf("ScaleOf(%d, %d) = %d, %d, not %d, %d", c[0], c[1], number, noughts, c[2], c[3])
		}
	}
	for _, mult := range edges {
		for _, shift := range edges {
			want, zeros := wantScale(mult, shift)
			if number, noughts := impl.ScaleOf(mult, shift); number != want || noughts != zeros {
				t.Fatalf("ScaleOf(%d, %d) = %d, %d, not %d, %d", mult, shift, number, noughts, want, zeros)
			}
		}
	}
}

func TestMultFor(t *testing.T) {
	for _, c := range [][4]int{
		{1, 2, 1073741824, 0}, {1, 3, 1431655765, 1}, {2, 3, 1431655765, 0}, {1, 4, 1073741824, 1}, {1, 5, 1717986918, 2},
		{1, 8, 1073741824, 2}, {1, 9, 1908874353, 3}, {3, 4, 1610612736, 0}, {500000, 1000000, 1073741824, 0}, {499999, 1000000, 2147479353, 1},
		{999999, 1000000, 2147481500, 0}, {1, 1000000, 1125899906, 19}, {1, 524288, 1073741824, 18}, {1, 524289, 2147479552, 19},
	} {
		mult, shift, ok := impl.MultFor(c[0], c[1])
		if mult != c[2] || shift != c[3] || !ok {
			t.Errorf("MultFor(%d, %d) = %d, %d, %t, not %d, %d", c[0], c[1], mult, shift, ok, c[2], c[3])
		}
	}
	for _, c := range [][2]int{
		{0, 0}, {0, 1}, {1, 0}, {1, 1}, {3, 3}, {4, 3}, {-1, 2}, {1, -2}, {-2, -1}, {-1, -2}, {0, 1000000}, {1000000, 1000000},
		{1, 1000001}, {1000000, 1000001}, {1000001, 1000002}, {1000001, 1000000}, {1, math.MaxInt}, {math.MaxInt - 1, math.MaxInt},
		{math.MaxInt, math.MaxInt}, {math.MinInt, math.MaxInt}, {math.MinInt, 5}, {math.MinInt, math.MinInt}, {5, math.MinInt}, {math.MaxInt, 5},
	} {
		if mult, shift, ok := impl.MultFor(c[0], c[1]); mult != 0 || shift != 0 || ok {
			t.Errorf("MultFor(%d, %d) = %d, %d, %t, not 0, 0, false", c[0], c[1], mult, shift, ok)
		}
	}
}

// fractions calls f with num and den: all of the small ones, and some of the great ones with the ends.
func fractions(f func(num, den int)) {
	for den := 2; den <= 70; den++ {
		for num := 1; num < den; num++ {
			f(num, den)
		}
	}
	for _, den := range []int{127, 128, 255, 1000, 4097, 65535, 262144, 524287, 524288, 524289, 777777, 999999, 1000000} {
		for num := 1; num < den; num += 1 + num/3 {
			f(num, den)
		}
		f(den/2, den)
		f(den-1, den)
	}
}

func TestMultForIsTheGreatest(t *testing.T) {
	fractions(func(num, den int) {
		mult, shift, ok := impl.MultFor(num, den)
		top := new(big.Int).Lsh(wideInt(num), uint(shift))
		more := new(big.Int).Lsh(top, 1)
		if !ok || shift < 0 || shift > 31 || top.Cmp(wideInt(den)) >= 0 || more.Cmp(wideInt(den)) < 0 {
			t.Fatalf("MultFor(%d, %d) has the shift %d, %t", num, den, shift, ok)
		}
		if want := floorDiv(top.Lsh(top, 31), wideInt(den)); !is(want, mult) {
			t.Fatalf("MultFor(%d, %d) has the mult %d, not %s", num, den, mult, want)
		}
	})
}

// checkMeant is Promise 1 at one number: no more than 1 from acc times num divided by den.
func checkMeant(t *testing.T, acc, num, den int) {
	t.Helper()
	mult, shift, _ := impl.MultFor(num, den)
	got := impl.Requant(acc, mult, shift, 0)
	off := got*den - acc*num
	if off > den || off < -den {
		t.Fatalf("Requant(%d, MultFor(%d, %d)) = %d is more than 1 from what was meant", acc, num, den, got)
	}
}

func TestRequantGivesWhatWasMeant(t *testing.T) {
	fractions(func(num, den int) {
		most := min(127*den/num, impl.MaxInt32)
		for acc := 0; acc <= most; acc += 1 + acc/5 {
			checkMeant(t, acc, num, den)
			checkMeant(t, -acc, num, den)
		}
		for acc := most - 3; acc <= most; acc++ {
			checkMeant(t, acc, num, den)
			checkMeant(t, -acc, num, den)
		}
	})
}

func in(x, least, most int) bool { return least <= x && x <= most }

func TestNothingLeavesItsBounds(t *testing.T) {
	for _, a := range edges {
		for _, b := range edges {
			for _, x := range []int{impl.Sat32(a), impl.AddSat(a, b), impl.MulHigh(a, b), impl.RoundShift(a, b), impl.DotOf([]int{a, b}, []int{b, a})} {
				if !in(x, impl.MinInt32, impl.MaxInt32) {
					t.Fatalf("%d of %d and %d is not of 32 bits", x, a, b)
				}
			}
			for _, x := range []int{impl.Sat8(a), impl.Requant(a, b, 0, 0), impl.Requant(a, b, b, a), impl.Requant(b, b, a, b)} {
				if !in(x, impl.MinInt8, impl.MaxInt8) {
					t.Fatalf("%d of %d and %d is not of 8 bits", x, a, b)
				}
			}
			number, noughts := impl.ScaleOf(a, b)
			mult, shift, _ := impl.MultFor(a, b)
			if !in(number, 0, 999999999) || !in(noughts, 0, 9) || !in(mult, 0, impl.MaxInt32) || !in(shift, 0, 31) {
				t.Fatalf("ScaleOf(%d, %d) = %d, %d; MultFor = %d, %d", a, b, number, noughts, mult, shift)
			}
		}
	}
}
