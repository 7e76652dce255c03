// Package impl is Pocketmill, a runtime for small models of whole numbers, with
// one file for each chapter of its specification.
package impl

const (
	MaxInt8  = 127
	MinInt8  = -128
	MaxInt32 = 2147483647
	MinInt32 = -2147483648
)

// tie says what becomes of a number that is as near to two whole numbers.
type tie int

const (
	tieUp   tie = iota // the greater one
	tieAway            // the one that is further from 0
)

const (
	multOne     = 2147483648 // a mult stands for itself divided by this
	maxShift    = 31
	maxRatio    = 1000000 // the most that MultFor takes
	scaleDigits = 9       // how many digits ScaleOf gives
	scaleOne    = 1000000000
)

// small and wide are numbers that can't leave their bounds: smallOf, wideOf and
// their methods cut ahead of each conversion that could lose something.
type (
	small int8
	wide  int32
)

func smallOf(x int) small { return small(ClampTo(x, MinInt8, MaxInt8)) }

func wideOf(x int) wide { return wide(ClampTo(x, MinInt32, MaxInt32)) }

func (s small) widen() wide { return wide(s) }

func (w wide) narrow() small { return smallOf(int(w)) }

func (s small) times(o small) wide { return s.widen() * o.widen() }

// timesHigh makes the product in 64 bits: that of the two least numbers is 2 to
// the 62, and only what comes out of the division has to be cut.
func (w wide) timesHigh(o wide) wide {
	return wideOf(nearest(int(w)*int(o), multOne, tieUp))
}

func (w wide) shifted(n int) wide {
	return wide(nearest(int(w), 1<<ClampTo(n, 0, maxShift), tieAway))
}

// sumOf cuts behind each term, so the order of the terms counts.
func sumOf(terms ...wide) wide {
	sum := wide(0)
	for _, t := range terms {
		sum = wideOf(int(sum) + int(t))
	}
	return sum
}

// nearest is x divided by d, which is above 0, rounded to a whole number. It
// divides down first: then the rest has one sign, and a tie looks alike on both
// sides of 0.
func nearest(x int, d int, t tie) int {
	down, rest := x/d, x%d
	if rest < 0 {
		down, rest = down-1, rest+d
	}
	above := d - rest
	if rest > above || rest == above && (t == tieUp || x > 0) {
		return down + 1
	}
	return down
}

func Sat8(x int) int { return int(smallOf(x)) }

func Sat32(x int) int { return int(wideOf(x)) }

func AddSat(a int, b int) int { return int(sumOf(wideOf(a), wideOf(b))) }

func MulHigh(a int, b int) int { return int(wideOf(a).timesHigh(wideOf(b))) }

func RoundShift(x int, n int) int { return int(wideOf(x).shifted(n)) }

func Requant(acc int, mult int, shift int, zero int) int {
	scaled := wideOf(acc).timesHigh(wideOf(mult)).shifted(shift)
	return int(sumOf(scaled, smallOf(zero).widen()).narrow())
}

func ClampTo(x int, least int, most int) int {
	if least > most || x < least {
		return least
	}
	if x > most {
		return most
	}
	return x
}

func DotOf(a []int, b []int) int {
	sum := wide(0)
	for i := 0; i < len(a) && i < len(b); i++ {
		sum = sumOf(sum, smallOf(a[i]).times(smallOf(b[i])))
	}
	return int(sum)
}

func ScaleOf(mult int, shift int) (int, int) {
	mult = ClampTo(mult, 0, MaxInt32)
	number := (mult * scaleOne / multOne) >> ClampTo(shift, 0, maxShift)
	noughts := scaleDigits
	for left := number; left > 0; left /= 10 {
		noughts--
	}
	return number, noughts
}

func MultFor(num int, den int) (int, int, bool) {
	if num <= 0 || num >= den || den > maxRatio {
		return 0, 0, false
	}
	shift := 0
	for shift < maxShift && num<<(shift+1) < den {
		shift++
	}
	return (num << shift) * multOne / den, shift, true
}
