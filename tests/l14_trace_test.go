package tests

import (
	"bytes"
	"math"
	"slices"
	"testing"

	"loop.example/g00778/impl"
)

func equalSteps(a, b []impl.Step) bool { return slices.EqualFunc(a, b, equalStep) }

func isZeroStep(x impl.Step) bool { return equalStep(x, impl.Step{}) }

// toldStep are the bytes of a step with these counts of bytes and of numbers, right or not.
func toldStep(x impl.Step, bytes, numbers int) []byte {
	s := x.Input.Shape
	ahead, behind := puts(x.Kind, x.A, x.B, bytes), puts(s.H, s.W, s.C, numbers)
	return slices.Concat(ahead, x.Data, behind, puts(x.Input.Data...))
}

func wantPutStep(x impl.Step) ([]byte, bool) {
	s := x.Input.Shape
	if !among(leastPut, mostPut, x.Kind, x.A, x.B, s.H, s.W, s.C) || !fitNumbers(x.Input.Data) || len(x.Data) > 6000 || len(x.Input.Data) > 512 {
		return nil, false
	}
	return toldStep(x, len(x.Data), len(x.Input.Data)), true
}

// wantTakeStep reads number by number, and holds what it has read against wantPutStep.
func wantTakeStep(b []byte, at int) (impl.Step, int) {
	from := at
	next := func() int {
		x := 0
		if at >= 0 {
			x, at = wantTake(b, at)
		}
		return x
	}
	var x impl.Step
	x.Kind, x.A, x.B = next(), next(), next()
	n := next()
	if at < 0 || n < 0 || n > len(b)-at {
		return impl.Step{}, -1
	}
	x.Data = slices.Clone(b[at : at+n])
	at += n
	x.Input.Shape = shape(next(), next(), next())
	for n = next(); n > 0 && at >= 0; n-- {
		x.Input.Data = append(x.Input.Data, next())
	}
	put, ok := wantPutStep(x)
	if at < 0 || n < 0 || !ok || !bytes.Equal(put, b[from:at]) {
		return impl.Step{}, -1
	}
	return x, at
}

// putsOf are the bytes of the steps, one behind the other.
func putsOf(steps []impl.Step) []byte {
	var list []byte
	for _, x := range steps {
		list = append(list, toldStep(x, len(x.Data), len(x.Input.Data))...)
	}
	return list
}

// traced are the bytes of a trace that tells of n steps, without its sum.
func traced(n int, steps []byte) []byte { return slices.Concat([]byte("T1"), puts(n), steps) }

func wantTrace(steps []impl.Step) ([]byte, bool) {
	for _, x := range steps {
		if _, ok := wantPutStep(x); !ok {
			return nil, false
		}
	}
	if len(steps) > 200 {
		return nil, false
	}
	b := summed(traced(len(steps), putsOf(steps)))
	return b, len(b) <= 20000
}

// wantReadTrace is what the chapter says, reason by reason.
func wantReadTrace(b []byte) ([]impl.Step, int) {
	if len(b) > 20000 {
		return nil, 4
	}
	if !bytes.HasPrefix(b, []byte("T1")) {
		return nil, 1
	}
	n, at := wantTake(b, 2)
	if at < 0 || !in(n, 0, 200) {
		return nil, 2
	}
	var steps []impl.Step
	for range n {
		x, behind := wantTakeStep(b, at)
		if behind < 0 {
			return nil, 2
		}
		steps, at = append(steps, x), behind
	}
	sum, behind := wantTake(b, at)
	switch {
	case behind < 0:
		return nil, 2
	case sum != wantSum(b[:at]) || behind < len(b):
		return nil, 3
	}
	return steps, 0
}

// checkPutStep holds PutStep against the chapter.
func checkPutStep(t *testing.T, x impl.Step) ([]byte, bool) {
	t.Helper()
	want, ok := wantPutStep(x)
	if got, gotOk := impl.PutStep(x); gotOk != ok || !bytes.Equal(got, want) {
		t.Fatalf("PutStep(%v) = %v, %t, not %v, %t", x, got, gotOk, want, ok)
	}
	return want, ok
}

// checkTakeStep holds TakeStep against the chapter.
func checkTakeStep(t *testing.T, b []byte, at int) int {
	t.Helper()
	want, behind := wantTakeStep(b, at)
	if got, gotBehind := impl.TakeStep(b, at); gotBehind != behind || !equalStep(got, want) {
		t.Fatalf("TakeStep(%v, %d) = %v, %d, not %v, %d", b, at, got, gotBehind, want, behind)
	}
	return behind
}

// checkTrace holds TraceOf against the chapter, and that what it gives is read as it was written.
func checkTrace(t *testing.T, steps []impl.Step) ([]byte, bool) {
	t.Helper()
	want, ok := wantTrace(steps)
	if !ok {
		want = nil
	}
	if got, gotOk := impl.TraceOf(steps); gotOk != ok || !bytes.Equal(got, want) {
		t.Fatalf("TraceOf(%v) = %v, %t, not %v, %t", steps, got, gotOk, want, ok)
	}
	if back, code := impl.ReadTrace(want); ok && (code != 0 || !equalSteps(back, steps)) {
		t.Fatalf("%v is read as %v, %d", steps, back, code)
	}
	return want, ok
}

// checkReadTrace holds ReadTrace against the chapter, and answers the code.
func checkReadTrace(t *testing.T, b []byte) int {
	t.Helper()
	want, code := wantReadTrace(b)
	if got, gotCode := impl.ReadTrace(b); gotCode != code || !equalSteps(got, want) {
		t.Fatalf("ReadTrace(%v) = %v, %d, not %v, %d", b, got, gotCode, want, code)
	}
	return code
}

// checkNotAsItWas holds that b, which is another one than the trace of the steps, is not read as these.
func checkNotAsItWas(t *testing.T, b []byte, steps []impl.Step) int {
	t.Helper()
	if back, code := impl.ReadTrace(b); code == 0 && equalSteps(back, steps) {
		t.Fatalf("%v is read as %v", b, steps)
	}
	return checkReadTrace(t, b)
}

func data(n int) []byte {
	var list []byte
	for _, x := range spread(n, 0, 255) {
		list = append(list, byte(x))
	}
	return list
}

// odd are steps that are put, whatever a runtime says of them.
func odd() []impl.Step {
	return []impl.Step{
		{}, ticks(3), {Kind: 9, A: -1, B: -65}, {Data: []byte{0}}, {Data: []byte{128, 255}, B: 64}, load(2, brief()), submit(1, 40, small(1, -2, 127, -128)),
		{Input: shaped(0, 0, 0, 7)}, {Input: shaped(2, 2, 1, 1, 2, 3)}, {Input: shaped(2, 2, 1)}, {Input: shaped(-1, 9, 64, mostPut, leastPut)}, {Kind: leastPut, A: mostPut, B: leastPut, Data: []byte("T1"), Input: shaped(mostPut, leastPut, mostPut, 300, 0)},
		{Kind: 5, A: 200, Data: data(64), Input: tensor(8, 8, 1, spread(64, -128, 127)...)},
	}
}

// shaped is a tensor whose numbers need not fit its Shape.
func shaped(h, w, c int, numbers ...int) impl.Tensor {
	return impl.Tensor{Shape: shape(h, w, c), Data: numbers}
}

func TestTraceCodesAndLimit(t *testing.T) {
	if impl.MaxTrace != 20000 {
		t.Error("a limit is another")
	}
	if impl.TraceFine != 0 || impl.TraceHead != 1 || impl.TraceShort != 2 || impl.TraceSum != 3 || impl.TraceLong != 4 {
		t.Error("a code is another")
	}
}

// Steps with the bytes that stand for them.
func TestPutStepInNumbers(t *testing.T) {
	for _, c := range []struct {
		x    impl.Step
		want []byte
	}{
		{impl.Step{}, []byte{0, 0, 0, 0, 0, 0, 0, 0}}, {ticks(3), []byte{8, 6, 0, 0, 0, 0, 0, 0}}, {impl.Step{Kind: -1, A: 64, B: -65}, []byte{1, 128, 1, 129, 1, 0, 0, 0, 0, 0}},
		{impl.Step{Data: []byte{7}}, []byte{0, 0, 0, 2, 7, 0, 0, 0, 0}}, {impl.Step{A: 2, Data: []byte{80, 77, 49, 255}}, []byte{0, 4, 0, 8, 80, 77, 49, 255, 0, 0, 0, 0}},
		{submit(1, -65, tensor(2, 1, 1, 300, -7)), []byte{4, 2, 129, 1, 0, 4, 2, 2, 4, 216, 4, 13}}, {submit(1, 5, small(1, -2, 127, -128)), []byte{4, 2, 10, 0, 4, 4, 2, 8, 2, 3, 254, 1, 255, 1}},
		{impl.Step{Data: []byte{}, Input: shaped(0, 0, 0, 1)}, []byte{0, 0, 0, 0, 0, 0, 0, 2, 2}}, {impl.Step{Input: shaped(2, 2, 1)}, []byte{0, 0, 0, 0, 4, 4, 2, 0}},
		{impl.Step{Kind: leastPut, A: mostPut, B: 64, Data: []byte{0, 128}, Input: shaped(-1, 9, 64, mostPut, leastPut)}, []byte{255, 255, 255, 255, 255, 63, 254, 255, 255, 255, 255, 63, 128, 1, 4, 0, 128, 1, 18, 128, 1, 4, 254, 255, 255, 255, 255, 63, 255, 255, 255, 255, 255, 63}},
	} {
		got, ok := impl.PutStep(c.x)
		if !ok || !bytes.Equal(got, c.want) {
			t.Errorf("PutStep(%v) = %v, %t, not %v", c.x, got, ok, c.want)
		}
		for _, ahead := range []int{0, 1, 5} {
			b := slices.Concat(make([]byte, ahead), c.want, []byte{3, 128})
			if x, at := impl.TakeStep(b, ahead); at != ahead+len(c.want) || !equalStep(x, c.x) {
				t.Errorf("TakeStep(%v, %d) = %v, %d, not %v", b, ahead, x, at, c.x)
			}
		}
		checkPutStep(t, c.x)
	}
}

// changes put x in the place of each number of a step, one at a time.
func changes(x impl.Step, number int) []impl.Step {
	var list []impl.Step
	for place := range 6 {
		y := x
		*[]*int{&y.Kind, &y.A, &y.B, &y.Input.Shape.H, &y.Input.Shape.W, &y.Input.Shape.C}[place] = number
		list = append(list, y)
	}
	for place := range x.Input.Data {
		y := x
		y.Input.Data = putAt(x.Input.Data, place, number)
		list = append(list, y)
	}
	return list
}

// Each number of a step at the ends of what PutWide writes, beyond them, and at the ends of int.
func TestEachNumberOfAStep(t *testing.T) {
	written, refused := 0, 0
	for _, before := range []impl.Step{{}, submit(1, 40, small(1, -2, 3, -4)), {Kind: 7, A: leastPut, B: mostPut, Data: data(30), Input: shaped(9, 0, -3, mostPut, 1, leastPut)}, load(0, brief())} {
		for _, number := range append(putEdges(), edges...) {
			for _, x := range changes(before, number) {
				b, ok := checkPutStep(t, x)
				if ok != in(number, leastPut, mostPut) {
					t.Fatalf("PutStep(%v): %t", x, ok)
				}
				if !ok {
					refused++
					continue
				}
				written++
				if back, at := impl.TakeStep(b, 0); at != len(b) || !equalStep(back, x) {
					t.Fatalf("%v is taken as %v, %d", x, back, at)
				}
			}
		}
	}
	if written < 500 || refused < 200 {
		t.Errorf("%d were written, %d refused", written, refused)
	}
}

// Two numbers that are too wide, of which no sum or product is, and one beside too many bytes.
func TestPutStepWithSeveralReasons(t *testing.T) {
	for _, x := range []impl.Step{
		{A: math.MaxInt, B: math.MinInt}, {Kind: mostPut + 1, A: leastPut - 1}, {A: mostPut + 1, Data: data(6001)}, {Data: data(6001), Input: impl.Tensor{Data: make([]int, 513)}}, {B: math.MinInt, Input: impl.Tensor{Data: make([]int, 513)}},
		{Input: impl.Tensor{Data: same(512, 0, mostPut+1)}}, {Input: impl.Tensor{Data: same(511, 0, mostPut+1)}}, {Input: impl.Tensor{Data: append([]int{leastPut - 1}, same(511, 0)...)}}, {Input: shaped(math.MaxInt, math.MaxInt, math.MaxInt, math.MinInt)},
	} {
		if b, ok := impl.PutStep(x); ok || len(b) != 0 {
			t.Errorf("PutStep of %d bytes and %d numbers = %d bytes, %t", len(x.Data), len(x.Input.Data), len(b), ok)
		}
		if b, ok := impl.TraceOf([]impl.Step{x}); ok || len(b) != 0 {
			t.Errorf("TraceOf of %d bytes and %d numbers = %d bytes, %t", len(x.Data), len(x.Input.Data), len(b), ok)
		}
	}
}

// As many bytes and numbers as there may be, and one more, with a Shape that fits them, one that does not and none.
func TestManyBytesAndNumbersOfAStep(t *testing.T) {
	for _, bytes := range []int{0, 1, 2, 63, 64, 65, 127, 128, 255, 256, 2000, 2001, 5999, 6000, 6001, 6002, 12000, 20000} {
		for _, numbers := range []int{0, 1, 2, 63, 64, 65, 300, 301, 511, 512, 513, 514, 1024, 2000, 2001} {
			for _, s := range []impl.Shape{{}, shape(8, 8, 8), shape(1, 1, 1), shape(-8, 8, -8), shape(300, 0, 1)} {
				x := impl.Step{Kind: 2, A: 1, Data: data(bytes), Input: impl.Tensor{Shape: s, Data: spread(numbers, -128, 127)}}
				b, ok := checkPutStep(t, x)
				if ok != (bytes <= 6000 && numbers <= 512) {
					t.Fatalf("%d bytes and %d numbers: %t", bytes, numbers, ok)
				}
				if back, at := impl.TakeStep(append([]byte{9}, b...), 1); ok && (at != len(b)+1 || !equalStep(back, x)) {
					t.Fatalf("%d bytes and %d numbers are taken as %v, %d", bytes, numbers, back, at)
				}
			}
		}
	}
}

// All numbers at once at their ends: the longest step that there is.
func TestTheLongestStep(t *testing.T) {
	for _, end := range []int{leastPut, mostPut} {
		x := impl.Step{Kind: end, A: end, B: end, Data: bytes.Repeat([]byte{255}, 6000), Input: shaped(end, end, end, same(512, end)...)}
		b, ok := checkPutStep(t, x)
		if back, at := impl.TakeStep(b, 0); !ok || len(b) != 6*6+4+6000+512*6 || at != len(b) || !equalStep(back, x) {
			t.Errorf("%d bytes, %t, taken up to %d", len(b), ok, at)
		}
		checkTrace(t, []impl.Step{x, x})
		checkTrace(t, []impl.Step{x, x, x})
	}
}

func TestTakeStepAtEachPlace(t *testing.T) {
	var b []byte
	var at []int
	for _, x := range odd() {
		put, _ := checkPutStep(t, x)
		at = append(at, len(b))
		b = append(b, put...)
	}
	at = append(at, len(b))
	for i, x := range odd() {
		if got, behind := impl.TakeStep(b, at[i]); behind != at[i+1] || !equalStep(got, x) {
			t.Fatalf("TakeStep at %d = %v, %d, not %v, %d", at[i], got, behind, x, at[i+1])
		}
	}
	for place := -10; place < len(b)+10; place++ {
		checkTakeStep(t, b, place)
	}
	put, _ := impl.PutStep(ticks(3))
	for _, b := range [][]byte{nil, {}, {0}, put, b, make([]byte, 300)} {
		for _, at := range []int{math.MinInt, math.MinInt + 1, math.MinInt + len(b), -1 << 32, -300, -len(b), -len(b) - 1, -8, -2, -1, len(b), len(b) + 1, len(b) + 8, 1 << 32, 1<<32 + 1, math.MaxInt - 8, math.MaxInt - 1, math.MaxInt} {
			if at == 0 {
				continue
			}
			if x, behind := impl.TakeStep(b, at); behind != -1 || !isZeroStep(x) {
				t.Errorf("TakeStep of %d bytes at %d = %v, %d", len(b), at, x, behind)
			}
		}
	}
}

func TestTakeStepOfCutSteps(t *testing.T) {
	for _, x := range append(odd(), someSteps()...) {
		b, _ := checkPutStep(t, x)
		for n := range b {
			for ahead := range 2 {
				cut := append(make([]byte, ahead), b[:n]...)
				if got, behind := impl.TakeStep(cut, ahead); behind != -1 || !isZeroStep(got) {
					t.Fatalf("%v cut at %d is taken as %v, %d", b, n, got, behind)
				}
			}
			// Also where there is room behind it, in which the rest still stands.
			if got, behind := impl.TakeStep(b[:n], 0); behind != -1 || !isZeroStep(got) {
				t.Fatalf("%v cut at %d is taken as %v, %d", b, n, got, behind)
			}
		}
	}
}

// wideForms are bytes that come to x and are not those that PutWide writes, and some that come to nothing.
func wideForms(x int) [][]byte {
	b := wantPut(x)
	more := slices.Clone(b)
	more[len(b)-1] |= 128
	long := slices.Clone(more)
	for len(long) < 5 {
		long = append(long, 128)
	}
	return [][]byte{append(slices.Clone(more), 0), append(slices.Clone(more), 128, 0), append(long, 0), append(slices.Clone(long), 128, 0), {255, 255, 255, 255, 255, 64}, {254, 255, 255, 255, 255, 127}, {128, 128, 128, 128, 128, 128, 1}, bytes.Repeat([]byte{255}, 12)}
}

// partsOf are the numbers of a step, each with its bytes; those of Data are one part.
func partsOf(x impl.Step) ([]int, [][]byte) {
	s := x.Input.Shape
	numbers := append([]int{x.Kind, x.A, x.B, len(x.Data), 0, s.H, s.W, s.C, len(x.Input.Data)}, x.Input.Data...)
	var parts [][]byte
	for _, n := range numbers {
		parts = append(parts, wantPut(n))
	}
	parts[4] = x.Data
	return numbers, parts
}

func TestNumbersOfAStepThatAreNoPutWide(t *testing.T) {
	for _, x := range odd() {
		numbers, parts := partsOf(x)
		for place, n := range numbers {
			if place == 4 {
				continue
			}
			for _, form := range wideForms(n) {
				b := slices.Concat(putAt(parts, place, form)...)
				if got, behind := impl.TakeStep(append(slices.Clone(b), 0, 0, 0, 0), 0); behind != -1 || !isZeroStep(got) {
					t.Fatalf("%v with %v for number %d is taken as %v, %d", x, form, place, got, behind)
				}
				trace := summed(traced(1, b))
				if got, code := impl.ReadTrace(trace); code != impl.TraceShort || len(got) != 0 {
					t.Fatalf("%v with %v for number %d is read as %v, %d", x, form, place, got, code)
				}
				checkReadTrace(t, trace)
			}
		}
	}
}

// Counts at their bounds, with as many bytes or numbers behind them as they say, one less, and none.
func TestCountsOfAStep(t *testing.T) {
	const most = 1 << 40
	for _, c := range []struct {
		n             int
		bytes, number bool
	}{
		{-most, false, false}, {-1 << 32, false, false}, {-6000, false, false}, {-512, false, false}, {-2, false, false}, {-1, false, false}, {0, true, true}, {1, true, true}, {2, true, true}, {511, true, true}, {512, true, true}, {513, true, false}, {514, true, false}, {2000, true, false},
		{2001, true, false}, {5999, true, false}, {6000, true, false}, {6001, false, false}, {6002, false, false}, {7000, false, false}, {1 << 32, false, false}, {1<<32 + 1, false, false}, {most - 1, false, false},
	} {
		have := max(0, min(c.n, 9000))
		x := impl.Step{Kind: 2, A: 1, Data: data(have), Input: shaped(1, 2, 3, 4, 5)}
		y := impl.Step{Kind: 2, A: 1, Data: []byte{1, 2}, Input: shaped(1, 2, 3, spread(have, -200, 200)...)}
		for _, d := range []struct {
			x    impl.Step
			b    []byte
			want bool
		}{{x, toldStep(x, c.n, 2), c.bytes}, {y, toldStep(y, 2, c.n), c.number}} {
			got, behind := impl.TakeStep(d.b, 0)
			if d.want && (behind != len(d.b) || !equalStep(got, d.x)) || !d.want && (behind != -1 || !isZeroStep(got)) {
				t.Errorf("a count of %d is taken as %v, %d", c.n, got, behind)
			}
			checkTakeStep(t, d.b, 0)
			_, code := impl.ReadTrace(summed(traced(1, d.b)))
			if d.want != (code == impl.TraceFine) || !d.want && code != impl.TraceShort {
				t.Errorf("a count of %d is read with %d", c.n, code)
			}
			checkReadTrace(t, summed(traced(1, d.b)))
		}
	}
}

// More bytes or numbers are counted than stand in b, by one and by more.
func TestCountsOfMoreThanThereIs(t *testing.T) {
	for _, n := range []int{0, 1, 2, 60, 300, 512} {
		for _, more := range []int{1, 2, 9, 200, 5000} {
			x := impl.Step{Data: data(n)}
			b := slices.Concat(puts(0, 0, 0, n+more), x.Data)
			if got, behind := impl.TakeStep(b, 0); behind != -1 || !isZeroStep(got) {
				t.Errorf("%d bytes of %d are taken as %v, %d", n, n+more, got, behind)
			}
			if code := checkReadTrace(t, summed(traced(1, b))); code != impl.TraceShort && more > 3 {
				t.Errorf("%d bytes of %d are read with %d", n, n+more, code)
			}
			y := impl.Step{Input: impl.Tensor{Data: spread(n, -9, 9)}}
			b = toldStep(y, 0, n+more)
			if got, behind := impl.TakeStep(b, 0); behind != -1 || !isZeroStep(got) {
				t.Errorf("%d numbers of %d are taken as %v, %d", n, n+more, got, behind)
			}
			checkReadTrace(t, summed(traced(1, b)))
			checkReadTrace(t, summed(traced(2, slices.Concat(b, make([]byte, 40)))))
		}
	}
}

// Bytes of all kinds, by a rule of their own: what is taken is put as the same bytes.
func TestTakeStepOfAnyBytes(t *testing.T) {
	next := draws(151)
	taken := 0
	for range 60000 {
		var b []byte
		for n := next(24); n > 0; n-- {
			b = append(b, byte([]int{next(4), next(12), next(128), next(256)}[next(4)]))
		}
		at := next(3) - next(4)/3
		behind := checkTakeStep(t, b, at)
		if behind >= 0 {
			x, _ := impl.TakeStep(b, at)
			put, _ := checkPutStep(t, x)
			if !bytes.Equal(put, b[at:behind]) {
				t.Fatalf("%v is taken from %v, but put as %v", x, b[at:], put)
			}
			taken++
		}
	}
	if taken < 1000 || taken > 50000 {
		t.Errorf("%d of 60000 were taken", taken)
	}
}

// Traces with the bytes that stand for them.
func TestTraceOfInNumbers(t *testing.T) {
	for _, c := range []struct {
		steps []impl.Step
		want  []byte
	}{
		{nil, []byte{84, 49, 0, 142, 183, 73}}, {[]impl.Step{}, []byte{84, 49, 0, 142, 183, 73}}, {[]impl.Step{ticks(3)}, []byte{84, 49, 2, 8, 6, 0, 0, 0, 0, 0, 0, 246, 221, 71}},
		{[]impl.Step{{A: 2, Data: []byte{80, 77, 49, 255}}, submit(1, -65, tensor(2, 1, 1, 300, -7))}, []byte{84, 49, 4, 0, 4, 0, 8, 80, 77, 49, 255, 0, 0, 0, 0, 4, 2, 129, 1, 0, 4, 2, 2, 4, 216, 4, 13, 202, 246, 72}},
		{[]impl.Step{{Kind: leastPut, A: mostPut, B: 64, Data: []byte{0, 128}, Input: shaped(-1, 9, 64, mostPut, leastPut)}}, []byte{84, 49, 2, 255, 255, 255, 255, 255, 63, 254, 255, 255, 255, 255, 63, 128, 1, 4, 0, 128, 1, 18, 128, 1, 4, 254, 255, 255, 255, 255, 63, 255, 255, 255, 255, 255, 63, 148, 194, 75}},
		{make([]impl.Step, 2), []byte{84, 49, 4, 0, 0, 0, 0, 0, 0, 0, 0, 0, 0, 0, 0, 0, 0, 0, 0, 232, 217, 6}},
	} {
		got, ok := impl.TraceOf(c.steps)
		if !ok || !bytes.Equal(got, c.want) {
			t.Errorf("TraceOf(%v) = %v, %t, not %v", c.steps, got, ok, c.want)
		}
		if back, code := impl.ReadTrace(c.want); code != impl.TraceFine || !equalSteps(back, c.steps) {
			t.Errorf("ReadTrace(%v) = %v, %d, not %v", c.want, back, code, c.steps)
		}
		checkTrace(t, c.steps)
	}
}

func TestTraceOfTheMostSteps(t *testing.T) {
	for n := range 210 {
		for _, x := range []impl.Step{{}, ticks(3), submit(1, 40, small(1, -2, 3, -4))} {
			steps := slices.Repeat([]impl.Step{x}, n)
			b, ok := checkTrace(t, steps)
			if ok != (n <= 200) || !ok && len(b) != 0 {
				t.Fatalf("%d steps: %t", n, ok)
			}
			// The same bytes for more steps than there may be are not read.
			if _, code := impl.ReadTrace(summed(traced(n, putsOf(steps)))); ok != (code == 0) || !ok && code != impl.TraceShort {
				t.Fatalf("%d steps are read with %d", n, code)
			}
		}
	}
}

// A step whose PutStep is false, at each place, with the others fine.
func TestTraceOfAStepThatIsNotPut(t *testing.T) {
	wrong := []impl.Step{{Kind: mostPut + 1}, {A: leastPut - 1}, {B: math.MaxInt}, {Data: data(6001)}, {Input: impl.Tensor{Data: make([]int, 513)}}, {Input: shaped(1, 1, math.MinInt, 0)}, {Input: shaped(1, 1, 1, mostPut+1)}}
	for _, n := range []int{1, 2, 5, 200} {
		steps := slices.Repeat(odd()[:5], n)[:n]
		for place := range steps {
			for _, x := range wrong {
				if b, ok := impl.TraceOf(putAt(steps, place, x)); ok || len(b) != 0 {
					t.Fatalf("%v at %d of %d gives %v, %t", x, place, n, b, ok)
				}
			}
		}
	}
	if b, ok := impl.TraceOf(putAt(make([]impl.Step, 201), 200, wrong[0])); ok || len(b) != 0 {
		t.Errorf("%v, %t", b, ok)
	}
}

// lengthened are steps whose trace is of that length, the sum as long as it comes to be.
func lengthened(t *testing.T, length, sum int) []impl.Step {
	t.Helper()
	next := draws(152)
	for range 20000 {
		steps := []impl.Step{{Data: data(6000)}, {Data: data(6000)}, {Data: data(6000)}, {A: next(64), B: next(64), Data: data(1000)}}
		body := traced(4, putsOf(steps))
		steps[3].Data = data(1000 + length - sum - len(body))
		if body = traced(4, putsOf(steps)); len(body) == length-sum && len(wantPut(wantSum(body))) == sum {
			return steps
		}
	}
	t.Fatalf("there are no steps for %d bytes with a sum of %d", length, sum)
	return nil
}

// As long as a trace may be, and longer by one: by a step's bytes, or by the bytes of the sum alone.
func TestTraceLimit(t *testing.T) {
	for _, c := range []struct {
		length, sum int
		want        bool
	}{
		{19998, 3, true}, {19999, 3, true}, {20000, 3, true}, {20001, 3, false}, {20002, 3, false}, {20003, 3, false}, {20004, 3, false}, {22000, 3, false}, {19999, 2, true}, {20000, 2, true}, {20001, 2, false}, {20002, 2, false},
	} {
		steps := lengthened(t, c.length, c.sum)
		b, ok := checkTrace(t, steps)
		if ok != c.want || ok && len(b) != c.length || !ok && len(b) != 0 {
			t.Errorf("%d bytes with a sum of %d: %t", c.length, c.sum, ok)
		}
		// Read by what they are, whoever wrote them.
		b = summed(traced(4, putsOf(steps)))
		want := impl.TraceFine
		if !c.want {
			want = impl.TraceLong
		}
		if got, code := impl.ReadTrace(b); len(b) != c.length || code != want || len(got) != 4*btoi(c.want) {
			t.Errorf("%d bytes are read with %d, not %d", len(b), code, want)
		}
		if code := checkReadTrace(t, append(b, 0)); code != impl.TraceSum && len(b) < 20000 || code != impl.TraceLong && len(b) >= 20000 {
			t.Errorf("%d bytes and one more are read with %d", len(b), code)
		}
	}
	// Far beyond, with the most of everything.
	x := impl.Step{Kind: leastPut, Data: data(6000), Input: impl.Tensor{Data: same(512, mostPut)}}
	if b, ok := impl.TraceOf(slices.Repeat([]impl.Step{x}, 200)); ok || len(b) != 0 {
		t.Errorf("%d bytes, %t", len(b), ok)
	}
}

func btoi(b bool) int {
	if b {
		return 1
	}
	return 0
}

func TestReadTraceInReasons(t *testing.T) {
	put := putsOf([]impl.Step{ticks(3), submit(1, 40, small(1, -2, 3, -4))})
	one, two := putsOf([]impl.Step{ticks(3)}), traced(2, put)
	fine, long := summed(two), make([]byte, 20001)
	wrong := append([]byte("X1"), fine[2:]...)
	sum := wantSum(two)
	for _, c := range []struct {
		why  string
		b    []byte
		want int
	}{
		{"a trace", fine, impl.TraceFine}, {"a trace of no steps", summed(traced(0, nil)), impl.TraceFine},
		{"nothing", nil, impl.TraceHead}, {"empty", []byte{}, impl.TraceHead}, {"the first byte alone", []byte("T"), impl.TraceHead}, {"another byte alone", []byte("1"), impl.TraceHead}, {"a nought", []byte{0}, impl.TraceHead}, {"the second byte ahead", []byte("1T"), impl.TraceHead}, {"a small letter", []byte("t1"), impl.TraceHead}, {"another number", []byte("T2"), impl.TraceHead}, {"a model's bytes", bytesOf(brief()), impl.TraceHead}, {"something ahead", append([]byte{0}, fine...), impl.TraceHead}, {"without the beginning", fine[2:], impl.TraceHead}, {"without the first byte", fine[1:], impl.TraceHead},
		{"the beginning alone", []byte("T1"), impl.TraceShort}, {"no whole number of steps", []byte{'T', '1', 128}, impl.TraceShort}, {"a number of steps that is too long", []byte{'T', '1', 128, 0, 1}, impl.TraceShort}, {"no sum", traced(0, nil), impl.TraceShort}, {"a step alone", traced(1, one), impl.TraceShort}, {"steps without their sum", two, impl.TraceShort}, {"a sum cut within", fine[:len(fine)-1], impl.TraceShort}, {"a step less", traced(2, one), impl.TraceShort}, {"a step less, with the sum", summed(traced(2, one)), impl.TraceShort}, {"a step less of three, with the sum", summed(traced(3, put)), impl.TraceShort},
		{"-1 steps", summed(traced(-1, nil)), impl.TraceShort}, {"-1 steps, and one", summed(traced(-1, one)), impl.TraceShort}, {"too many steps", summed(traced(201, slices.Repeat(make([]byte, 8), 201))), impl.TraceShort}, {"too many steps that are not there", summed(traced(201, nil)), impl.TraceShort}, {"the most steps that are not there", summed(traced(200, nil)), impl.TraceShort}, {"the most steps", summed(traced(200, make([]byte, 1600))), impl.TraceFine}, {"one step less than that", summed(traced(200, make([]byte, 1592))), impl.TraceShort}, {"the most that PutWide writes", summed(traced(mostPut, one)), impl.TraceShort}, {"the least", summed(traced(leastPut, one)), impl.TraceShort}, {"as many as in 32 bits", summed(traced(1<<32+1, one)), impl.TraceShort},
		{"a sum in more bytes", slices.Concat(two, wideForms(sum)[0]), impl.TraceShort}, {"a sum that is too great", slices.Concat(two, []byte{255, 255, 255, 255, 255, 64}), impl.TraceShort}, {"bytes that are no sum", slices.Concat(two, []byte{128, 128, 128, 128, 128, 128, 128}), impl.TraceShort}, {"a sum of no end", slices.Concat(two, []byte{255}), impl.TraceShort},
		{"one more", slices.Concat(two, puts(sum+1)), impl.TraceSum}, {"one less", slices.Concat(two, puts(sum-1)), impl.TraceSum}, {"below 0", slices.Concat(two, puts(-sum)), impl.TraceSum}, {"a whole turn more", slices.Concat(two, puts(sum+1000003)), impl.TraceSum}, {"a whole turn less", slices.Concat(two, puts(sum-1000003)), impl.TraceSum}, {"0", slices.Concat(two, puts(0)), impl.TraceSum}, {"the sum without the beginning", slices.Concat(two, puts(wantSum(two[2:]))), impl.TraceSum}, {"the sum without the number of steps", slices.Concat(two, puts(wantSum(two[3:]))), impl.TraceSum}, {"the sum of the steps alone", slices.Concat(two, puts(wantSum(put))), impl.TraceSum}, {"the sum of one step less", slices.Concat(two, puts(wantSum(traced(1, one)))), impl.TraceSum}, {"the sum of a sum", slices.Concat(two, puts(wantSum(fine))), impl.TraceSum}, {"the most", slices.Concat(two, puts(mostPut)), impl.TraceSum}, {"the least", slices.Concat(two, puts(leastPut)), impl.TraceSum},
		{"a nought behind", append(slices.Clone(fine), 0), impl.TraceSum}, {"a byte behind", append(slices.Clone(fine), 128), impl.TraceSum}, {"the trace again", slices.Concat(fine, fine), impl.TraceSum}, {"the sum again", summed(fine), impl.TraceSum}, {"a step more than is told", summed(traced(1, put)), impl.TraceSum}, {"a step of none", summed(traced(0, one)), impl.TraceSum},
		{"one byte too long", long, impl.TraceLong}, {"much too long", make([]byte, 100000), impl.TraceLong}, {"not too long", long[:20000], impl.TraceHead},
		// Several reasons at once.
		{"long, with a beginning, and short", append([]byte("T1"), bytes.Repeat([]byte{128}, 20000)...), impl.TraceLong}, {"long, with a trace ahead", append(slices.Clone(fine), long...), impl.TraceLong}, {"long, with another beginning and a trace", append(slices.Clone(wrong), long...), impl.TraceLong}, {"long by one, with a trace ahead", append(slices.Clone(fine), long[len(fine):]...), impl.TraceLong}, {"just not long, with a trace ahead", append(slices.Clone(fine), long[len(fine)+1:]...), impl.TraceSum}, {"just not long, and short", append([]byte("T1"), bytes.Repeat([]byte{128}, 19998)...), impl.TraceShort},
		{"another beginning, and short", []byte("X1"), impl.TraceHead}, {"another beginning of a trace", wrong, impl.TraceHead}, {"another beginning with its sum", summed(wrong[:len(two)]), impl.TraceHead}, {"another beginning and a byte behind", append(slices.Clone(wrong), 0), impl.TraceHead}, {"another second byte with its sum", summed(append([]byte("T0"), two[2:]...)), impl.TraceHead},
		{"too many steps and a byte behind", append(summed(traced(201, make([]byte, 1608))), 0), impl.TraceShort}, {"too many steps and another sum", append(traced(201, make([]byte, 1608)), 0), impl.TraceShort}, {"-1 steps, their sum, and a byte behind", append(summed(traced(-1, nil)), 0), impl.TraceShort}, {"a step that is none, and another sum", append(traced(1, puts(0, 0, 0, -1, 0, 0, 0, 0)), 0), impl.TraceShort}, {"a step that is none, and its sum", summed(traced(1, puts(0, 0, 0, 0, 0, 0, 0, -1))), impl.TraceShort},
		{"another sum, and a byte behind", append(slices.Concat(two, puts(sum+1)), 0), impl.TraceSum}, {"another sum, and no number behind", append(slices.Concat(two, puts(sum+1)), 128), impl.TraceSum},
	} {
		steps, code := impl.ReadTrace(c.b)
		if code != c.want || code != impl.TraceFine && len(steps) != 0 {
			t.Errorf("%s: %v, %d, not %d", c.why, steps, code, c.want)
		}
		checkReadTrace(t, c.b)
	}
}

// scripts are steps whose traces are short enough to have each byte of them turned.
func scripts() [][]impl.Step {
	return [][]impl.Step{nil, {{}}, {ticks(3)}, odd()[:6], odd()[6:12], {load(0, brief()), submit(0, 9, small(1, -2, 3, -4)), ticks(2)}, {{Data: []byte("T1")}, stalled(200), cancel(-1), {Kind: 7}}}
}

// Promise 17: cut anywhere it is not read; nor is what stands behind the cut.
func TestCutTracesAreNotRead(t *testing.T) {
	for _, steps := range append(scripts(), odd(), someSteps(), slices.Repeat(someSteps(), 6)) {
		b, ok := checkTrace(t, steps)
		if !ok {
			t.Fatalf("%v are not written", steps)
		}
		for n := range b {
			want := impl.TraceShort
			if n < 2 {
				want = impl.TraceHead
			}
			for _, cut := range [][]byte{b[:n], slices.Clone(b[:n])} {
				if got, code := impl.ReadTrace(cut); code != want || len(got) != 0 {
					t.Fatalf("%v cut at %d is read as %v, %d, not %d", b, n, got, code, want)
				}
			}
			if len(b) > 3000 {
				continue
			}
			checkNotAsItWas(t, b[n+1:], steps)
			// With the sum of what is left it may be read, but as other steps.
			if again := summed(b[:n]); !bytes.Equal(again, b) {
				checkNotAsItWas(t, again, steps)
			}
		}
	}
}

// Promise 17: with a byte turned to any other one it is not read as it was; nor with one more or one less. With the sum of what
// is there then it is read as the chapter says.
func TestTurnedTracesAreNotReadAsTheyWere(t *testing.T) {
	codes := map[int]int{}
	for _, steps := range scripts() {
		b, _ := checkTrace(t, steps)
		body := len(b) - len(wantPut(wantSum(traced(len(steps), putsOf(steps)))))
		for place := range b {
			for x := range 256 {
				turned := slices.Clone(b)
				turned[place] = byte(x)
				if byte(x) != b[place] {
					codes[checkNotAsItWas(t, turned, steps)]++
				}
				codes[checkNotAsItWas(t, slices.Insert(slices.Clone(b), place, byte(x)), steps)]++
				if place < body && byte(x) != b[place] {
					codes[checkNotAsItWas(t, summed(turned[:body]), steps)]++
				}
			}
			codes[checkNotAsItWas(t, slices.Delete(slices.Clone(b), place, place+1), steps)]++
		}
	}
	for code := range 4 {
		if codes[code] == 0 {
			t.Errorf("none was read with %d", code)
		}
	}
}

// A sum that is right for other steps: each trace with the sum of each other one.
func TestSumsOfOtherSteps(t *testing.T) {
	all := append(scripts(), odd(), someSteps())
	for i, steps := range all {
		body := traced(len(steps), putsOf(steps))
		for k, others := range all {
			other, _ := checkTrace(t, others)
			tail := other[len(traced(len(others), putsOf(others))):]
			want := impl.TraceSum
			if i == k {
				want = impl.TraceFine
			}
			if got, code := impl.ReadTrace(slices.Concat(body, tail)); code != want || len(got) != len(steps)*btoi(i == k) {
				t.Errorf("%v with the sum of %v is read as %v, %d, not %d", steps, others, got, code, want)
			}
		}
	}
	// Two steps that change places have the same numbers, but not the same sum.
	a, b := []impl.Step{ticks(3), stalled(2)}, []impl.Step{stalled(2), ticks(3)}
	if code := checkReadTrace(t, slices.Concat(traced(2, putsOf(a)), puts(wantSum(traced(2, putsOf(b)))))); code != impl.TraceSum {
		t.Errorf("the sum of other places is read with %d", code)
	}
}

// drawNumber is mostly small, else at the edges of what is written.
func drawNumber(next func(n int) int) int {
	if next(4) > 0 {
		return next(400) - 200
	}
	list := putEdges()
	return min(mostPut, max(leastPut, list[next(len(list))]))
}

// drawOdd is any step that is put.
func drawOdd(next func(n int) int) impl.Step {
	x := impl.Step{Kind: drawNumber(next), A: drawNumber(next), B: drawNumber(next)}
	for n := next(4) * next(20); n > 0; n-- {
		x.Data = append(x.Data, byte(next(256)))
	}
	x.Input.Shape = shape(drawNumber(next), drawNumber(next), drawNumber(next))
	for n := next(4) * next(9); n > 0; n-- {
		x.Input.Data = append(x.Input.Data, drawNumber(next))
	}
	return x
}

// Promise 17: over drawn steps, of no sense and with some, a trace is read as it was written and is cut or turned at any place.
func TestDrawnTraces(t *testing.T) {
	next := draws(153)
	codes := map[int]int{}
	for i := range 600 {
		var steps []impl.Step
		for n := next([]int{4, 12, 60}[i%3]); n > 0; n-- {
			x := drawOdd(next)
			if next(2) == 0 {
				x = drawStep(next, false)
			}
			steps = append(steps, x)
		}
		b, ok := checkTrace(t, steps)
		if !ok {
			continue
		}
		at := 0
		for place, x := range steps {
			if place == 0 {
				at = len(traced(len(steps), nil))
			}
			got, behind := impl.TakeStep(b, at)
			if !equalStep(got, x) {
				t.Fatalf("step %d of %v is taken as %v", place, steps, got)
			}
			at = behind
		}
		for range 30 {
			place := next(len(b))
			if got, code := impl.ReadTrace(b[:place]); code == 0 || len(got) != 0 {
				t.Fatalf("%v cut at %d is read as %v, %d", b, place, got, code)
			}
			turned := slices.Clone(b)
			turned[place] += byte(1 + next(255))
			codes[checkNotAsItWas(t, turned, steps)]++
			codes[checkNotAsItWas(t, append(slices.Clone(b), byte(next(256))), steps)]++
		}
	}
	for _, code := range []int{1, 2, 3} {
		if codes[code] < 100 {
			t.Errorf("%d were read with %d", codes[code], code)
		}
	}
}

// Bytes of all kinds behind a right beginning, half of them with a right sum.
func TestReadTraceOfAnyBytes(t *testing.T) {
	next := draws(154)
	codes := map[int]int{}
	for i := range 60000 {
		b := []byte{'T', '1', byte(2 * next(4))}
		for n := next(40); n > 0; n-- {
			b = append(b, byte([]int{0, 0, next(2), next(4), next(4), next(256)}[next(6)]))
		}
		if i%2 == 0 {
			b = summed(b)
		}
		code := checkReadTrace(t, b)
		codes[code]++
		if steps, _ := impl.ReadTrace(b); code == 0 {
			if again, ok := impl.TraceOf(steps); !ok || !bytes.Equal(again, b) {
				t.Fatalf("%v is read as %v, which is written as %v, %t", b, steps, again, ok)
			}
		}
	}
	if codes[0] < 150 || codes[2] < 500 || codes[3] < 500 {
		t.Errorf("read with %v", codes)
	}
}

// overwriteSteps writes into each list of the steps, into the room behind it, and over the steps.
func overwriteSteps(steps []impl.Step) {
	for _, x := range steps {
		overwriteBytes(x.Data, 79)
		overwrite(x.Input.Data, 1016)
	}
	steps = steps[:cap(steps)]
	for i := range steps {
		steps[i] = impl.Step{Kind: 1017}
	}
}

func TestArgumentsOfTracesAreLeft(t *testing.T) {
	for _, before := range append(scripts(), odd(), someSteps(), make([]impl.Step, 201), []impl.Step{{Data: data(6001)}}) {
		steps := roomySteps(before)
		for i, x := range steps {
			b, _ := impl.PutStep(x)
			overwriteBytes(b, 77)
			if !equalStep(x, before[i]) || !bytesHaveRoom(x.Data) || !hasRoom(x.Input.Data) {
				t.Fatalf("%v was written into: %v", before[i], x)
			}
		}
		b, _ := impl.TraceOf(steps)
		overwriteBytes(b, 78)
		if !equalSteps(steps, before) || !stepsHaveRoom(steps) {
			t.Fatalf("%v were written into: %v", before, steps)
		}
	}
	for _, steps := range scripts() {
		right, _ := checkTrace(t, steps)
		for n := range len(right) + 1 {
			for _, b := range [][]byte{right, right[:n], right[n:], summed(right[:n])} {
				own := roomyBytes(b)
				x, _ := impl.TakeStep(own, n)
				y, _ := impl.TakeStep(own, 3)
				got, _ := impl.ReadTrace(own)
				overwriteSteps([]impl.Step{x, y})
				overwriteSteps(got)
				if !bytes.Equal(own, b) || !bytesHaveRoom(own) {
					t.Fatalf("%v was written into: %v", b, own)
				}
			}
		}
	}
}

// checkOwnSteps writes into each list, and into the room behind it, to see whether two of them share memory.
func checkOwnSteps(t *testing.T, steps []impl.Step) {
	t.Helper()
	for i, x := range steps {
		overwriteBytes(x.Data, byte(i))
		overwrite(x.Input.Data, 1000+i)
	}
	for i, x := range steps {
		if !slices.Equal(x.Input.Data, same(len(x.Input.Data), 1000+i)) || !bytes.Equal(x.Data, bytes.Repeat([]byte{byte(i)}, len(x.Data))) {
			t.Fatalf("the lists of step %d were written into through another: %v", i, x)
		}
	}
}

// The same call gives the same answer each time, whatever was written into the one before, or into the argument since.
func TestAnswersOfTracesAreNew(t *testing.T) {
	for _, steps := range append(scripts(), odd(), someSteps(), slices.Repeat(odd(), 9)) {
		b, _ := checkTrace(t, steps)
		for range 3 {
			list, _ := impl.TraceOf(steps)
			overwriteBytes(list, 77)
			for _, x := range steps {
				put, _ := impl.PutStep(x)
				overwriteBytes(put, 78)
				put, _ = checkPutStep(t, x)
				one, _ := impl.TakeStep(put, 0)
				overwriteSteps([]impl.Step{one})
				checkTakeStep(t, put, 0)
			}
			first, _ := impl.ReadTrace(b)
			overwriteSteps(first)
			checkTrace(t, steps)
		}
		got, _ := impl.ReadTrace(b)
		own := slices.Clone(b)
		later, _ := impl.ReadTrace(own)
		overwriteBytes(own, 80)
		if !equalSteps(later, steps) {
			t.Fatalf("%v share memory with the bytes", steps)
		}
		checkOwnSteps(t, got)
	}
}
