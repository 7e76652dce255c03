package tests

import (
	"bytes"
	"encoding/binary"
	"math"
	"math/big"
	"slices"
	"testing"

	"loop.example/g00778/impl"
)

const (
	leastPut = -1099511627776
	mostPut  = 1099511627775
)

// putEdges lie at both sides of where PutWide wants a byte more, and at the ends of what it takes and of int.
func putEdges() []int {
	list := []int{0, -1, 300, 1000000, -1000000, math.MaxInt32, math.MinInt32, 1<<32 + 1, 1 << 41, -1 << 41, 1<<63 - 2, math.MaxInt, math.MinInt, math.MinInt + 1, 1 << 62, -1 << 62}
	for _, bits := range []int{6, 13, 20, 27, 34, 40} {
		for x := -2; x <= 2; x++ {
			list = append(list, 1<<bits+x, -1<<bits+x)
		}
	}
	return append(list, mostPut, mostPut+1, leastPut, leastPut-1)
}

// wantPut is what the chapter says, by the standard library's numbers of changing width.
func wantPut(x int) []byte {
	if x < leastPut || x > mostPut {
		return nil
	}
	return binary.AppendVarint(nil, int64(x))
}

// wantTake takes a number only when wantPut writes it with the same bytes.
func wantTake(b []byte, at int) (int, int) {
	if at < 0 || at >= len(b) {
		return 0, -1
	}
	x, n := binary.Varint(b[at:])
	if n <= 0 || !bytes.Equal(wantPut(int(x)), b[at:at+n]) {
		return 0, -1
	}
	return int(x), at + n
}

// wantSum cuts the sum only now and then, and at the end.
func wantSum(b []byte) int {
	sum, times, modulo := big.NewInt(1), wideInt(257), wideInt(1000003)
	for i, x := range b {
		sum.Mul(sum, times).Add(sum, wideInt(int(x)+1))
		if i%60 == 0 {
			sum.Mod(sum, modulo)
		}
	}
	return int(sum.Mod(sum, modulo).Int64())
}

func puts(numbers ...int) []byte {
	var list []byte
	for _, x := range numbers {
		list = append(list, wantPut(x)...)
	}
	return list
}

// summed has the sum of b behind it.
func summed(b []byte) []byte { return append(slices.Clone(b), wantPut(wantSum(b))...) }

// body are the bytes of these numbers with the beginning ahead, but without the sum.
func body(numbers ...int) []byte { return append([]byte("PM1"), puts(numbers...)...) }

// stored are the bytes of these numbers with the beginning and the sum that are right for them.
func stored(numbers ...int) []byte { return summed(body(numbers...)) }

func numbersOfLayer(l impl.Layer) []int {
	list := []int{l.Kind, l.Out, l.Size, l.Step, l.Mult, l.Shift, l.Zero, len(l.Weights)}
	list = append(append(list, l.Weights...), len(l.Bias))
	return append(list, l.Bias...)
}

// numbersOf are all numbers of a model, right or not, in the order in which they are stored.
func numbersOf(m impl.Model) []int {
	list := []int{m.In.H, m.In.W, m.In.C, len(m.Layers)}
	for _, l := range m.Layers {
		list = append(list, numbersOfLayer(l)...)
	}
	return list
}

// bodyOf are the bytes of a model without its sum.
func bodyOf(m impl.Model) []byte { return body(numbersOf(m)...) }

// fitNumbers tells whether PutWide writes all of them.
func fitNumbers(numbers []int) bool { return among(leastPut, mostPut, numbers...) }

func wantOk(m impl.Model) bool {
	shapes, _ := wantWalk(m)
	return len(shapes) > 0
}

// wantDecode is what the chapter says, reason by reason.
func wantDecode(b []byte) (impl.Model, int) {
	if len(b) > 6000 {
		return impl.Model{}, 5
	}
	if !bytes.HasPrefix(b, []byte("PM1")) {
		return impl.Model{}, 1
	}
	at := 3
	next := func() int {
		x := 0
		if at >= 0 {
			x, at = wantTake(b, at)
		}
		return x
	}
	count := func() int {
		n := next()
		if n < 0 || n > 2000 {
			n, at = 0, -1
		}
		return n
	}
	list := func() []int {
		var list []int
		for n := count(); n > 0; n-- {
			list = append(list, next())
		}
		return list
	}
	var m impl.Model
	m.In.H, m.In.W, m.In.C = next(), next(), next()
	for n := count(); n > 0 && at >= 0; n-- {
		var l impl.Layer
		for _, name := range fields {
			*fieldOf(&l, name) = next()
		}
		l.Weights = list()
		l.Bias = list()
		m.Layers = append(m.Layers, l)
	}
	ahead := at
	sum := next()
	switch {
	case at < 0:
		return impl.Model{}, 2
	case sum != wantSum(b[:ahead]) || at != len(b):
		return impl.Model{}, 3
	case !wantOk(m):
		return impl.Model{}, 4
	}
	return m, 0
}

// checkDecode holds DecodeModel and HeadOf of b against the chapter, and answers the code.
func checkDecode(t *testing.T, b []byte) int {
	t.Helper()
	want, code := wantDecode(b)
	got, gotCode := impl.DecodeModel(b)
	if gotCode != code || !impl.SameModel(got, want) || code != 0 && !isZeroModel(got) {
		t.Fatalf("DecodeModel(%v) = %v, %d, not %v, %d", b, got, gotCode, want, code)
	}
	checkHead(t, b)
	return code
}

// checkHead holds HeadOf against the chapter.
func checkHead(t *testing.T, b []byte) bool {
	t.Helper()
	numbers, at := make([]int, 4), 3
	for i := range numbers {
		if at >= 0 {
			numbers[i], at = wantTake(b, at)
		}
	}
	ok := bytes.HasPrefix(b, []byte("PM1")) && at >= 0
	if !ok {
		numbers = make([]int, 4)
	}
	in, n, gotOk := impl.HeadOf(b)
	if gotOk != ok || in != shape(numbers[0], numbers[1], numbers[2]) || n != numbers[3] {
		t.Fatalf("HeadOf(%v) = %v, %d, %t, not %v, %t", b, in, n, gotOk, numbers, ok)
	}
	return ok
}

// checkEncode holds what the chapter says of a model as bytes, right or not.
func checkEncode(t *testing.T, m impl.Model) []byte {
	t.Helper()
	b, ok := impl.EncodeModel(m)
	if !wantOk(m) {
		if ok || len(b) != 0 || impl.ModelSum(m) != -1 {
			t.Fatalf("EncodeModel(%v) = %v, %t, and ModelSum %d", m, b, ok, impl.ModelSum(m))
		}
		return nil
	}
	want := stored(numbersOf(m)...)
	if !ok || !bytes.Equal(b, want) || impl.ModelSum(m) != wantSum(want) {
		t.Fatalf("EncodeModel(%v) = %v, %t, not %v, and ModelSum %d", m, b, ok, want, impl.ModelSum(m))
	}
	return b
}

// shortModels are right, and few bytes long: each kind of layer is among them.
func shortModels() []impl.Model {
	return []impl.Model{
		model(shape(1, 1, 1), flat()),
		model(shape(2, 2, 1), relu(0), pool(2, 2, 1)),
		model(shape(8, 7, 6), pool(3, 2, 2), relu(-128), relu(127)),
		model(shape(1, 1, 2), impl.Layer{Kind: 0, Out: 1, Mult: 300, Shift: 5, Zero: -7, Weights: []int{-128, 127}, Bias: []int{-1000000}}),
		model(shape(2, 1, 1), impl.Layer{Kind: 1, Out: 2, Size: 1, Step: 1, Mult: math.MaxInt32, Shift: 31, Zero: -128, Weights: []int{-65, 64}, Bias: []int{8192, -8193}}, pool(3, 1, 2)),
		model(shape(2, 2, 2), relus(6)...),
		model(shape(1, 2, 1), flat(), relu(64), flat(), dense(2, 2, 1<<30, 4, -65), dense(1, 2, 0, 0, 63), pool(2, 1, 1)),
	}
}

func TestReadCodesAndBytesLimit(t *testing.T) {
	if impl.MaxModelBytes != 6000 {
		t.Error("a limit is another")
	}
	if impl.ReadOk != 0 || impl.ReadHead != 1 || impl.ReadShort != 2 || impl.ReadSum != 3 || impl.ReadModel != 4 || impl.ReadLong != 5 {
		t.Error("a code is another")
	}
}

// Numbers with the bytes that stand for them.
var putTable = []struct {
	x int
	b []byte
}{
	{0, []byte{0}}, {-1, []byte{1}}, {1, []byte{2}}, {-2, []byte{3}}, {2, []byte{4}},
	{63, []byte{126}}, {-64, []byte{127}}, {64, []byte{128, 1}}, {-65, []byte{129, 1}}, {300, []byte{216, 4}},
	{8191, []byte{254, 127}}, {-8192, []byte{255, 127}}, {8192, []byte{128, 128, 1}}, {-8193, []byte{129, 128, 1}},
	{1000000, []byte{128, 137, 122}}, {-1000000, []byte{255, 136, 122}},
	{1048575, []byte{254, 255, 127}}, {-1048576, []byte{255, 255, 127}}, {1048576, []byte{128, 128, 128, 1}}, {-1048577, []byte{129, 128, 128, 1}},
	{134217727, []byte{254, 255, 255, 127}}, {-134217728, []byte{255, 255, 255, 127}}, {134217728, []byte{128, 128, 128, 128, 1}}, {-134217729, []byte{129, 128, 128, 128, 1}},
	{2147483647, []byte{254, 255, 255, 255, 15}},
	{17179869183, []byte{254, 255, 255, 255, 127}}, {-17179869184, []byte{255, 255, 255, 255, 127}}, {17179869184, []byte{128, 128, 128, 128, 128, 1}}, {-17179869185, []byte{129, 128, 128, 128, 128, 1}},
	{1099511627775, []byte{254, 255, 255, 255, 255, 63}}, {-1099511627776, []byte{255, 255, 255, 255, 255, 63}},
}

func TestPutWide(t *testing.T) {
	for _, c := range putTable {
		if got := impl.PutWide(c.x); !bytes.Equal(got, c.b) {
			t.Errorf("PutWide(%d) = %v, not %v", c.x, got, c.b)
		}
	}
	for _, x := range []int{1099511627776, -1099511627777, 1 << 41, -1 << 41, 1 << 62, -1 << 62, 1<<63 - 2, math.MaxInt, math.MinInt, math.MinInt + 1} {
		if got := impl.PutWide(x); len(got) != 0 {
			t.Errorf("PutWide(%d) = %v, not nothing", x, got)
		}
	}
}

func TestPutAndTakeWide(t *testing.T) {
	check := func(x int) {
		b := impl.PutWide(x)
		if !bytes.Equal(b, wantPut(x)) {
			t.Fatalf("PutWide(%d) = %v, not %v", x, b, wantPut(x))
		}
		got, behind := impl.TakeWide(b, 0)
		if len(b) == 0 && (got != 0 || behind != -1) || len(b) > 0 && (got != x || behind != len(b)) {
			t.Fatalf("TakeWide(%v, 0) = %d, %d, not %d", b, got, behind, x)
		}
	}
	for _, x := range putEdges() {
		check(x)
	}
	for x := -20000; x <= 20000; x++ {
		check(x)
		check(x * 54975581)
		check(x * 461168601842)
	}
}

// A number with others ahead and behind, at each place; cut within, nothing stands there.
func TestTakeWideAtEachPlace(t *testing.T) {
	for _, c := range putTable {
		for _, ahead := range [][]byte{nil, {0}, {128}, {255, 255, 255, 255, 255, 255, 255}, {1, 129, 1}} {
			for _, behind := range [][]byte{nil, {0}, {1}, {128}, {255}, {127, 128, 0}} {
				b := slices.Concat(ahead, c.b, behind)
				if x, at := impl.TakeWide(b, len(ahead)); x != c.x || at != len(ahead)+len(c.b) {
					t.Errorf("TakeWide(%v, %d) = %d, %d, not %d", b, len(ahead), x, at, c.x)
				}
				for at := range len(b) + 3 {
					checkTake(t, b, at)
				}
			}
			for n := range len(c.b) {
				b := slices.Concat(ahead, c.b[:n])
				if x, at := impl.TakeWide(b, len(ahead)); x != 0 || at != -1 {
					t.Errorf("TakeWide(%v, %d) = %d, %d, not 0, -1", b, len(ahead), x, at)
				}
			}
		}
	}
}

// checkTake holds TakeWide against the chapter.
func checkTake(t *testing.T, b []byte, at int) bool {
	t.Helper()
	want, wantBehind := wantTake(b, at)
	if x, behind := impl.TakeWide(b, at); x != want || behind != wantBehind {
		t.Fatalf("TakeWide(%v, %d) = %d, %d, not %d, %d", b, at, x, behind, want, wantBehind)
	}
	return wantBehind >= 0
}

func TestTakeWideAtNoPlace(t *testing.T) {
	for _, b := range [][]byte{nil, {}, {0}, {1, 2, 3}, {128}, make([]byte, 300)} {
		for _, at := range []int{math.MinInt, math.MinInt + 1, math.MinInt + 6, -1 << 32, -300, -2, -1, len(b), len(b) + 1, len(b) + 6, 1 << 32, math.MaxInt - 6, math.MaxInt - 1, math.MaxInt} {
			if x, behind := impl.TakeWide(b, at); x != 0 || behind != -1 {
				t.Errorf("TakeWide(%v, %d) = %d, %d, not 0, -1", b, at, x, behind)
			}
		}
	}
}

func TestTakeWideRefuses(t *testing.T) {
	list := [][]byte{
		{128}, {255}, {128, 128}, {255, 255, 255, 255, 255}, {255, 255, 255, 255, 255, 255},
		{128, 0}, {129, 0}, {255, 0}, {128, 128, 0}, {216, 132, 0}, {128, 128, 128, 0}, {255, 255, 255, 255, 0}, {128, 128, 128, 128, 128, 0}, {255, 255, 255, 255, 255, 0}, {128, 128, 128, 128, 128, 128, 0},
		{128, 128, 128, 128, 128, 64}, {129, 128, 128, 128, 128, 64}, {255, 255, 255, 255, 255, 64}, {128, 128, 128, 128, 128, 127}, {255, 255, 255, 255, 255, 127}, {254, 255, 255, 255, 255, 191, 0},
		{128, 128, 128, 128, 128, 128, 1}, {255, 255, 255, 255, 255, 255, 127}, {128, 128, 128, 128, 128, 128, 128, 128, 128, 1}, {255, 255, 255, 255, 255, 255, 255, 255, 255, 1},
		{254, 255, 255, 255, 255, 255, 255, 255, 255, 1}, {255, 255, 255, 255, 255, 255, 255, 255, 255, 2}, {128, 128, 128, 128, 128, 128, 128, 128, 128, 128, 1}, bytes.Repeat([]byte{255}, 100), bytes.Repeat([]byte{128}, 100),
	}
	for _, b := range list {
		for _, behind := range [][]byte{nil, {128}, {255, 255}} {
			text := slices.Concat([]byte{7}, b, behind)
			if x, at := impl.TakeWide(text, 1); x != 0 || at != -1 {
				t.Errorf("TakeWide(%v, 1) = %d, %d, not 0, -1", text, x, at)
			}
		}
	}
}

// All bytes alone, all pairs, and all lists of 3 to 7 out of a few that matter.
func TestTakeWideOfAllFewBytes(t *testing.T) {
	right := 0
	check := func(b []byte) {
		if checkTake(t, b, 0) {
			right++
		}
	}
	for x := range 256 {
		check([]byte{byte(x)})
		for y := range 256 {
			check([]byte{byte(x), byte(y)})
		}
	}
	if right != 128+128*256+128*127 {
		t.Errorf("%d of all pairs were right", right)
	}
	few := []byte{0, 1, 63, 64, 128, 255}
	lists := [][]byte{nil}
	for n := 1; n <= 7; n++ {
		var longer [][]byte
		for _, b := range lists {
			for _, x := range few {
				longer = append(longer, append(slices.Clone(b), x))
			}
		}
		lists = longer
		for _, b := range lists {
			check(b)
		}
	}
}

func TestSumOf(t *testing.T) {
	for _, c := range []struct {
		b    []byte
		want int
	}{
		{nil, 1}, {[]byte{}, 1}, {[]byte{0}, 258}, {[]byte{2}, 260}, {[]byte{255}, 513}, {[]byte{0, 0}, 66307}, {[]byte{1, 2}, 66566}, {[]byte{2, 1}, 66822}, {[]byte("PM1"), 344592},
		{bytes.Repeat([]byte{255}, 6000), 710031}, {make([]byte, 6000), 180621},
	} {
		if got := impl.SumOf(c.b); got != c.want {
			t.Errorf("SumOf of %d bytes = %d, not %d", len(c.b), got, c.want)
		}
	}
	b := slices.Repeat([]byte{0, 255, 1, 128, 77, 3, 254, 9}, 100)
	for n := range b {
		if got := impl.SumOf(b[:n]); got != wantSum(b[:n]) || !in(got, 0, 1000002) {
			t.Fatalf("SumOf(%v) = %d, not %d", b[:n], got, wantSum(b[:n]))
		}
	}
}

func TestEncodeModel(t *testing.T) {
	for _, c := range []struct {
		m    impl.Model
		want []byte
		sum  int
	}{
		{shortModels()[0], []byte{80, 77, 49, 2, 2, 2, 2, 10, 0, 0, 0, 0, 0, 0, 0, 0, 160, 184, 41}, 429196},
		{shortModels()[1], []byte{80, 77, 49, 4, 4, 2, 4, 8, 0, 0, 0, 0, 0, 0, 0, 0, 4, 0, 4, 2, 0, 0, 0, 0, 0, 240, 137, 47}, 952284},
		{shortModels()[3], []byte{80, 77, 49, 2, 2, 4, 2, 0, 2, 0, 0, 216, 4, 10, 13, 4, 255, 1, 254, 1, 2, 255, 136, 122, 150, 196, 102}, 717527},
		{shortModels()[4], []byte{80, 77, 49, 4, 2, 2, 4, 2, 4, 2, 2, 254, 255, 255, 255, 15, 62, 255, 1, 4, 129, 1, 128, 1, 4, 128, 128, 1, 129, 128, 1, 6, 0, 2, 4, 0, 0, 0, 0, 0, 152, 214, 103}, 949956},
	} {
		if got, ok := impl.EncodeModel(c.m); !ok || !bytes.Equal(got, c.want) || impl.ModelSum(c.m) != c.sum {
			t.Errorf("EncodeModel(%v) = %v, %t, not %v, and ModelSum %d, not %d", c.m, got, ok, c.want, impl.ModelSum(c.m), c.sum)
		}
		if got, what := impl.DecodeModel(c.want); what != 0 || !impl.SameModel(got, c.m) {
			t.Errorf("DecodeModel(%v) = %v, %d, not %v", c.want, got, what, c.m)
		}
	}
	for _, m := range badModels() {
		checkEncode(t, m)
	}
	for _, m := range shortModels() {
		for place, l := range m.Layers {
			for _, name := range fields {
				for _, x := range append(putEdges(), edges...) {
					checkEncode(t, swapped(m, place, with(l, name, x)))
				}
			}
		}
	}
}

// Promise 5: models are read as they were stored, and stored again they are the same bytes.
func TestModelsAreReadAsTheyWereStored(t *testing.T) {
	for _, m := range slices.Concat(shortModels(), goodModels(), longModels(), []impl.Model{longestModel()}) {
		b := checkEncode(t, m)
		got, what := impl.DecodeModel(b)
		if what != impl.ReadOk || !impl.SameModel(got, m) || !impl.ModelOk(got) || impl.ModelText(got) != impl.ModelText(m) {
			t.Fatalf("%v is read as %v, %d", m, got, what)
		}
		if again, ok := impl.EncodeModel(got); !ok || !bytes.Equal(again, b) || impl.ModelSum(got) != impl.SumOf(b) {
			t.Fatalf("%v is stored as %v, then as %v, %t", m, b, again, ok)
		}
		x := some(m.In)
		one, _ := impl.EvalModel(m, x)
		other, _ := impl.EvalModel(got, x)
		in, n, ok := impl.HeadOf(b)
		if !equal(one, other) || in != m.In || n != len(m.Layers) || !ok {
			t.Fatalf("%v gives %v, and read %v; its head is %v, %d, %t", m, one, other, in, n, ok)
		}
	}
}

// Promise 5: cut anywhere they are not read, nor with bytes behind.
func TestCutModelsAreNotRead(t *testing.T) {
	for _, m := range slices.Concat(shortModels(), goodModels(), longModels()[:40], []impl.Model{longestModel()}) {
		b := checkEncode(t, m)
		for n := range b {
			want := impl.ReadShort
			if n < 3 {
				want = impl.ReadHead
			}
			if got, what := impl.DecodeModel(b[:n]); what != want || !isZeroModel(got) {
				t.Fatalf("%v cut at %d is read as %v, %d, not %d", b, n, got, what, want)
			}
			if got, what := impl.DecodeModel(b[n+1:]); what != impl.ReadHead || !isZeroModel(got) {
				t.Fatalf("%v from %d on is read as %v, %d", b, n+1, got, what)
			}
		}
		for _, behind := range [][]byte{{0}, {1}, {128}, {255}, {0, 0}, b, wantPut(wantSum(b))} {
			if got, what := impl.DecodeModel(slices.Concat(b, behind)); len(b)+len(behind) <= 6000 && (what != impl.ReadSum || !isZeroModel(got)) {
				t.Fatalf("%v with %v behind is read as %v, %d", b, behind, got, what)
			}
		}
	}
}

// Promise 5: each byte turned to each other one they are not read either. With each byte ahead of another, with one left out, and
// with the sum of what is there then, they are read as the chapter says.
func TestTurnedModelsAreNotRead(t *testing.T) {
	codes := map[int]int{}
	for _, m := range shortModels() {
		b := checkEncode(t, m)
		for place := range b {
			for x := range 256 {
				turned := slices.Clone(b)
				turned[place] = byte(x)
				code := checkDecode(t, turned)
				if turned[place] != b[place] && code == 0 {
					t.Fatalf("%v is read", turned)
				}
				codes[code]++
				codes[checkDecode(t, slices.Insert(slices.Clone(b), place, byte(x)))]++
				// And with the sum of what is there then.
				codes[checkDecode(t, summed(turned[:len(bodyOf(m))]))]++
			}
			codes[checkDecode(t, slices.Delete(slices.Clone(b), place, place+1))]++
		}
	}
	for code := range 5 {
		if codes[code] == 0 {
			t.Errorf("none was read with %d", code)
		}
	}
}

// Each number of a model at the edges, with a sum that is right: as many as are there, or as few.
func TestEachNumberThatIsRead(t *testing.T) {
	codes := map[int]int{}
	for _, m := range shortModels() {
		numbers := numbersOf(m)
		for place := range numbers {
			for _, x := range slices.Concat(putEdges(), edges, []int{2000, 2001, 1999, 7, 6}) {
				if x >= leastPut && x <= mostPut {
					other := slices.Clone(numbers)
					other[place] = x
					codes[checkDecode(t, stored(other...))]++
				}
			}
			codes[checkDecode(t, stored(slices.Delete(slices.Clone(numbers), place, place+1)...))]++
			codes[checkDecode(t, stored(slices.Insert(slices.Clone(numbers), place, 0)...))]++
			codes[checkDecode(t, stored(slices.Insert(slices.Clone(numbers), place, 1)...))]++
		}
	}
	for _, code := range []int{0, 2, 3, 4} {
		if codes[code] == 0 {
			t.Errorf("none was read with %d", code)
		}
	}
}

// Each number in bytes that PutWide would not write, with a sum that is right.
func TestNumbersThatAreNoPutWide(t *testing.T) {
	forms := func(x int) [][]byte {
		b := wantPut(x)
		more := slices.Clone(b)
		more[len(b)-1] |= 128
		long := append(slices.Clone(more), 0)
		for len(long) < 6 {
			long = append(long[:len(long)-1], 128, 0)
		}
		return [][]byte{append(slices.Clone(more), 0), append(slices.Clone(more), 128, 0), long, {255, 255, 255, 255, 255, 64}, {128, 128, 128, 128, 128, 127}, {128, 128, 128, 128, 128, 128, 1}, bytes.Repeat([]byte{255}, 12)}
	}
	for _, m := range shortModels() {
		numbers := numbersOf(m)
		for place, x := range numbers {
			for _, form := range forms(x) {
				b := summed(slices.Concat(body(numbers[:place]...), form, puts(numbers[place+1:]...)))
				if got, what := impl.DecodeModel(b); what != impl.ReadShort || !isZeroModel(got) {
					t.Fatalf("%v with %v for number %d is read as %v, %d", b, form, place, got, what)
				}
				if ok := checkHead(t, b); ok != (place >= 4) {
					t.Fatalf("HeadOf(%v): %t", b, ok)
				}
			}
		}
		for _, form := range forms(wantSum(bodyOf(m))) {
			if got, what := impl.DecodeModel(append(bodyOf(m), form...)); what != impl.ReadShort || !isZeroModel(got) {
				t.Fatalf("%v with the sum %v is read as %v, %d", m, form, got, what)
			}
		}
	}
}

// A sum that is not right for a model that is right.
func TestSumsThatAreNotRight(t *testing.T) {
	for _, m := range shortModels() {
		b := bodyOf(m)
		sum := wantSum(b)
		for _, x := range []int{sum - 1, sum + 1, -sum, sum + 1000003, sum - 1000003, sum * 257, 0, 1, -1, leastPut, mostPut, wantSum(b[3:]), wantSum(b[:len(b)-1]), wantSum(append(slices.Clone(b), 0)), wantSum(stored(numbersOf(m)...))} {
			want := impl.ReadSum
			if x == sum {
				want = impl.ReadOk
			}
			if _, what := impl.DecodeModel(append(slices.Clone(b), wantPut(x)...)); what != want {
				t.Errorf("%v with the sum %d: %d, not %d", b, x, what, want)
			}
		}
	}
}

// A sum that is right for a model that is none.
func TestModelsThatAreNotOkAreNotRead(t *testing.T) {
	read := 0
	for _, m := range badModels() {
		numbers := numbersOf(m)
		if len(m.Layers) > 2000 || !fitNumbers(numbers) {
			continue
		}
		b := stored(numbers...)
		want := impl.ReadModel
		if len(b) > 6000 {
			want = impl.ReadLong
		}
		if got, what := impl.DecodeModel(b); what != want || !isZeroModel(got) {
			t.Fatalf("%v is read as %v, %d, not %d", m, got, what, want)
		}
		read++
		if _, what := impl.DecodeModel(append(bodyOf(m), wantPut(wantSum(b)+1)...)); what != min(want, impl.ReadSum) && want == impl.ReadModel {
			t.Fatalf("%v with a wrong sum is read with %d", m, what)
		}
	}
	if read < 300 {
		t.Errorf("only %d were read", read)
	}
}

// Counts at their bounds, with as many numbers behind them as they say, where these are not too many.
func TestCounts(t *testing.T) {
	empty := make([]int, 9)
	behind := func(n int) []int { return make([]int, max(0, min(n, 3000))) }
	for _, c := range []struct {
		n    int
		want int
	}{
		{leastPut, impl.ReadShort}, {-2001, impl.ReadShort}, {-2000, impl.ReadShort}, {-2, impl.ReadShort}, {-1, impl.ReadShort}, {0, impl.ReadModel}, {1, impl.ReadModel}, {1999, impl.ReadModel}, {2000, impl.ReadModel},
		{2001, impl.ReadShort}, {2002, impl.ReadShort}, {3000, impl.ReadShort}, {1 << 32, impl.ReadShort}, {1<<32 + 1, impl.ReadShort}, {mostPut, impl.ReadShort},
	} {
		weights := slices.Concat([]int{2, 2, 1, 1}, make([]int, 7), []int{c.n}, behind(c.n), []int{0})
		bias := slices.Concat([]int{2, 2, 1, 1}, make([]int, 8), []int{c.n}, behind(c.n))
		both := slices.Concat([]int{2, 2, 1, 2}, empty, make([]int, 7), []int{c.n}, behind(c.n), []int{c.n}, behind(c.n))
		for _, numbers := range [][]int{weights, bias, both} {
			b := stored(numbers...)
			if got, what := impl.DecodeModel(b); what != c.want && len(b) <= 6000 || !isZeroModel(got) {
				t.Errorf("a count of %d is read as %v, %d, not %d", c.n, got, what, c.want)
			}
			checkDecode(t, b)
			b[len(b)-1] ^= 1
			if _, what := impl.DecodeModel(b); what != min(c.want, impl.ReadSum) && len(b) <= 6000 {
				t.Errorf("a count of %d with a wrong sum is read with %d", c.n, what)
			}
		}
	}
}

func TestCountsOfLayers(t *testing.T) {
	for n := range 700 {
		b := stored(append([]int{2, 2, 1, n}, make([]int, 9*n)...)...)
		want := impl.ReadModel
		if len(b) > 6000 {
			want = impl.ReadLong
		}
		if got, what := impl.DecodeModel(b); what != want || !isZeroModel(got) {
			t.Errorf("%d layers are read as %v, %d, not %d", n, got, what, want)
		}
	}
	for _, n := range []int{leastPut, -2000, -2, -1, 2000, 2001, 3000, 1 << 32, mostPut} {
		for _, numbers := range [][]int{nil, make([]int, 9), make([]int, 5900)} {
			b := stored(append([]int{2, 2, 1, n}, numbers...)...)
			if got, what := impl.DecodeModel(b); what != impl.ReadShort || !isZeroModel(got) {
				t.Errorf("a count of %d layers is read as %v, %d", n, got, what)
			}
			if in, layers, ok := impl.HeadOf(b); in != shape(2, 2, 1) || layers != n || !ok {
				t.Errorf("the head of %d layers is %v, %d, %t", n, in, layers, ok)
			}
		}
	}
	for _, m := range shortModels() {
		for n := -1; n <= 8; n++ {
			numbers := numbersOf(m)
			numbers[3] = n
			if code := checkDecode(t, stored(numbers...)); (code == 0) != (n == len(m.Layers)) {
				t.Errorf("%v with a count of %d layers is read with %d", m, n, code)
			}
		}
	}
}

// filled are bytes of just that length with a right sum; what they say is no model.
func filled(t *testing.T, size int) []byte {
	t.Helper()
	for extra := range 40 {
		weights := slices.Repeat([]int{64}, 2000)
		numbers := slices.Concat([]int{1, 1, 1, 2}, make([]int, 7), []int{2000}, weights, []int{0}, make([]int, 7), []int{size - 4060 + extra}, make([]int, size-4060+extra), []int{0})
		if b := stored(numbers...); len(b) == size {
			return b
		}
	}
	t.Fatalf("there are no %d bytes", size)
	return nil
}

func TestBytesLimit(t *testing.T) {
	for _, c := range []struct {
		size, right, wrong int
	}{{5998, impl.ReadModel, impl.ReadSum}, {5999, impl.ReadModel, impl.ReadSum}, {6000, impl.ReadModel, impl.ReadSum}, {6001, impl.ReadLong, impl.ReadLong}, {6002, impl.ReadLong, impl.ReadLong}} {
		b := filled(t, c.size)
		if got, what := impl.DecodeModel(b); what != c.right || !isZeroModel(got) {
			t.Errorf("%d bytes are read as %v, %d, not %d", c.size, got, what, c.right)
		}
		b[len(b)-1] ^= 1
		if got, what := impl.DecodeModel(b); what != c.wrong || !isZeroModel(got) {
			t.Errorf("%d bytes with a wrong sum are read as %v, %d, not %d", c.size, got, what, c.wrong)
		}
	}
	// A model that is right, filled up with bytes behind it.
	for size := 5990; size <= 6010; size++ {
		b := checkEncode(t, shortModels()[1])
		b = append(b, make([]byte, size-len(b))...)
		want := impl.ReadSum
		if size > 6000 {
			want = impl.ReadLong
		}
		if _, what := impl.DecodeModel(b); what != want {
			t.Errorf("%d bytes are read with %d, not %d", size, what, want)
		}
		if in, n, ok := impl.HeadOf(b); in != shape(2, 2, 1) || n != 2 || !ok {
			t.Errorf("the head of %d bytes is %v, %d, %t", size, in, n, ok)
		}
	}
}

// longestLayers are layers of the most bytes that could be right for s.
func longestLayers(s impl.Shape) []impl.Layer {
	list := []impl.Layer{flat(), relu(-128)}
	filter := func(l impl.Layer, each int) impl.Layer {
		l.Mult, l.Shift, l.Zero = math.MaxInt32, 31, -128
		l.Weights, l.Bias = same(l.Out*each, -128), same(l.Out, -1000000)
		return l
	}
	for size := 1; size <= 3; size++ {
		for step := 1; step <= 2; step++ {
			list = append(list, pool(2, size, step), pool(3, size, step))
			for out := 1; out <= 8; out++ {
				list = append(list, filter(impl.Layer{Kind: 1, Out: out, Size: size, Step: step}, size*size*s.C))
			}
		}
	}
	for out := 1; out <= 8 && s.H*s.W*s.C <= 64; out++ {
		list = append(list, filter(impl.Layer{Out: out}, s.H*s.W*s.C))
	}
	return list
}

// longestModel is right, and none that is right is longer.
func longestModel() impl.Model {
	m := model(shape(8, 8, 8))
	for _, size := range []int{3, 3, 3, 2, 1, 1} {
		l := impl.Layer{Kind: 1, Out: 8, Size: size, Step: 1, Mult: math.MaxInt32, Shift: 31, Zero: -128}
		l.Weights, l.Bias = same(8*size*size*8, -128), same(8, -1000000)
		m.Layers = append(m.Layers, l)
	}
	return m
}

// The bounds of the chapters ahead keep each model that is right far below MaxModelBytes, so that EncodeModel never comes to it.
func TestNoRightModelIsTooLong(t *testing.T) {
	type step struct {
		then  impl.Shape
		bytes int
	}
	steps := map[impl.Shape][]step{}
	longest := map[impl.Shape]int{}
	eachShape(func(s impl.Shape) {
		for _, l := range longestLayers(s) {
			if then, ok := wantShape(s, l); ok {
				steps[s] = append(steps[s], step{then, len(puts(numbersOfLayer(l)...))})
			}
		}
	})
	for range 6 {
		longer := map[impl.Shape]int{}
		for s, list := range steps {
			for _, k := range list {
				longer[s] = max(longer[s], k.bytes+longest[k.then])
			}
		}
		longest = longer
	}
	most := 0
	for _, n := range longest {
		most = max(most, len("PM1")+4+n+3)
	}
	if b := checkEncode(t, longestModel()); len(b) != most || most != 4468 {
		t.Errorf("the longest model has %d bytes, not %d", len(b), most)
	}
}

func TestHeads(t *testing.T) {
	right := checkEncode(t, shortModels()[1])
	for _, c := range []struct {
		b    []byte
		want int
	}{
		{nil, impl.ReadHead}, {[]byte{}, impl.ReadHead}, {[]byte{0}, impl.ReadHead}, {[]byte("P"), impl.ReadHead}, {[]byte("PM"), impl.ReadHead}, {[]byte("M1P"), impl.ReadHead}, {[]byte("PM2"), impl.ReadHead}, {[]byte("pm1"), impl.ReadHead}, {[]byte{'P', 'M', 1}, impl.ReadHead}, {[]byte{'P', 'M', 0}, impl.ReadHead},
		{[]byte("PM1"), impl.ReadShort}, {[]byte("PM1\x00"), impl.ReadShort}, {[]byte("PM1\x02\x02\x02"), impl.ReadShort}, {[]byte("PM1\x02\x02\x02\x00"), impl.ReadShort}, {[]byte("PM1\x02\x02\x02\x00\x00"), impl.ReadSum}, {[]byte("PM1\x02\x02\x02\x00\x02"), impl.ReadSum}, {stored(1, 1, 1, 0), impl.ReadModel}, {stored(0, 0, 0, 0), impl.ReadModel},
		{slices.Concat([]byte{' '}, right), impl.ReadHead}, {right[1:], impl.ReadHead}, {right[3:], impl.ReadHead}, {slices.Concat([]byte("PM1"), right), impl.ReadSum}, {right, impl.ReadOk},
	} {
		if code := checkDecode(t, c.b); code != c.want {
			t.Errorf("%v is read with %d, not %d", c.b, code, c.want)
		}
	}
	// The three bytes, each turned to each other one, alone and with all that is behind them.
	for place := range 3 {
		for x := range 256 {
			b := slices.Clone(right)
			b[place] = byte(x)
			want, wantOk := impl.ReadHead, b[place] == right[place]
			if wantOk {
				want = impl.ReadOk
			}
			if code := checkDecode(t, b); code != want || checkHead(t, b) != wantOk {
				t.Errorf("%v is read with %d, not %d", b, code, want)
			}
			for n := range 8 {
				checkDecode(t, b[:n])
			}
		}
	}
}

// Several reasons at once: the first one that the chapter names.
func TestSeveralReasonsAtOnce(t *testing.T) {
	long := make([]byte, 6001)
	wrong := append([]byte("XM1"), stored(1, 1, 1, 7)[3:]...)
	noModel := bodyOf(model(shape(1, 1, 1), relu(128)))
	count := body(1, 1, 1, 2001)
	for _, c := range []struct {
		why  string
		b    []byte
		want int
	}{
		{"long with a wrong beginning", long, impl.ReadLong}, {"long and short", append([]byte("PM1"), bytes.Repeat([]byte{128}, 6000)...), impl.ReadLong}, {"long with a wrong sum", append(checkEncode(t, shortModels()[0]), long...), impl.ReadLong},
		{"long with a wrong beginning and a model", append([]byte("XM1"), append(checkEncode(t, shortModels()[0])[3:], long...)...), impl.ReadLong}, {"just not long with a wrong beginning", long[:6000], impl.ReadHead},
		{"a wrong beginning and short", []byte("XM1"), impl.ReadHead}, {"a wrong beginning, short, a count", wrong, impl.ReadHead}, {"a wrong beginning of a model", append([]byte("PN1"), checkEncode(t, shortModels()[0])[3:]...), impl.ReadHead}, {"a wrong beginning with a sum that is right for it", summed(append([]byte("PN1"), bodyOf(shortModels()[0])[3:]...)), impl.ReadHead},
		{"a count too great and a wrong sum", append(slices.Clone(count), 0), impl.ReadShort}, {"a count too great and a right sum", summed(count), impl.ReadShort}, {"a count too great and bytes behind", append(slices.Clone(count), long[:5000]...), impl.ReadShort},
		{"no model without a sum", noModel, impl.ReadShort}, {"no model with a sum cut within", summed(noModel)[:len(noModel)+1], impl.ReadShort},
		{"a wrong sum of no model", append(slices.Clone(noModel), 0), impl.ReadSum}, {"a right sum of no model, and bytes behind", append(summed(noModel), 0), impl.ReadSum}, {"a wrong sum, and bytes behind", append(slices.Clone(noModel), 0, 0), impl.ReadSum}, {"a wrong sum, and no number behind", append(slices.Clone(noModel), 0, 128), impl.ReadSum},
		{"a right sum of no model", summed(noModel), impl.ReadModel},
	} {
		if code := checkDecode(t, c.b); code != c.want {
			t.Errorf("%s: %d, not %d", c.why, code, c.want)
		}
	}
}

func TestHeadOf(t *testing.T) {
	for _, m := range slices.Concat(shortModels(), goodModels()) {
		b := checkEncode(t, m)
		for n := range len(b) + 1 {
			in, layers, ok := impl.HeadOf(b[:n])
			if n < 7 && (ok || in != (impl.Shape{}) || layers != 0) || n >= 7 && (!ok || in != m.In || layers != len(m.Layers)) {
				t.Fatalf("HeadOf(%v) = %v, %d, %t", b[:n], in, layers, ok)
			}
		}
	}
	// It asks neither for a Shape that is so nor for a count that is, nor for what stands behind.
	for _, x := range putEdges() {
		for place := range 4 {
			numbers := []int{3, 4, 5, 6}
			numbers[place] = x
			b := body(numbers...)
			fits := x >= leastPut && x <= mostPut
			for _, behind := range [][]byte{nil, {128}, make([]byte, 7000)} {
				in, n, ok := impl.HeadOf(append(slices.Clone(b), behind...))
				if fits && (!ok || in != shape(numbers[0], numbers[1], numbers[2]) || n != numbers[3]) {
					t.Fatalf("HeadOf(%v) = %v, %d, %t, not %v", b, in, n, ok, numbers)
				}
				checkHead(t, append(slices.Clone(b), behind...))
			}
			for n := range b {
				if fits && checkHead(t, b[:n]) {
					t.Fatalf("%v has a head", b[:n])
				}
			}
		}
	}
}

func TestModelSum(t *testing.T) {
	for _, m := range slices.Concat(shortModels(), goodModels(), badModels()) {
		b, ok := impl.EncodeModel(m)
		want := -1
		if ok {
			want = impl.SumOf(b)
		}
		if got := impl.ModelSum(m); got != want {
			t.Fatalf("ModelSum(%v) = %d, not %d", m, got, want)
		}
	}
}

// Bytes of all kinds behind a right beginning, by a rule of their own.
func TestDecodeModelOfAnyBytes(t *testing.T) {
	x := uint32(1)
	next := func(n int) int {
		x = x*1664525 + 1013904223
		return int(x>>8) % n
	}
	for i := range 60000 {
		b := []byte("PM1")
		for n := next(60); n > 0; n-- {
			b = append(b, byte([]int{next(4), next(12), next(128), next(256)}[next(4)]))
		}
		if i%2 == 0 {
			b = summed(b)
		}
		checkDecode(t, b)
	}
}

// roomyBytes is b with room behind it.
func roomyBytes(b []byte) []byte { return append(slices.Clone(b), 201, 202, 203)[:len(b)] }

func bytesHaveRoom(b []byte) bool {
	return bytes.Equal(b[:len(b)+3][len(b):], []byte{201, 202, 203})
}

// overwriteBytes puts x all over b, and over the room behind it.
func overwriteBytes(b []byte, x byte) {
	b = b[:cap(b)]
	for i := range b {
		b[i] = x
	}
}

func TestBytesArgumentsAreLeft(t *testing.T) {
	for _, m := range slices.Concat(shortModels(), goodModels(), badModels()[:60]) {
		m = roomyModel(m)
		before := cloneModel(m)
		b, ok := impl.EncodeModel(m)
		impl.ModelSum(m)
		overwriteBytes(b, 77)
		if !impl.SameModel(m, before) || !modelHasRoom(m) {
			t.Fatalf("%v shares memory with its bytes, or was written into", before)
		}
		if again := checkEncode(t, m); ok && bytes.Equal(again, b) {
			t.Fatalf("two answers of %v share memory", before)
		}
	}
	right := checkEncode(t, shortModels()[4])
	for n := range len(right) + 1 {
		for _, b := range [][]byte{right[:n], right[n:], summed(right[:n])} {
			own := roomyBytes(b)
			impl.TakeWide(own, 0)
			impl.TakeWide(own, n)
			impl.SumOf(own)
			impl.HeadOf(own)
			got, _ := impl.DecodeModel(own)
			overwriteModel(got)
			if !bytes.Equal(own, b) || !bytesHaveRoom(own) {
				t.Fatalf("%v was written into: %v", b, own)
			}
		}
	}
}

func TestBytesAnswersAreNew(t *testing.T) {
	for _, x := range putEdges() {
		overwriteBytes(impl.PutWide(x), 77)
		if got := impl.PutWide(x); !bytes.Equal(got, wantPut(x)) {
			t.Errorf("two answers of PutWide(%d) share memory: %v", x, got)
		}
	}
	for _, m := range append(goodModels(), shortModels()...) {
		b := checkEncode(t, m)
		overwriteBytes(b, 77)
		b = checkEncode(t, m)
		first, _ := impl.DecodeModel(b)
		overwriteModel(first)
		got, what := impl.DecodeModel(b)
		overwriteBytes(b, 78)
		if what != 0 || !impl.SameModel(got, m) {
			t.Fatalf("%v is read as %v, %d, when an answer was written into", m, got, what)
		}
		checkOwnLists(t, got)
	}
}
