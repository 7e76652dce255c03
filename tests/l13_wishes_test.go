package tests

import (
	"math"
	"math/big"
	"slices"
	"testing"

	"loop.example/g00778/impl"
)

func wish(id, model, due int) impl.Wish { return impl.Wish{Id: id, Model: model, Due: due} }

func equalLists(a, b [][]int) bool {
	return slices.EqualFunc(a, b, func(x, y []int) bool { return slices.Equal(x, y) })
}

// wishes are n of them for that many models, due in any order, some of them together.
func wishes(n, models int) []impl.Wish {
	var list []impl.Wish
	for i, due := range spread(n, 0, 40) {
		list = append(list, wish((i*7)%n*3+1, i*i%models, due))
	}
	if n%7 == 0 {
		for i := range list {
			list[i].Id = n - i
		}
	}
	return list
}

func wantWishesOk(list []impl.Wish) bool {
	for i, w := range list {
		if w.Id < 1 || w.Model < 0 || !in(w.Due, 0, 1000000) {
			return false
		}
		for _, o := range list[:i] {
			if o.Id == w.Id {
				return false
			}
		}
	}
	return len(list) <= 300
}

// wantInTurn takes the place of the least due that is left, the first of several, until none is.
func wantInTurn(dues []int) []int {
	taken := make([]bool, len(dues))
	var order []int
	for range dues {
		first := -1
		for place, due := range dues {
			if !taken[place] && (first < 0 || due < dues[first]) {
				first = place
			}
		}
		taken[first] = true
		order = append(order, first)
	}
	return order
}

func duesOf(list []impl.Wish) []int {
	var dues []int
	for _, w := range list {
		dues = append(dues, w.Due)
	}
	return dues
}

// wantGroups looks for each wish through all groups that there are.
func wantGroups(list []impl.Wish, most int) ([][]int, bool) {
	if !in(most, 1, 8) || !wantWishesOk(list) {
		return nil, false
	}
	var groups [][]int
	var models []int
	for _, place := range wantInTurn(duesOf(list)) {
		w, at := list[place], 0
		for at < len(groups) && (models[at] != w.Model || len(groups[at]) == most) {
			at++
		}
		if at == len(groups) {
			groups, models = append(groups, nil), append(models, w.Model)
		}
		groups[at] = append(groups[at], w.Id)
	}
	return groups, true
}

// wantGroupDues holds each Id of a group against each wish.
func wantGroupDues(list []impl.Wish, groups [][]int) []int {
	var dues []int
	for _, ids := range groups {
		var own []int
		for _, w := range list {
			if slices.Contains(ids, w.Id) {
				own = append(own, w.Due)
			}
		}
		slices.Sort(own)
		dues = append(dues, append(own, -1)[0])
	}
	return dues
}

// wantFitsBatch adds up without an end to its numbers.
func wantFitsBatch(costs, dues []int, now int) bool {
	for i := range min(len(costs), len(dues)) {
		end := wideInt(now)
		for _, cost := range costs[:i+1] {
			end = new(big.Int).Add(end, wideInt(cost))
		}
		if end.Cmp(wideInt(dues[i])) > 0 {
			return false
		}
	}
	return len(costs) == len(dues)
}

func checkGroups(t *testing.T, list []impl.Wish, most int) bool {
	t.Helper()
	want, ok := wantGroups(list, most)
	got, is := impl.GroupWishes(list, most)
	if is != ok || !equalLists(got, want) {
		t.Fatalf("GroupWishes(%v, %d) = %v, %t, not %v, %t", list, most, got, is, want, ok)
	}
	checkGroupDues(t, list, got)
	return ok
}

func checkGroupDues(t *testing.T, list []impl.Wish, groups [][]int) {
	t.Helper()
	if got := impl.GroupDues(list, groups); !slices.Equal(got, wantGroupDues(list, groups)) {
		t.Fatalf("GroupDues(%v, %v) = %v, not %v", list, groups, got, wantGroupDues(list, groups))
	}
}

func checkFitsBatch(t *testing.T, costs, dues []int, now int) bool {
	t.Helper()
	want := wantFitsBatch(costs, dues, now)
	if got := impl.FitsBatch(costs, dues, now); got != want {
		t.Fatalf("FitsBatch(%v, %v, %d) = %t", costs, dues, now, got)
	}
	return want
}

func checkDueOrder(t *testing.T, dues []int) {
	t.Helper()
	if got := impl.OrderByDue(dues); !slices.Equal(got, wantInTurn(dues)) {
		t.Fatalf("OrderByDue(%v) = %v, not %v", dues, got, wantInTurn(dues))
	}
}

func TestGroupWishes(t *testing.T) {
	for _, c := range []struct {
		list []impl.Wish
		most int
		want [][]int
	}{
		{nil, 1, nil}, {[]impl.Wish{}, 8, nil}, {[]impl.Wish{wish(5, 0, 0)}, 1, [][]int{{5}}}, {[]impl.Wish{wish(5, 3, 1000000)}, 8, [][]int{{5}}},
		// By Due, and of one Due by place, not by Id.
		{[]impl.Wish{wish(1, 0, 9), wish(2, 0, 3), wish(3, 0, 5)}, 8, [][]int{{2, 3, 1}}}, {[]impl.Wish{wish(1, 0, 9), wish(2, 0, 3), wish(3, 0, 5)}, 1, [][]int{{2}, {3}, {1}}}, {[]impl.Wish{wish(3, 0, 4), wish(1, 0, 4), wish(2, 0, 4)}, 8, [][]int{{3, 1, 2}}},
		{[]impl.Wish{wish(3, 0, 4), wish(1, 0, 4), wish(9, 0, 2), wish(2, 0, 4), wish(8, 0, 2)}, 2, [][]int{{9, 8}, {3, 1}, {2}}}, {[]impl.Wish{wish(4, 0, 0), wish(3, 0, 0), wish(2, 0, 1), wish(1, 0, 0)}, 3, [][]int{{4, 3, 1}, {2}}},
		// Groups that are full, one that is filled exactly, and one that is left open.
		{[]impl.Wish{wish(1, 0, 1), wish(2, 0, 2), wish(3, 0, 3), wish(4, 0, 4)}, 2, [][]int{{1, 2}, {3, 4}}}, {[]impl.Wish{wish(1, 0, 1), wish(2, 0, 2), wish(3, 0, 3), wish(4, 0, 4)}, 3, [][]int{{1, 2, 3}, {4}}}, {[]impl.Wish{wish(1, 0, 1), wish(2, 0, 2), wish(3, 0, 3), wish(4, 0, 4)}, 4, [][]int{{1, 2, 3, 4}}},
		// Several models: their groups stand where they were begun, and are filled there.
		{[]impl.Wish{wish(1, 7, 1), wish(2, 0, 2), wish(3, 7, 3), wish(4, 0, 4)}, 8, [][]int{{1, 3}, {2, 4}}}, {[]impl.Wish{wish(1, 7, 1), wish(2, 0, 2), wish(3, 7, 3), wish(4, 0, 4)}, 1, [][]int{{1}, {2}, {3}, {4}}},
		{[]impl.Wish{wish(1, 2, 1), wish(2, 2, 2), wish(3, 1, 3), wish(4, 2, 4), wish(5, 0, 5), wish(6, 1, 6), wish(7, 2, 7), wish(8, 1, 8), wish(9, 2, 9)}, 2, [][]int{{1, 2}, {3, 6}, {4, 7}, {5}, {8}, {9}}},
		{[]impl.Wish{wish(1, 3, 0), wish(2, 2, 0), wish(3, 1, 0), wish(4, 0, 0), wish(5, 3, 0), wish(6, 3, 0), wish(7, 2, 0), wish(8, 3, 0)}, 3, [][]int{{1, 5, 6}, {2, 7}, {3}, {4}, {8}}},
		{[]impl.Wish{wish(1, 0, 9), wish(2, 1, 3), wish(3, 0, 5), wish(4, 0, 7)}, 2, [][]int{{2}, {3, 4}, {1}}}, {[]impl.Wish{wish(1, 0, 5), wish(2, 1, 4), wish(3, 2, 3), wish(4, 3, 2), wish(5, 4, 1), wish(6, 5, 0)}, 8, [][]int{{6}, {5}, {4}, {3}, {2}, {1}}},
		// Numbers as far as they go.
		{[]impl.Wish{wish(math.MaxInt, math.MaxInt, 1000000), wish(math.MaxInt-1, math.MaxInt-1, 0), wish(1, math.MaxInt, 0), wish(1<<32+1, 0, 5)}, 2, [][]int{{math.MaxInt - 1}, {1, math.MaxInt}, {1<<32 + 1}}},
		{[]impl.Wish{wish(1, 1<<32, 1), wish(2, 0, 2), wish(3, 1<<32, 3), wish(1<<32+1, 0, 4)}, 2, [][]int{{1, 3}, {2, 1<<32 + 1}}},
	} {
		got, ok := impl.GroupWishes(c.list, c.most)
		if !ok || !equalLists(got, c.want) {
			t.Errorf("GroupWishes(%v, %d) = %v, %t, not %v", c.list, c.most, got, ok, c.want)
		}
		checkGroups(t, c.list, c.most)
	}
}

func TestGroupWishesWithMost(t *testing.T) {
	for _, n := range []int{0, 1, 2, 7, 8, 9, 16, 17, 64, 299, 300, 301} {
		for _, models := range []int{1, 2, 5} {
			for _, most := range batches {
				if checkGroups(t, wishes(n, models), most) != (most >= 1 && most <= 8 && n <= 300) {
					t.Fatalf("%d wishes for %d models in groups of %d are taken or are not", n, models, most)
				}
			}
		}
	}
	for _, most := range []int{0, 9, -1, math.MinInt, math.MaxInt} {
		if groups, ok := impl.GroupWishes(nil, most); ok || len(groups) != 0 {
			t.Errorf("GroupWishes(none, %d) = %v, %t", most, groups, ok)
		}
	}
}

// As many as there may be, of one model each and all of one.
func TestAsManyWishesAsMayBe(t *testing.T) {
	for n := 296; n <= 304; n++ {
		var alike, apart []impl.Wish
		for i := range n {
			alike, apart = append(alike, wish(i+1, 6, 9)), append(apart, wish(n-i, i, n-i))
		}
		for most := 1; most <= 8; most++ {
			together, ok := impl.GroupWishes(alike, most)
			alone, is := impl.GroupWishes(apart, most)
			if ok != (n <= 300) || is != ok || ok && (len(together) != (n+most-1)/most || len(alone) != n) {
				t.Fatalf("%d wishes in groups of %d: %d, %t and %d, %t", n, most, len(together), ok, len(alone), is)
			}
			for i, ids := range alone {
				if !slices.Equal(ids, []int{i + 1}) {
					t.Fatalf("group %d of %d is %v", i, n, ids)
				}
			}
			checkGroups(t, alike, most)
			checkGroups(t, apart, most)
		}
	}
}

func TestGroupWishesWithOneThatIsWrong(t *testing.T) {
	var wrong []impl.Wish
	for _, x := range []int{math.MinInt, math.MinInt + 1, -1 << 32, -2, -1} {
		wrong = append(wrong, wish(x, 0, 5), wish(500, x, 5), wish(500, 0, x))
	}
	wrong = append(wrong, impl.Wish{}, wish(0, 0, 5), wish(0, 2, 1000000), wish(500, 0, 1000001), wish(500, 0, 1000002), wish(500, 0, 1<<32), wish(500, 0, math.MaxInt-1), wish(500, 0, math.MaxInt), wish(-1, -1, -1))
	for _, n := range []int{1, 2, 3, 20, 300} {
		for _, place := range []int{0, n / 2, n - 1} {
			for _, w := range wrong {
				list := putAt(wishes(n, 3), place, w)
				for _, most := range []int{1, 2, 8} {
					if checkGroups(t, list, most) {
						t.Fatalf("%v is taken, at %d of %d", w, place, n)
					}
				}
			}
			for _, w := range []impl.Wish{wish(1000, 0, 0), wish(1000, 0, 1000000), wish(math.MaxInt, math.MaxInt, 7)} {
				if !checkGroups(t, putAt(wishes(n, 3), place, w), 2) {
					t.Fatalf("%v is not taken, at %d of %d", w, place, n)
				}
			}
		}
	}
}

func TestGroupWishesWithAnIdThatStandsTwice(t *testing.T) {
	for _, n := range []int{2, 3, 9, 40} {
		for one := range n {
			for other := range n {
				list := wishes(n, 3)
				list[other].Id = list[one].Id
				for _, most := range []int{1, 8} {
					if checkGroups(t, list, most) != (one == other) {
						t.Fatalf("an Id that stands at %d and %d of %d is taken or is not", one, other, n)
					}
				}
			}
		}
	}
	for _, places := range [][2]int{{0, 299}, {299, 0}, {298, 299}, {150, 151}, {120, 290}} {
		list := wishes(300, 3)
		list[places[1]].Id = list[places[0]].Id
		if checkGroups(t, list, 8) {
			t.Errorf("an Id that stands at %v of 300 is taken", places)
		}
	}
	for _, id := range []int{1, 1 << 32, math.MaxInt} {
		for _, list := range [][]impl.Wish{{wish(id, 0, 1), wish(id, 0, 1)}, {wish(id, 0, 1), wish(id, 1, 2)}, {wish(id, 0, 9), wish(2, 0, 4), wish(id, 5, 3)}} {
			if checkGroups(t, list, 2) {
				t.Errorf("%v are taken", list)
			}
		}
	}
}

func TestGroupDues(t *testing.T) {
	list := []impl.Wish{wish(1, 0, 9), wish(2, 1, 3), wish(3, 0, 5), wish(4, 0, 7), wish(5, 2, 0), wish(6, 2, 1000000)}
	twice := []impl.Wish{wish(1, 0, 9), wish(2, 0, 4), wish(1, 0, 6), wish(2, 0, 8), wish(3, 0, 7), wish(1, 0, 8)}
	below := []impl.Wish{wish(1, 0, -5), wish(2, 0, -1), wish(3, 0, 4), wish(4, 0, math.MinInt), wish(5, 0, math.MaxInt), wish(0, 0, 6), wish(-7, 0, 2), wish(math.MinInt, -1, 3), wish(math.MaxInt, 0, -2)}
	for _, c := range []struct {
		list   []impl.Wish
		groups [][]int
		want   []int
	}{
		{nil, nil, nil}, {list, nil, nil}, {list, [][]int{}, nil}, {nil, [][]int{{1}}, []int{-1}}, {nil, [][]int{{}, nil}, []int{-1, -1}},
		{list, [][]int{{2}, {3, 4}, {1}}, []int{3, 5, 9}}, {list, [][]int{{4, 3}, {1, 4, 3}, {3, 4, 1}}, []int{5, 5, 5}}, {list, [][]int{{5}, {6}, {6, 5}, {6, 1}}, []int{0, 1000000, 0, 9}}, {list, [][]int{{1, 2, 3, 4, 5, 6}}, []int{0}},
		// Groups that are empty, and Ids that are not in the list.
		{list, [][]int{{}}, []int{-1}}, {list, [][]int{nil, {1}, {}}, []int{-1, 9, -1}}, {list, [][]int{{7}}, []int{-1}}, {list, [][]int{{0, -1, math.MinInt, math.MaxInt}}, []int{-1}}, {list, [][]int{{7, 1}, {1, 7}, {0, 4, 8}, {7, 8}}, []int{9, 9, 7, -1}},
		// An Id that stands in several groups, and several times in one.
		{list, [][]int{{1}, {1}, {1, 3}}, []int{9, 9, 5}}, {list, [][]int{{1, 1}, {4, 1, 4}}, []int{9, 7}},
		// An Id that stands several times in the list.
		{twice, [][]int{{1}, {2}, {1, 2}, {1, 3}, {3, 1}, {3}}, []int{6, 4, 4, 6, 6, 7}}, {twice, [][]int{{2, 2}, {}, {5}}, []int{4, -1, -1}},
		// Dues below 0, which are less than -1 and -1 itself, and Ids that are none.
		{below, [][]int{{1}, {2}, {3}, {1, 2}, {2, 1}, {3, 2}, {2, 3}, {4}, {5}, {4, 5}, {5, 4}, {5, 9}, {1, 9}}, []int{-5, -1, 4, -5, -5, -1, -1, math.MinInt, math.MaxInt, math.MinInt, math.MinInt, math.MaxInt, -5}},
		{below, [][]int{{0}, {-7}, {math.MinInt}, {math.MaxInt}, {0, -7}, {-7, 3}, {3, 0}}, []int{6, 2, 3, -2, 2, 2, 4}},
		{[]impl.Wish{wish(1, 0, math.MaxInt)}, [][]int{{1}, {2}}, []int{math.MaxInt, -1}},
	} {
		if got := impl.GroupDues(c.list, c.groups); !slices.Equal(got, c.want) {
			t.Errorf("GroupDues(%v, %v) = %v, not %v", c.list, c.groups, got, c.want)
		}
		checkGroupDues(t, c.list, c.groups)
	}
}

// There is no limit to how many wishes, groups or Ids there are.
func TestGroupDuesOfMany(t *testing.T) {
	list := wishes(1000, 3)
	var ids []int
	var groups [][]int
	for _, w := range list {
		ids = append(ids, w.Id)
		groups = append(groups, []int{w.Id})
	}
	if got := impl.GroupDues(list, groups); !slices.Equal(got, duesOf(list)) {
		t.Errorf("GroupDues of %d groups = %v", len(groups), got)
	}
	if got := impl.GroupDues(list, [][]int{ids, ids[500:]}); !slices.Equal(got, []int{slices.Min(duesOf(list)), slices.Min(duesOf(list[500:]))}) {
		t.Errorf("GroupDues of %d Ids = %v", len(ids), got)
	}
}

func TestFitsBatch(t *testing.T) {
	const least, most = math.MinInt, math.MaxInt
	for _, c := range []struct {
		costs, dues []int
		now         int
		want        bool
	}{
		{nil, nil, 0, true}, {[]int{}, nil, 5, true}, {nil, []int{}, most, true}, {nil, nil, least, true},
		{nil, []int{9}, 0, false}, {[]int{1}, nil, 0, false}, {[]int{1, 1}, []int{9}, 0, false}, {[]int{1}, []int{9, 9}, 0, false}, {[]int{0, 0, 0}, []int{9, 9}, 0, false}, {[]int{0, 0}, []int{9, 9, 9}, 0, false},
		// Met exactly, and passed by one: by the first, between and by the last.
		{[]int{5}, []int{5}, 0, true}, {[]int{5}, []int{4}, 0, false}, {[]int{5}, []int{6}, 0, true}, {[]int{5}, []int{12}, 7, true}, {[]int{5}, []int{12}, 8, false}, {[]int{2, 3}, []int{2, 5}, 0, true}, {[]int{3, 2}, []int{2, 5}, 0, false}, {[]int{2, 3}, []int{2, 4}, 0, false}, {[]int{2, 3}, []int{1, 9}, 0, false},
		{[]int{2, 3}, []int{12, 15}, 10, true}, {[]int{2, 3}, []int{12, 15}, 11, false}, {[]int{2, 3, 4}, []int{2, 5, 9}, 0, true}, {[]int{2, 3, 4}, []int{1, 5, 9}, 0, false}, {[]int{2, 3, 4}, []int{2, 4, 9}, 0, false}, {[]int{2, 3, 4}, []int{2, 5, 8}, 0, false}, {[]int{2, 3, 4}, []int{9, 5, 9}, 0, true},
		// In their order, not in that of the dues.
		{[]int{3, 2}, []int{5, 2}, 0, false}, {[]int{2, 3}, []int{5, 5}, 0, true}, {[]int{0}, []int{0}, 0, true}, {[]int{0}, []int{0}, 1, false}, {[]int{0, 0}, []int{3, 2}, 3, false},
		// Below 0, and costs that are none.
		{[]int{5}, []int{-5}, -10, true}, {[]int{5}, []int{-6}, -10, false}, {[]int{-5}, []int{-5}, 0, true}, {[]int{-5}, []int{-6}, 0, false}, {[]int{5, -5}, []int{4, 9}, 0, false}, {[]int{5, -5}, []int{5, 0}, 0, true}, {[]int{5, -5}, []int{5, -1}, 0, false}, {[]int{-5, 5}, []int{0, 0}, 0, true},
		// Sums that are no int.
		{[]int{most}, []int{most}, 0, true}, {[]int{most}, []int{most}, 1, false}, {[]int{1}, []int{most}, most, false}, {[]int{0}, []int{most}, most, true}, {[]int{1}, []int{most}, most - 1, true}, {[]int{most, 1}, []int{most, most}, 0, false}, {[]int{most, most}, []int{most, most}, 0, false}, {[]int{most, most, 2}, []int{most, most, most}, 0, false},
		{[]int{1 << 62, 1 << 62}, []int{most, most}, 0, false}, {[]int{1 << 62, 1 << 62}, []int{most, most}, -1, true}, {[]int{most}, []int{-1}, least, true}, {[]int{most}, []int{-2}, least, false}, {[]int{most, most}, []int{most, most}, least, true}, {[]int{most, most}, []int{most, most - 3}, least, false}, {[]int{most, most}, []int{most, most - 2}, least, false}, {[]int{most, most}, []int{-1, most - 1}, least, true}, {[]int{most, most, most}, []int{most, most, most}, least, false},
		{[]int{-1}, []int{least}, least, true}, {[]int{least}, []int{least}, least, true}, {[]int{least}, []int{least}, -1, true}, {[]int{least}, []int{least}, 0, true}, {[]int{least}, []int{least}, 1, false}, {[]int{least, least, most, most}, []int{least, least, least, least}, 0, false},
		{[]int{least, least, most, most}, []int{least, least, least, -2}, 0, true}, {[]int{least, least, most, most}, []int{least, least, least, -3}, 0, false}, {[]int{least, most, most}, []int{least, -1, most}, 0, true}, {[]int{least, least, most, most, 2}, []int{0, 0, 0, 0, 0}, 0, true}, {[]int{least, least, most, most, 3}, []int{0, 0, 0, 0, 0}, 0, false},
	} {
		if got := impl.FitsBatch(c.costs, c.dues, c.now); got != c.want {
			t.Errorf("FitsBatch(%v, %v, %d) = %t", c.costs, c.dues, c.now, got)
		}
		checkFitsBatch(t, c.costs, c.dues, c.now)
	}
}

// There is no limit to how many there are.
func TestFitsBatchOfMany(t *testing.T) {
	var dues []int
	for i := range 1000 {
		dues = append(dues, 7+(i+1)*3)
	}
	if !impl.FitsBatch(same(1000, 3), dues, 7) || impl.FitsBatch(same(1000, 3), dues, 8) || !impl.FitsBatch(same(1000, 3), dues, -1) {
		t.Error("1000 that are met exactly")
	}
	for place := range dues {
		if impl.FitsBatch(same(1000, 3), putAt(dues, place, dues[place]-1), 7) {
			t.Fatalf("passed by one at %d", place)
		}
	}
}

func TestFitsBatchOfDrawnNumbers(t *testing.T) {
	next := draws(141)
	ends := []int{math.MinInt, math.MinInt + 1, math.MinInt / 2, -1 << 32, -1, 0, 1, 1 << 32, 1 << 62, math.MaxInt - 1, math.MaxInt}
	fit := 0
	for i := range 40000 {
		n := next(6)
		costs, dues := make([]int, n), make([]int, n)
		for place := range n {
			costs[place], dues[place] = ends[next(len(ends))], ends[next(len(ends))]
			if next(2) == 0 {
				dues[place] = math.MaxInt
			}
		}
		if i%9 == 0 {
			dues = append(dues, math.MaxInt)
		}
		if checkFitsBatch(t, costs, dues, ends[next(len(ends))]) {
			fit++
		}
	}
	if fit < 5000 || fit > 30000 {
		t.Errorf("%d of 40000 fit", fit)
	}
}

func TestOrderByDue(t *testing.T) {
	const least, most = math.MinInt, math.MaxInt
	for _, c := range []struct{ dues, want []int }{
		{nil, nil}, {[]int{}, nil}, {[]int{7}, []int{0}}, {[]int{1, 2, 3}, []int{0, 1, 2}}, {[]int{3, 2, 1}, []int{2, 1, 0}}, {[]int{5, 2, 5}, []int{1, 0, 2}}, {[]int{4, 4, 4, 4}, []int{0, 1, 2, 3}}, {[]int{4, 1, 4, 1, 4, 1}, []int{1, 3, 5, 0, 2, 4}},
		{[]int{0, -1, 1, -1, 0}, []int{1, 3, 0, 4, 2}}, {[]int{most, least, 0, least, most}, []int{1, 3, 2, 0, 4}}, {[]int{most, -2, least, 1}, []int{2, 1, 3, 0}}, {[]int{1 << 32, 0, 1<<32 + 1, 1}, []int{1, 3, 0, 2}},
	} {
		if got := impl.OrderByDue(c.dues); !slices.Equal(got, c.want) {
			t.Errorf("OrderByDue(%v) = %v, not %v", c.dues, got, c.want)
		}
		checkDueOrder(t, c.dues)
	}
	for n := range 400 {
		checkDueOrder(t, spread(n, -20, 20))
		checkDueOrder(t, same(n, 5))
	}
}

// inOrder are the numbers at those places.
func inOrder(numbers, places []int) []int {
	var list []int
	for _, place := range places {
		list = append(list, numbers[place])
	}
	return list
}

func fitsIn(costs, dues, places []int, now int) bool {
	return impl.FitsBatch(inOrder(costs, places), inOrder(dues, places), now)
}

// fitsInAny tells whether there is an order at all in which each is in time.
func fitsInAny(costs, dues []int, now int) bool {
	places := make([]int, len(costs))
	for i := range places {
		places[i] = i
	}
	any := false
	orders(places, 0, func(places []int) { any = any || fitsIn(costs, dues, places, now) })
	return any
}

// Promise 16: in the order of the dues all are in time, if they are in any.
func TestTheOrderOfTheDuesIsTheBest(t *testing.T) {
	next := draws(142)
	fit, later := 0, 0
	for range 6000 {
		n, now := next(6), next(40)-10
		costs, dues := make([]int, n), make([]int, n)
		for i := range n {
			costs[i] = next(9)
		}
		for i := range n {
			dues[i] = now + next(total(costs)+4)
		}
		any, byDue := fitsInAny(costs, dues, now), fitsIn(costs, dues, impl.OrderByDue(dues), now)
		if any != byDue {
			t.Fatalf("costs %v, dues %v from %d on: in some order %t, by due %t", costs, dues, now, any, byDue)
		}
		if any {
			fit++
			if !impl.FitsBatch(costs, dues, now) {
				later++
			}
		}
	}
	if fit < 1500 || fit > 4500 || later < 400 {
		t.Errorf("%d of 6000 fit, %d of them not as they were drawn", fit, later)
	}
}

// Promise 16: dues that are met just so in some order are met in that of the dues, and one less is not in any.
func TestDuesThatAreMetExactly(t *testing.T) {
	next := draws(143)
	for i := range 3000 {
		n, now := 1+next(6), next(100)
		if i%10 == 0 {
			n = 300
		}
		costs, dues := make([]int, n), make([]int, n)
		places := wantInTurn(spread(n, 0, 997))
		end := now
		for _, place := range places {
			costs[place] = 1 + next(30)
			end += costs[place]
			dues[place] = end
		}
		if !fitsIn(costs, dues, places, now) || !fitsIn(costs, dues, impl.OrderByDue(dues), now) {
			t.Fatalf("costs %v, dues %v from %d on are not met", costs, dues, now)
		}
		if !slices.Equal(impl.OrderByDue(dues), places) {
			t.Fatalf("OrderByDue(%v) = %v, not %v", dues, impl.OrderByDue(dues), places)
		}
		last := places[n-1]
		if fitsIn(costs, putAt(dues, last, end-1), impl.OrderByDue(dues), now) || n <= 6 && fitsInAny(costs, putAt(dues, last, end-1), now) {
			t.Fatalf("costs %v, dues %v from %d on are met with one less", costs, dues, now)
		}
	}
}

// drawWishes are right: some for one model, some for many, some due together.
func drawWishes(next func(n int) int, most int) []impl.Wish {
	models, dues := 1+next(5), []int{1, 4, 60, 1000001}[next(4)]
	var list []impl.Wish
	for i := range next(most + 1) {
		list = append(list, wish(i*5+1+next(5), next(models)*next(3), next(dues)))
	}
	for i := range list {
		o := next(i + 1)
		list[i], list[o] = list[o], list[i]
	}
	return list
}

// checkEachInOneGroup holds that each wish is in one group, of its own model, and that no group is greater than it may be.
func checkEachInOneGroup(t *testing.T, list []impl.Wish, most int, groups [][]int) {
	t.Helper()
	byId := map[int]impl.Wish{}
	for _, w := range list {
		byId[w.Id] = w
	}
	seen := map[int]bool{}
	for _, ids := range groups {
		if !in(len(ids), 1, most) {
			t.Fatalf("%v has a group %v of more or less than 1 .. %d", groups, ids, most)
		}
		for i, id := range ids {
			w, ok := byId[id]
			if !ok || seen[id] || w.Model != byId[ids[0]].Model || i > 0 && w.Due < byId[ids[i-1]].Due {
				t.Fatalf("%v has %d in %v", groups, id, ids)
			}
			seen[id] = true
		}
	}
	if len(seen) != len(list) {
		t.Fatalf("%v has %d of %d wishes", groups, len(seen), len(list))
	}
}

func TestEachWishIsInOneGroup(t *testing.T) {
	next := draws(144)
	for i := range 3000 {
		list, most := drawWishes(next, []int{6, 30, 30, 120, 300}[i%5]), 1+next(8)
		if !checkGroups(t, list, most) {
			t.Fatalf("GroupWishes(%v, %d) is false", list, most)
		}
		groups, _ := impl.GroupWishes(list, most)
		checkEachInOneGroup(t, list, most, groups)
		dues := impl.GroupDues(list, groups)
		checkDueOrder(t, dues)
		if !slices.IsSorted(dues) {
			t.Fatalf("the groups %v are due at %v", groups, dues)
		}
	}
}

// Drawn wishes in which something may be wrong, and groups that nobody made of them.
func TestDrawnWishes(t *testing.T) {
	next := draws(145)
	right, wrong := 0, 0
	for range 4000 {
		list := drawWishes(next, 20)
		if len(list) > 1 {
			w := &list[next(len(list))]
			switch next(8) {
			case 0:
				w.Id = list[next(len(list))].Id
			case 1:
				w.Id = around(1, 1000000)[next(16)]
			case 2:
				w.Model = around(0, 100)[next(16)]
			case 3:
				w.Due = around(0, 1000000)[next(16)]
			}
		}
		if checkGroups(t, list, next(11)-1) {
			right++
		} else {
			wrong++
		}
		var groups [][]int
		for range next(6) {
			groups = append(groups, spread(next(6), -2, 60))
		}
		checkGroupDues(t, list, groups)
		checkDueOrder(t, duesOf(list))
	}
	if right < 1000 || wrong < 1000 {
		t.Errorf("%d are right, %d wrong", right, wrong)
	}
}

// Wishes from their groups to their outputs: grouped, ordered by due, in time, and run as each alone.
func TestWishesThatAreRunInBatches(t *testing.T) {
	next := draws(146)
	models := goodModels()[:6]
	inTime := 0
	for range 200 {
		var list []impl.Wish
		for id := 1; id <= 1+next(24); id++ {
			list = append(list, wish(id, next(len(models)), 60+next(2000)))
		}
		most := 1 + next(8)
		groups, ok := impl.GroupWishes(list, most)
		if !ok {
			t.Fatalf("GroupWishes(%v, %d) is false", list, most)
		}
		var costs []int
		for _, ids := range groups {
			m := models[list[ids[0]-1].Model]
			outs, ok := impl.EvalBatch(m, inputs(m, len(ids)))
			if !ok || len(outs) != len(ids) {
				t.Fatalf("a group %v is not run: %v, %t", ids, outs, ok)
			}
			costs = append(costs, impl.BatchCost(m, len(ids)))
			if impl.SavedBy(m, []int{len(ids)}) != len(ids)*impl.TotalCost(m)-costs[len(costs)-1] {
				t.Fatalf("SavedBy(%v, %d)", m, len(ids))
			}
		}
		dues := impl.GroupDues(list, groups)
		if checkFitsBatch(t, costs, dues, 0) {
			inTime++
		}
		if fitsIn(costs, dues, impl.OrderByDue(dues), 0) != impl.FitsBatch(costs, dues, 0) {
			t.Fatalf("groups %v that come by due are in time in another order", groups)
		}
	}
	if inTime < 10 || inTime > 190 {
		t.Errorf("%d of 200 are in time", inTime)
	}
}

// roomyLists are lists with room behind each of them and behind them all.
func roomyLists(lists [][]int) [][]int {
	all := append(slices.Clone(lists), []int{87}, []int{88})[:len(lists)]
	for i, list := range all {
		all[i] = roomy(list)
	}
	return all
}

func listsHaveRoom(lists [][]int) bool {
	for _, list := range lists {
		if !hasRoom(list) {
			return false
		}
	}
	return equalLists(lists[:len(lists)+2][len(lists):], [][]int{{87}, {88}})
}

func overwriteLists(lists [][]int) {
	for _, list := range lists {
		overwrite(list, 1000)
	}
	lists = lists[:cap(lists)]
	for i := range lists {
		lists[i] = []int{1001}
	}
}

func TestArgumentsOfWishesAreLeft(t *testing.T) {
	next := draws(147)
	spare := []impl.Wish{wish(77, 78, 79), wish(80, 81, 82)}
	for i := range 1500 {
		before := drawWishes(next, []int{5, 30, 300}[i%3])
		if i%4 == 0 {
			before = append(before, wish(next(3), next(3)-1, next(9)-2))
		}
		list := append(slices.Clone(before), spare...)[:len(before)]
		most := next(10)
		groups, _ := impl.GroupWishes(list, most)
		given := roomyLists(groups)
		told := impl.GroupDues(list, given)
		costs, dues := roomy(spread(len(told), 1, 9)), roomy(told)
		impl.FitsBatch(costs, dues, next(9))
		overwrite(impl.OrderByDue(dues), 1000)
		if !equalLists(given, groups) || !listsHaveRoom(given) || !slices.Equal(dues, told) || !hasRoom(dues) || !slices.Equal(costs, spread(len(told), 1, 9)) || !hasRoom(costs) {
			t.Fatalf("%v, %v or %v was written into", given, dues, costs)
		}
		overwriteLists(groups)
		overwrite(told, 1000)
		if !slices.Equal(list, before) || !slices.Equal(list[:len(list)+2][len(list):], spare) {
			t.Fatalf("%v was written into: %v", before, list)
		}
	}
}

// The groups share no memory with each other, also not the room behind them.
func TestGroupsAreTheirOwn(t *testing.T) {
	next := draws(148)
	for i := range 600 {
		list, most := drawWishes(next, []int{9, 60}[i%2]), 1+next(8)
		want, _ := wantGroups(list, most)
		got, _ := impl.GroupWishes(list, most)
		for place, ids := range got {
			if !slices.Equal(ids, want[place]) {
				t.Fatalf("group %d of %v shares memory with one ahead: %v", place, want, ids)
			}
			overwrite(ids, 1000)
		}
	}
}

// The same call gives the same answer each time, whatever was written into the one before.
func TestAnswersOfWishesAreNew(t *testing.T) {
	next := draws(149)
	for range 400 {
		list, most := drawWishes(next, 40), 1+next(8)
		for range 4 {
			checkGroups(t, list, most)
			checkDueOrder(t, duesOf(list))
			groups, _ := impl.GroupWishes(list, most)
			checkGroupDues(t, list, groups)
			overwrite(impl.GroupDues(list, groups), 1000)
			overwriteLists(groups)
			overwrite(impl.OrderByDue(duesOf(list)), 1000)
		}
	}
}
