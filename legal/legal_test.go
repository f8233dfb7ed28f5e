package legal

import (
	"math"
	"slices"
	"testing"

	"deadwood/api"
	"deadwood/hist"
	"deadwood/model"
)

func oper(from, to int) api.Oper { return api.Oper{From: from, To: to} }

// slowMay is the document's words, one by one.
func slowMay(o []api.Oper, order []int) bool {
	for i, p := range order {
		if p < 0 || p >= len(o) || slices.Contains(order[:i], p) {
			return false
		}
		for _, q := range order[:i] {
			if hist.Ahead(o[p], o[q]) {
				return false
			}
		}
	}
	for p := range o {
		if o[p].To >= 0 && !slices.Contains(order, p) {
			return false
		}
	}
	return true
}

func slowFree(o []api.Oper, order []int) []int {
	var out []int
	for p := range o {
		free := !slices.Contains(order, p)
		for q := range o {
			if q != p && !slices.Contains(order, q) && hist.Ahead(o[q], o[p]) {
				free = false
			}
		}
		if free {
			out = append(out, p)
		}
	}
	return out
}

// orders calls back with all lists of places from -1 to n, of n + 1 places at most.
func orders(n int, told func([]int)) {
	var grow func(l []int)
	grow = func(l []int) {
		told(slices.Clone(l))
		if len(l) > n {
			return
		}
		for p := -1; p <= n; p++ {
			grow(append(l, p))
		}
	}
	grow(nil)
}

var histories = [][]api.Oper{
	nil,
	{oper(0, 1)},
	{oper(0, -1)},
	{oper(0, 1), oper(2, 3), oper(4, -1)},
	{oper(0, 3), oper(1, 2), oper(4, 5)},
	{oper(0, 5), oper(1, -1), oper(2, 3)},
	{oper(0, -1), oper(1, 4), oper(2, 3)},
	{oper(0, 2), oper(1, -1), oper(3, 4), oper(5, -1)},
	{oper(0, 7), oper(1, 2), oper(3, 5), oper(4, 6)},
	{oper(5, 1), oper(3, 2), oper(9, 0)}, // such as no history has
	{oper(1, 0), oper(2, 3), oper(0, 3)},
	{oper(4, 0), oper(0, 0), oper(1, 0), oper(1, 1)},
}

func TestMayAndFree(t *testing.T) { // 12.1, 12.2, 12.3
	for i, o := range histories {
		orders(len(o), func(order []int) {
			may := slowMay(o, order)
			if May(o, order) != may {
				t.Fatalf("history %d: May(%v) is not %v", i, order, may)
			}
			if slices.Contains(order, -1) || slices.Contains(order, len(o)) {
				if len(Free(o, order)) != 0 {
					t.Fatalf("history %d: something is free behind %v", i, order)
				}
				return
			}
			free := Free(o, order)
			if !slices.Equal(free, slowFree(o, order)) {
				t.Fatalf("history %d: free behind %v are %v", i, order, free)
			}
			for _, p := range free {
				if may && !May(o, append(slices.Clone(order), p)) {
					t.Fatalf("history %d: %d can't be put behind %v", i, p, order)
				}
			}
			if may && i < 9 {
				last := 0
				for at, p := range order {
					if o[p].To >= 0 {
						last = at + 1
					}
				}
				if !May(o, order[:last]) {
					t.Fatalf("history %d: %v can't be cut", i, order)
				}
			}
		})
	}
	if May(histories[3], []int{math.MaxInt}) || len(Free(histories[3], []int{math.MinInt})) != 0 {
		t.Error("places of no oper")
	}
}

func done(thread, op int, key int64, kind int) api.Oper {
	return api.Oper{Thread: thread, Call: api.Call{Op: op, Key: key, Val: 9, Hi: key, Limit: 1}, Answer: api.Answer{Kind: kind}}
}

func open(o api.Oper) api.Oper {
	o.To = -1
	return o
}

func TestLegal(t *testing.T) { // 12.1
	o := []api.Oper{
		done(0, api.Join, 0, api.Done),
		done(0, api.Insert, 5, api.Done),
		open(done(1, api.Insert, 6, 99)),
		done(0, api.Insert, 5, api.Full),
		done(0, api.Insert, 5, api.Exists),
		open(done(0, api.Delete, 5, 99)),
		done(0, api.Count, 5, api.Spent),
	}
	for _, c := range []struct {
		order []int
		ok    bool
	}{
		{nil, true}, {[]int{0}, true}, {[]int{1}, false}, {[]int{2}, true}, {[]int{0, 1}, true}, {[]int{0, 1, 1}, false}, {[]int{0, 4}, false},
		{[]int{0, 1, 4, 4}, true}, {[]int{0, 3, 3, 1, 4}, true}, {[]int{0, 1, 3}, false}, {[]int{0, 1, 5, 3, 1}, true}, {[]int{0, 6, 2, 6}, true}, {[]int{6}, false},
		{[]int{0, 7}, false}, {[]int{-1}, false}, {[]int{0, math.MaxInt}, false},
	} {
		s, ok := Behind(o, c.order, 1)
		if ok != c.ok || Legal(o, c.order, 1) != c.ok {
			t.Errorf("%v: %v", c.order, ok)
		}
		if !ok && (s.Map != nil || s.Threads != nil) {
			t.Errorf("%v: beside false is a zero state", c.order)
		}
	}
	s, _ := Behind(o, []int{0, 1, 5, 3, 1, 4}, 2)
	want := model.New(2)
	want, _ = want.Do(0, api.Call{Op: api.Join})
	want, _ = want.Do(0, api.Call{Op: api.Insert, Key: 5, Val: 9})
	if !s.Same(want) {
		t.Errorf("the state behind is %v", s)
	}
	if Legal(o, []int{0}, 0) || Legal(o, []int{0}, -5) || !Legal(o, []int{0}, math.MaxInt) {
		t.Error("how many threads there are")
	}
}

func TestTheExample(t *testing.T) { // 12.1
	o := []api.Oper{{Call: api.Call{Op: api.Join}, From: 0, To: 1}, {Call: api.Call{Op: api.Insert, Key: 1}, From: 2, To: -1}}
	for _, order := range [][]int{{0}, {0, 1}} {
		if !May(o, order) || !Legal(o, order, 1) {
			t.Errorf("%v may be, and is legal", order)
		}
	}
	if May(o, nil) || May(o, []int{1, 0}) || May(o, []int{1}) {
		t.Error("Join was answered, and is ahead")
	}
}
