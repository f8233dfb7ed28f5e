package explore

import (
	"math"
	"slices"
	"testing"

	"deadwood/api"
	"deadwood/index"
	"deadwood/lin"
	"deadwood/run"
)

// less is the order of schedules.
func less(a, b []Turn) bool {
	for i := range a {
		if a[i] != b[i] {
			return a[i].Thread < b[i].Thread || a[i].Thread == b[i].Thread && a[i].Many < b[i].Many
		}
	}
	return false
}

func TestSchedules(t *testing.T) { // 36.1, 36.2
	for threads := 1; threads <= 6; threads++ {
		for most := 1; most <= 4; most++ {
			for turns := 0; turns <= 4; turns++ {
				if threads*most > 9 && turns > 3 {
					continue
				}
				n := 0
				var last []Turn
				for l := range Each(threads, most, turns) {
					if len(l) != turns {
						t.Fatalf("a schedule of %d turns", len(l))
					}
					for i, x := range l {
						if x.Thread < 0 || x.Thread >= threads || x.Many < 1 || x.Many > most || i > 0 && l[i-1].Thread == x.Thread {
							t.Fatalf("a schedule: %v", l)
						}
					}
					if n > 0 && !less(last, l) {
						t.Fatalf("%v stands behind %v", l, last)
					}
					if at, ok := At(threads, most, turns, n); !ok || !slices.Equal(at, l) {
						t.Fatalf("At(%d, %d, %d, %d) = %v, not %v", threads, most, turns, n, at, l)
					}
					last = l
					n++
				}
				if want := slowCount(threads, most, turns); n != want || Count(threads, most, turns) != want {
					t.Fatalf("of %d threads, %d steps, %d turns: %d, %d schedules, not %d", threads, most, turns, n, Count(threads, most, turns), want)
				}
				if l, ok := At(threads, most, turns, n); ok || len(l) != 0 {
					t.Errorf("there is no schedule %d", n)
				}
			}
		}
	}
}

// slowCount counts all lists of turns one by one.
func slowCount(threads, most, turns int) int {
	n := 0
	var grow func(last, left int)
	grow = func(last, left int) {
		if left == 0 {
			n++
			return
		}
		for t := range threads {
			if t != last {
				for range most {
					grow(t, left-1)
				}
			}
		}
	}
	grow(-1, turns)
	return n
}

func TestBounds(t *testing.T) { // 36.1, 36.2
	if Count(6, 1000, 4) != 6000*5000*5000*5000 || Count(1, 1000, 1) != 1000 || Count(1, 1000, 2) != 0 || Count(6, 1000, 0) != 1 {
		t.Error("the greatest numbers")
	}
	if l, ok := At(6, 1000, 4, Count(6, 1000, 4)-1); !ok || !slices.Equal(l, []Turn{{5, 1000}, {4, 1000}, {5, 1000}, {4, 1000}}) {
		t.Errorf("the last one is %v", l)
	}
	for _, c := range [][3]int{{0, 1, 1}, {-1, 1, 1}, {7, 1, 1}, {2, 0, 1}, {2, -1, 1}, {2, 1001, 1}, {2, 1, -1}, {2, 1, 5}, {math.MaxInt, math.MaxInt, math.MaxInt}, {math.MinInt, 1, 0}, {0, 1, 0}} {
		l, ok := At(c[0], c[1], c[2], 0)
		if Count(c[0], c[1], c[2]) != 0 || ok || len(l) != 0 {
			t.Errorf("there are no schedules of %v", c)
		}
		for range Each(c[0], c[1], c[2]) {
			t.Errorf("schedules of %v are told", c)
			break
		}
	}
	for _, n := range []int{-1, math.MinInt, 2, math.MaxInt} {
		if l, ok := At(2, 1, 2, n); ok || len(l) != 0 {
			t.Errorf("there is no schedule %d", n)
		}
	}
	if l, ok := At(3, 2, 0, 0); !ok || len(l) != 0 {
		t.Error("the schedule without a turn")
	}
}

func TestTheIterator(t *testing.T) { // 36.1
	seq := Each(2, 1, 2)
	var all [][]Turn
	for range 2 {
		all = slices.Collect(seq)
		if len(all) != 2 || !slices.Equal(all[0], []Turn{{0, 1}, {1, 1}}) || !slices.Equal(all[1], []Turn{{1, 1}, {0, 1}}) {
			t.Errorf("the example: %v", all)
		}
		all[0][0].Many = 7
	}
	n := 0
	for l := range Each(3, 3, 3) {
		l[0].Thread, l[1].Many = 99, 99 // each is a new list
		if n++; n == 20 {
			break
		}
	}
	if n != 20 {
		t.Errorf("%d schedules are told", n)
	}
}

func TestPicks(t *testing.T) { // 36.1
	if l := Picks([]Turn{{2, 3}, {0, 1}, {-5, 2}, {1, 0}, {1, -4}, {1, math.MinInt}}); !slices.Equal(l, []int{2, 2, 2, 0, -5, -5}) {
		t.Errorf("picked are %v", l)
	}
	if len(Picks(nil)) != 0 || len(Picks([]Turn{{3, 1001}})) != 1000 || len(Picks([]Turn{{3, 1000}, {4, math.MaxInt}})) != 2000 {
		t.Error("a turn has 1000 picks at most")
	}
}

// ahead is what is done, alone, ahead of the schedules: keys 1 and 3 are there, and both threads have joined.
func ahead(t *testing.T) *run.Run {
	t.Helper()
	r, _ := run.New(api.Conf{Threads: 2, Slots: 30, Stamps: 99})
	for th, l := range [][]api.Call{{{Op: api.Join}, {Op: api.Insert, Key: 1, Val: 1}, {Op: api.Insert, Key: 3, Val: 3}}, {{Op: api.Join}}} {
		for _, c := range l {
			r.Do(api.Entry{Thread: th, Begin: true, Call: c})
			if !r.End(index.Most(r.Machine().Plan().Conf())) {
				t.Fatal("a call comes to no end")
			}
		}
	}
	return r
}

func TestWhateverTheSchedule(t *testing.T) { // 36.3
	calls := []api.Call{
		{Op: api.Insert, Key: 1, Val: 9}, {Op: api.Insert, Key: 2, Val: 9}, {Op: api.Delete, Key: 1}, {Op: api.Delete, Key: 3}, {Op: api.Lookup, Key: 1}, {Op: api.Range, Hi: 9, Limit: 9}, {Op: api.Open, Hi: 9},
	}
	first := ahead(t)
	for _, a := range calls {
		for _, b := range calls {
			at := 0
			for l := range Each(2, 12, 3) {
				if at++; at%5 > 0 { // one in so many is enough
					continue
				}
				for i := range l { // so that turns end all over the calls, of some 80 steps each
					l[i].Many = l[i].Many*7 - at/5%7
				}
				r := first.Clone()
				both := [2][]api.Call{{a, {Op: api.Max}}, {b, {Op: api.Lookup, Key: 3}}}
				for _, th := range Picks(l) {
					if !r.Do(api.Entry{Thread: th}) && len(both[th]) > 0 {
						r.Do(api.Entry{Thread: th, Begin: true, Call: both[th][0]})
						both[th] = both[th][1:]
					}
				}
				if !r.End(9999) || r.Machine().Fault() || !lin.Linear(r.Events()) {
					t.Fatalf("%v and %v by %v: %v", a, b, l, r.Events())
				}
			}
		}
	}
}
