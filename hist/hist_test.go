package hist

import (
	"math"
	"testing"

	"deadwood/api"
	"deadwood/call"
)

func begin(thread, op int) api.Event {
	return api.Event{Thread: thread, Call: api.Call{Op: op, Key: int64(op)}}
}

func back(thread, kind int, pairs ...api.Pair) api.Event {
	return api.Event{Thread: thread, Back: true, Answer: api.Answer{Kind: kind, Pairs: pairs}}
}

var some = []api.Event{
	begin(0, 13), begin(2, 3), back(0, 0), begin(0, 1), back(2, 3, api.Pair{Key: 1, Val: 2}), begin(2, 4), back(0, 4), begin(5, 13),
}

func TestMay(t *testing.T) { // 11.1
	for i, l := range [][]api.Event{nil, {}, {begin(0, 1)}, {begin(5, 99), back(5, 99)}, some} {
		if !May(l) {
			t.Errorf("history %d may be", i)
		}
	}
	for i, l := range [][]api.Event{
		{back(0, 0)}, {begin(0, 1), begin(0, 1)}, {begin(0, 1), back(1, 0)}, {begin(0, 1), back(0, 0), back(0, 0)},
		{begin(-1, 1)}, {begin(6, 1)}, {begin(math.MaxInt, 1)}, {begin(0, 1), begin(math.MinInt, 1)},
	} {
		if May(l) || len(Opers(l)) != 0 || Threads(l) != 0 || Open(l) != 0 {
			t.Errorf("history %d may not be", i)
		}
		for range Each(l, 0) {
			t.Errorf("history %d has opers", i)
		}
	}
}

func TestOpers(t *testing.T) { // 11.1
	want := []api.Oper{
		{Thread: 0, Call: some[0].Call, From: 0, To: 2},
		{Thread: 2, Call: some[1].Call, Answer: some[4].Answer, From: 1, To: 4},
		{Thread: 0, Call: some[3].Call, Answer: some[6].Answer, From: 3, To: 6},
		{Thread: 2, Call: some[5].Call, From: 5, To: -1},
		{Thread: 5, Call: some[7].Call, From: 7, To: -1},
	}
	got := Opers(some)
	if len(got) != len(want) {
		t.Fatalf("%d opers", len(got))
	}
	for i, o := range got {
		same(t, o, want[i])
	}
	got[1].Answer.Pairs[0].Val = 9
	if some[4].Answer.Pairs[0].Val != 2 {
		t.Error("an oper shares memory with its history")
	}
	if len(Opers(nil)) != 0 || Threads(nil) != 0 || Open(nil) != 0 {
		t.Error("nothing has something")
	}
}

func same(t *testing.T, a, b api.Oper) {
	t.Helper()
	if a.Thread != b.Thread || a.Call != b.Call || a.From != b.From || a.To != b.To || !call.Same(a.Answer, b.Answer) {
		t.Errorf("%v, not %v", a, b)
	}
}

func TestAhead(t *testing.T) { // 11.1, 11.3
	l := Opers(some)
	for i, a := range l {
		for j, b := range l {
			if want := i == 0 && j >= 2 || i == 1 && j >= 3 || i == 2 && j == 4; Ahead(a, b) != want {
				t.Errorf("is %d ahead of %d", i, j)
			}
			for _, c := range l {
				if Ahead(a, b) && Ahead(b, c) && !Ahead(a, c) {
					t.Error("ahead is an order")
				}
			}
		}
	}
	if Ahead(api.Oper{To: 3}, api.Oper{From: 3, To: 4}) || Ahead(api.Oper{To: -1}, api.Oper{From: 9, To: 9}) || Ahead(api.Oper{To: math.MinInt}, api.Oper{From: 9}) || !Ahead(api.Oper{To: 0}, api.Oper{From: 1}) {
		t.Error("what is answered at a place is ahead of what begins behind it")
	}
}

func TestThreadsAndOpen(t *testing.T) { // 11.2
	if Threads(some) != 6 || Open(some) != 2 {
		t.Errorf("%d threads, %d open", Threads(some), Open(some))
	}
	if Threads(some[:7]) != 3 || Open(some[:7]) != 1 || Open(some[:3]) != 1 || Open(some[:2]) != 2 || Open(some[:1]) != 1 {
		t.Error("threads and open ones of its beginnings")
	}
}

func TestEach(t *testing.T) { // 11.2, 11.3
	all := Opers(some)
	for thread := -1; thread < 8; thread++ {
		seq := Each(some, thread)
		for range 2 { // an iterator can be gone through again
			at := 0
			for o := range seq {
				for all[at].Thread != thread {
					at++
				}
				same(t, o, all[at])
				at++
				if len(o.Answer.Pairs) > 0 {
					o.Answer.Pairs[0].Val = 77
				}
			}
			for _, o := range all[at:] {
				if o.Thread == thread {
					t.Errorf("an oper of thread %d is left out", thread)
				}
			}
		}
	}
	n := 0
	for range Each(some, 0) {
		n++
		break
	}
	if n != 1 {
		t.Error("an iterator can be left")
	}
	for thread := range 6 {
		var last *api.Oper
		for o := range Each(some, thread) {
			if last != nil && !Ahead(*last, o) {
				t.Errorf("opers of thread %d are ahead of each other", thread)
			}
			last = &o
		}
	}
}
