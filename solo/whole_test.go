package solo

import (
	"testing"

	"deadwood/api"
	"deadwood/call"
	"deadwood/edge"
	"deadwood/index"
	"deadwood/lin"
	"deadwood/model"
	"deadwood/pairs"
	"deadwood/rig"
	"deadwood/run"
)

// TestLinearizable: 0.1, 0.2 and 0.3: what is told, Bad, Full and Spent too, is as the model tells it.
func TestLinearizable(t *testing.T) {
	d := rig.Dice(40)
	for i := range 500 {
		c := conf(1+i%6, []int{250, 40, 24, 13}[i%4], []uint64{9999, 6}[i/6%2])
		r := game(&d, c, 46, 1+i%5, nil)
		if !lin.Linear(r.Events()) || r.Machine().Fault() {
			t.Fatalf("game %d: no order explains what was told", i)
		}
		for th := range c.Threads {
			if i%2 == 0 && th%2 == 0 {
				continue // it stays within its call
			}
			for r.Do(pick(th)) {
			}
		}
		if !lin.Linear(r.Events()) || r.Machine().Fault() {
			t.Fatalf("game %d: no order explains what was told at the end", i)
		}
		for _, e := range r.Events() {
			if e.Back && e.Answer.Kind == api.Spent && c.Stamps > 99 {
				t.Error("Spent, though there are times")
			}
		}
	}
}

// TestWhatIsHeld: 0.4: behind every step what can be come to is held, and what a cursor must read is somewhere that is.
func TestWhatIsHeld(t *testing.T) {
	d := rig.Dice(41)
	for i := range 100 {
		c := conf(1+i%6, []int{60, 40, 24}[i%3], 9999)
		game(&d, c, 60, 6, func(r *run.Run, e api.Entry) {
			m := r.Machine()
			if m.Fault() {
				t.Fatal("the machine is at fault")
			}
			for _, n := range rig.Tree(m) {
				if !m.Guard().Leads(n.Edge) {
					t.Fatalf("a node that nobody holds can be come to: slot %d", n.Edge.Slot())
				}
			}
			w := m.Mem().Words()
			for th := range c.Threads {
				if v := edge.Edge(w[m.Plan().Victim(th)]); v != 0 && !m.Guard().Leads(v) {
					t.Fatal("what is announced isn't held")
				}
			}
		})
	}
}

// TestCursorsReadOnePoint: 0.3, by hand: a cursor goes on, alone, from wherever others stand, and reads what there was.
func TestCursorsReadOnePoint(t *testing.T) {
	d := rig.Dice(42)
	for i := range 60 {
		c := conf(2+i%5, 120, 9999)
		r, _ := run.New(c)
		whole := func(th int, x api.Call) api.Answer {
			r.Do(begin(th, x))
			for r.Machine().Thread(th).Depth() > 0 {
				r.Do(pick(th))
			}
			l := r.Events()
			return l[len(l)-1].Answer
		}
		for th := range c.Threads {
			whole(th, api.Call{Op: api.Join})
		}
		for k := range int64(8) {
			whole(0, api.Call{Op: api.Insert, Key: k, Val: int64(d.Below(9))})
		}
		was := whole(0, api.Call{Op: api.Range, Hi: 9, Limit: 99}).Pairs
		whole(0, api.Call{Op: api.Open, Hi: 9})
		for range 2 {
			var got []api.Pair
			for {
				for range 3 {
					th := 1 + d.Below(c.Threads-1)
					r.Do(begin(th, api.Call{Op: d.Below(2), Key: int64(d.Below(9))}))
					for range d.Below(150) {
						r.Do(pick(1 + d.Below(c.Threads-1)))
					}
				}
				a := whole(0, api.Call{Op: api.Next})
				if a.Kind == api.None {
					break
				}
				got = append(got, api.Pair{Key: a.Key, Val: a.Val})
			}
			if !pairs.Same(got, was) || r.Machine().Fault() {
				t.Fatalf("the cursor is told %v, not %v", got, was)
			}
			whole(0, api.Call{Op: api.Seek})
		}
	}
}

// TestHowLongALookupTakes: 0.5, its second half, whatever others do between its steps.
func TestHowLongALookupTakes(t *testing.T) {
	d := rig.Dice(43)
	for i := range 100 {
		c := conf(2+i%5, []int{60, 30, 20}[i%3], 9999)
		steps := make([]int, c.Threads)
		answered := 0
		game(&d, c, 120, 9, func(r *run.Run, e api.Entry) {
			if e.Begin {
				steps[e.Thread] = 0
				return
			}
			steps[e.Thread]++
			if r.Counts().Answered == answered {
				return
			}
			answered++
			l := r.Events()
			for j := len(l) - 2; j >= 0; j-- {
				if l[j].Thread != e.Thread {
					continue
				}
				if l[j].Call.Op == api.Lookup && steps[e.Thread] > 3*c.Slots+16 {
					t.Fatalf("Lookup takes %d steps of %d slots", steps[e.Thread], c.Slots)
				}
				return
			}
		})
	}
}

// TestOneBehindTheOther: 0.6, and 34.3: of so many keys as there is always room for, nothing is ever told Full.
func TestOneBehindTheOther(t *testing.T) {
	d := rig.Dice(44)
	for i := range 90 {
		threads := 1 + i%6
		room := 1 + i%4
		c := conf(threads, 5+6*threads+2*room+i%2, 1<<40)
		if Least(c) != room {
			t.Fatalf("Least is %d, not %d", Least(c), room)
		}
		r, _ := run.New(c)
		s := model.New(threads)
		for n := range 250 {
			th, x := d.Below(threads), api.Call{Op: d.Below(9), Key: int64(d.Below(2 * room)), Val: int64(n), Limit: 9}
			x.Hi = x.Key + 3
			if d.Below(2) == 0 {
				x.Op = d.Below(2)
			}
			if n < threads {
				th, x = n, api.Call{Op: api.Join}
			}
			if len(s.Map) == room && x.Op == api.Insert {
				x.Op = api.Delete
			}
			r.Do(begin(th, x))
			if !r.End(index.Most(c)) {
				t.Fatal("a call takes too many steps alone")
			}
			l := r.Events()
			var want api.Answer
			if s, want = s.Do(th, x); !call.Same(l[len(l)-1].Answer, want) || r.Machine().Fault() {
				t.Fatalf("%v is told %v, not %v", x, l[len(l)-1].Answer, want)
			}
		}
	}
}
