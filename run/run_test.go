package run

import (
	"math"
	"slices"
	"testing"

	"deadwood/api"
	"deadwood/call"
	"deadwood/hist"
	"deadwood/lin"
	"deadwood/rig"
)

func conf(threads, slots int, stamps uint64) api.Conf {
	return api.Conf{Threads: threads, Slots: slots, Stamps: stamps}
}

func begin(t int, c api.Call) api.Entry { return api.Entry{Thread: t, Begin: true, Call: c} }

func pick(t int) api.Entry { return api.Entry{Thread: t} }

func op(o int) api.Call { return api.Call{Op: o} }

func sameEvents(a, b []api.Event) bool {
	return slices.EqualFunc(a, b, func(x, y api.Event) bool {
		return x.Thread == y.Thread && x.Back == y.Back && x.Call == y.Call && call.Same(x.Answer, y.Answer)
	})
}

// some is a script of calls and picks as the dice say.
func some(d *rig.Dice, c api.Conf, n, keys int) api.Script {
	s := api.Script{Conf: c}
	for t := range c.Threads {
		s.Entries = append(s.Entries, begin(t, op(api.Join)))
	}
	for range n {
		t := d.Below(c.Threads + 1)
		lo := int64(d.Below(keys))
		s.Entries = append(s.Entries, begin(t, api.Call{Op: d.Below(15), Key: lo, Val: int64(d.Below(9)), Hi: lo + int64(d.Below(keys)), Limit: d.Below(5)}))
		for range d.Below(40) {
			s.Entries = append(s.Entries, pick(t))
		}
	}
	return s
}

func TestTheExample(t *testing.T) { // 32.1
	r, e := Play(api.Script{Conf: conf(1, 9, 5), Entries: []api.Entry{begin(0, op(api.Join)), pick(0), pick(0)}})
	if e != api.OK || r.Counts() != (Counts{Begun: 1, Answered: 1, Steps: 2, Gap: 1}) {
		t.Errorf("counted are %v", r.Counts())
	}
	if !sameEvents(r.Events(), []api.Event{{Call: op(api.Join)}, {Back: true}}) {
		t.Errorf("the events are %v", r.Events())
	}
}

func TestWhatIsIgnored(t *testing.T) { // 32.1
	r, _ := New(conf(2, 30, 9))
	ignored := 0
	for _, e := range []api.Entry{
		pick(0), pick(-1), pick(2), begin(-1, op(api.Join)), begin(2, op(api.Join)), begin(0, op(-1)), begin(0, op(math.MaxInt32+1)),
		begin(0, api.Call{Op: api.Insert, Limit: -1}), begin(0, api.Call{Op: api.Insert, Limit: math.MaxInt32 + 1}), begin(math.MaxInt, op(api.Join)), pick(math.MinInt),
	} {
		ignored++
		if r.Do(e) || r.Counts() != (Counts{Ignored: ignored}) || len(r.Events()) != 0 {
			t.Errorf("%v is done", e)
		}
	}
	if !r.Do(begin(0, op(api.Join))) || r.Do(begin(0, op(api.Join))) || r.Do(pick(1)) || !r.Do(api.Entry{Call: op(api.Quit)}) || !r.Do(pick(0)) || r.Do(pick(0)) {
		t.Error("a thread that is within a call begins none, and one that is within none does no step")
	}
	for _, c := range []api.Call{op(math.MaxInt32), op(15), {Op: api.Range, Limit: math.MaxInt32}, {Op: api.Range}} {
		if !r.Do(begin(0, c)) || !r.End(9) {
			t.Errorf("%v is ignored", c)
		}
		if l := r.Events(); l[len(l)-2].Call != c || l[len(l)-1].Answer.Kind != api.Bad {
			t.Errorf("%v is told %v", c, l[len(l)-1])
		}
	}
}

func TestNewAndPlay(t *testing.T) { // 32.1, 32.2
	for _, c := range []api.Conf{{}, conf(0, 7, 1), conf(1, 6, 1), conf(1, 7, 0)} {
		if r, e := New(c); r != nil || e != api.ErrArg {
			t.Errorf("%v may not be", c)
		}
		if r, e := Play(api.Script{Conf: c, Entries: make([]api.Entry, 60001)}); r != nil || e != api.ErrArg {
			t.Errorf("a script of %v may not be played", c)
		}
	}
	if r, e := Play(api.Script{Conf: conf(1, 7, 1), Entries: make([]api.Entry, 60001)}); r != nil || e != api.ErrLong {
		t.Error("a script that is too long")
	}
	if r, e := Play(api.Script{Conf: conf(1, 7, 1), Entries: make([]api.Entry, 60000)}); e != api.OK || r.Counts().Ignored != 60000 {
		t.Error("a script of 60,000 entries")
	}
	r, e := New(conf(1, 7, 1))
	if e != api.OK || r.Counts() != (Counts{}) || len(r.Events()) != 0 || r.Machine() == nil || r.Machine() != r.Machine() || r.Machine().Steps() != 0 {
		t.Error("a run in which nothing was done")
	}
}

func TestEnd(t *testing.T) { // 32.2
	r, _ := New(conf(3, 30, 9))
	if !r.End(0) || !r.End(-1) {
		t.Error("nobody is within a call")
	}
	for th := range 3 {
		r.Do(begin(th, op(api.Join)))
	}
	if r.End(1) || r.Counts().Steps != 1 || r.Machine().Thread(1).Top().PC != 0 {
		t.Error("thread 0 isn't answered within 1 step")
	}
	if r.End(0) || r.End(-5) || r.Counts().Steps != 1 {
		t.Error("nobody is answered within no step")
	}
	if !r.End(2) || r.Counts() != (Counts{Begun: 3, Answered: 3, Steps: 6, Gap: 1}) {
		t.Errorf("counted are %v", r.Counts())
	}
}

func TestGap(t *testing.T) { // 32.1
	r, _ := New(conf(2, 30, 9))
	gap, since := 0, 0
	d := rig.Dice(1)
	for range 3000 {
		e := pick(d.Below(2))
		if d.Below(10) == 0 {
			e = begin(d.Below(2), api.Call{Op: []int{api.Join, api.Insert, api.Count, api.Min}[d.Below(4)], Key: int64(d.Below(3)), Hi: 9})
		}
		answered := r.Counts().Answered
		if r.Do(e) && !e.Begin {
			since++
			if r.Counts().Answered > answered {
				since = 0
			}
			gap = max(gap, since)
		}
		if r.Counts().Gap != gap {
			t.Fatalf("Gap is %d, not %d", r.Counts().Gap, gap)
		}
	}
}

func TestWhateverTheScript(t *testing.T) { // 32.1, 32.3
	d := rig.Dice(33)
	for i := range 60 {
		s := some(&d, conf(1+i%6, 60, 99), 30, 6)
		r, e := Play(s)
		again, _ := Play(s)
		if e != api.OK || !sameEvents(r.Events(), again.Events()) || r.Counts() != again.Counts() || !slices.Equal(r.Machine().Mem().Words(), again.Machine().Mem().Words()) {
			t.Fatal("what a run tells hangs on the script alone")
		}
		c := r.Counts()
		l := r.Events()
		if c.Begun+c.Steps+c.Ignored != len(s.Entries) || !hist.May(l) || hist.Open(l) != c.Begun-c.Answered || len(l) != c.Begun+c.Answered || c.Steps != r.Machine().Steps() {
			t.Fatalf("counted are %v of %d entries", c, len(s.Entries))
		}
		if r.Machine().Fault() || !lin.Linear(l) {
			t.Fatal("the machine is at fault, or no order explains what was told")
		}
	}
}

func TestCloneAndCopies(t *testing.T) { // 32.1, 32.2
	d := rig.Dice(34)
	s := some(&d, conf(2, 30, 9), 20, 4)
	s.Entries = append(s.Entries, begin(0, op(api.Close)))
	half := len(s.Entries) / 2
	r, _ := Play(api.Script{Conf: s.Conf, Entries: s.Entries[:half]})
	c := r.Clone()
	was, events := r.Counts(), r.Events()
	for _, e := range s.Entries[half:] {
		c.Do(e)
	}
	if r.Counts() != was || !sameEvents(r.Events(), events) {
		t.Error("a clone is by itself")
	}
	whole, _ := Play(s)
	if !sameEvents(c.Events(), whole.Events()) || c.Counts() != whole.Counts() {
		t.Error("a clone is as what it was made of")
	}
	r, _ = New(conf(1, 30, 9))
	for _, x := range []api.Call{op(api.Join), {Op: api.Insert, Key: 1, Val: 2}, {Op: api.Range, Hi: 9, Limit: 9}} {
		r.Do(begin(0, x))
		r.End(9999)
	}
	c = r.Clone()
	r.Events()[5].Answer.Pairs[0].Val = 77
	c.events[5].Answer.Pairs[0].Val = 78
	if r.Events()[5].Answer.Pairs[0].Val != 2 {
		t.Error("the history is handed out itself")
	}
}

func TestNilRun(t *testing.T) { // 32.2
	var r *Run
	if r.Do(pick(0)) || len(r.Events()) != 0 || r.Counts() != (Counts{}) || r.Machine() != nil || r.End(9) || r.Clone() != nil {
		t.Error("a nil run has something")
	}
}
