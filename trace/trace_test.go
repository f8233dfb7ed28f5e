package trace

import (
	"math"
	"slices"
	"strings"
	"testing"

	"deadwood/api"
	"deadwood/plan"
	"deadwood/rig"
	"deadwood/run"
)

func conf(threads, slots int) api.Conf {
	return api.Conf{Threads: threads, Slots: slots, Stamps: 99}
}

func TestNames(t *testing.T) { // 40.1
	p, _ := plan.New(conf(1, 7))
	for a, want := range strings.Split("clock,epoch,free,active 0,victim 0,stamp 0 0,stamp 0 1,stamp 0 2,bag 0 0,bag 0 1,bag 0 2,slot 1 link,slot 1 gen,slot 1 info,slot 1 key,slot 1 left,slot 1 right,slot 1 died,slot 2 link", ",") {
		if Name(p, a) != want {
			t.Errorf("word %d is %q, not %q", a, Name(p, a), want)
		}
	}
	for _, c := range []api.Conf{conf(1, 7), conf(3, 12), conf(6, 250)} {
		p, _ := plan.New(c)
		seen := map[string]bool{}
		for a := range p.Words() {
			name := Name(p, a)
			if at, ok := Place(p, name); at != a || !ok || seen[name] {
				t.Fatalf("%q stands at %d, not at %d", name, at, a)
			}
			seen[name] = true
		}
		for _, a := range []int{-1, p.Words(), math.MaxInt, math.MinInt} {
			if Name(p, a) != "" {
				t.Errorf("there is no word %d", a)
			}
		}
	}
	p, _ = plan.New(conf(6, 250))
	for name, want := range map[string]int{"victim 5": p.Victim(5), "stamp 4 2": p.Stamp(4, 2), "bag 2 1": p.Bag(2, 1), "slot 250 died": p.Node(250, plan.Died), "active 3": p.Active(3)} {
		if at, ok := Place(p, name); at != want || !ok || Name(p, want) != name {
			t.Errorf("%q stands at %d", name, at)
		}
	}
	for _, name := range []string{"", "Clock", "clock ", " clock", "clock 0", "active", "active 6", "active -1", "active 00", "victim 0 0", "stamp 0", "stamp 0 3", "bag 0 -1", "slot 0 link", "slot 251 link", "slot 1 value", "slot 1", "slot 01 link", "slot 1  link", "0"} {
		if at, ok := Place(p, name); at != 0 || ok {
			t.Errorf("%q stands at %d", name, at)
		}
	}
	if at, ok := Place(nil, "clock"); at != 0 || ok || Name(nil, 0) != "" {
		t.Error("a nil plan has names")
	}
	if at, ok := Place(nil, ""); at != 0 || ok {
		t.Error("a nil plan has an empty name")
	}
}

func TestLine(t *testing.T) { // 40.1
	p, _ := plan.New(conf(1, 7))
	for _, c := range []struct {
		c    Change
		want string
	}{
		{Change{0, 1, 2}, "clock: 1 2"}, {Change{13, math.MaxUint64, 0}, "slot 1 info: 18446744073709551615 0"}, {Change{-1, 5, 6}, ": 5 6"}, {Change{9999, 5, 6}, ": 5 6"},
	} {
		if got := Line(p, c.c); got != c.want {
			t.Errorf("%v is written as %q", c.c, got)
		}
	}
	if Line(nil, Change{0, 1, 2}) != ": 1 2" {
		t.Error("a nil plan has names")
	}
}

func TestReplay(t *testing.T) { // 40.2
	words := []uint64{1, 2, 3}
	l := []Change{{0, 1, 5}, {0, 1, 6}, {0, 5, 7}, {1, 3, 9}, {-1, 0, 9}, {3, 0, 9}, {math.MaxInt, 0, 9}, {math.MinInt, 0, 9}, {2, 3, 3}, {2, 3, 8}}
	if got := Replay(words, l); !slices.Equal(got, []uint64{7, 2, 8}) || !slices.Equal(words, []uint64{1, 2, 3}) {
		t.Errorf("replayed are %v", got)
	}
	got := Replay(words, nil)
	got[0] = 9
	if words[0] != 1 || len(Replay(nil, l)) != 0 {
		t.Error("a copy is told")
	}
}

func TestOf(t *testing.T) { // 40.1
	r, _ := run.New(conf(2, 9))
	if l, ok := Of(r, api.Entry{Thread: 0}); ok || len(l) != 0 || r.Counts().Ignored != 1 {
		t.Error("what is ignored")
	}
	if l, ok := Of(nil, api.Entry{}); ok || len(l) != 0 {
		t.Error("a nil run")
	}
	if l, ok := Of(r, api.Entry{Thread: 1, Begin: true, Call: api.Call{Op: api.Join}}); !ok || len(l) != 0 || r.Counts().Begun != 1 {
		t.Error("a beginning")
	}
	r.End(9)
	r.Do(api.Entry{Thread: 1, Begin: true, Call: api.Call{Op: api.Count, Hi: 9}})
	var all []string
	for {
		l, ok := Of(r, api.Entry{Thread: 1})
		if !ok {
			break
		}
		for _, c := range l {
			all = append(all, Line(r.Machine().Plan(), c))
		}
	}
	if !slices.Equal(all, []string{"active 1: 0 7", "epoch: 3 4", "clock: 1 2", "active 1: 7 0"}) {
		t.Errorf("Count changes %v", all)
	}
}

func TestWhateverTheScript(t *testing.T) { // 40.3
	d := rig.Dice(51)
	for i := range 40 {
		c := conf(1+i%6, 40)
		r, _ := run.New(c)
		first := r.Machine().Mem().Words()
		var all []Change
		for n := range 3000 {
			e := api.Entry{Thread: d.Below(c.Threads)}
			if n < c.Threads {
				e = api.Entry{Thread: n, Begin: true, Call: api.Call{Op: api.Join}}
			} else if d.Below(20) == 0 {
				e.Begin, e.Call = true, api.Call{Op: d.Below(13), Key: int64(d.Below(6)), Hi: 9, Limit: 3}
			}
			own := r.Clone()
			own.Do(e)
			l, ok := Of(r, e)
			if len(l) > 1 || (e.Begin || !ok) && len(l) > 0 {
				t.Fatalf("%v changes %v", e, l)
			}
			if !slices.Equal(own.Machine().Mem().Words(), r.Machine().Mem().Words()) {
				t.Fatal("the entry is done otherwise")
			}
			all = append(all, l...)
		}
		if !slices.Equal(Replay(first, all), r.Machine().Mem().Words()) {
			t.Fatal("all changes don't lead to the words behind the script")
		}
	}
}
