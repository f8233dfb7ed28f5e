package shrink

import (
	"math"
	"slices"
	"testing"

	"deadwood/api"
	"deadwood/rig"
	"deadwood/run"
)

var conf = api.Conf{Threads: 2, Slots: 30, Stamps: 9}

// script is a script whose entries are told apart by their threads.
func script(threads ...int) api.Script {
	s := api.Script{Conf: conf}
	for _, t := range threads {
		s.Entries = append(s.Entries, api.Entry{Thread: t})
	}
	return s
}

func upTo(n int) []int {
	l := make([]int, n)
	for i := range l {
		l[i] = i
	}
	return l
}

func threads(s api.Script) []int {
	var l []int
	for _, e := range s.Entries {
		l = append(l, e.Thread)
	}
	return l
}

func TestWithout(t *testing.T) { // 42.1
	s := script(upTo(5)...)
	for _, c := range []struct {
		from, many int
		want       []int
	}{
		{0, 1, []int{1, 2, 3, 4}}, {1, 2, []int{0, 3, 4}}, {4, 1, []int{0, 1, 2, 3}}, {3, 9, []int{0, 1, 2}}, {0, 5, nil}, {-3, 2, []int{2, 3, 4}}, {math.MinInt, math.MaxInt, nil}, {2, math.MaxInt, []int{0, 1}},
		{5, 1, upTo(5)}, {math.MaxInt, math.MaxInt, upTo(5)}, {2, 0, upTo(5)}, {2, -1, upTo(5)}, {0, math.MinInt, upTo(5)},
	} {
		got := Without(s, c.from, c.many)
		if got.Conf != conf || !slices.Equal(threads(got), c.want) {
			t.Errorf("without %d from %d on: %v", c.many, c.from, threads(got))
		}
		if len(got.Entries) > 0 {
			got.Entries[0].Thread = 99
		}
	}
	if !slices.Equal(threads(s), upTo(5)) || len(Without(api.Script{}, 0, 1).Entries) != 0 {
		t.Error("what was handed in is changed")
	}
}

func TestPart(t *testing.T) { // 42.2
	for _, c := range []struct {
		a, b []int
		want bool
	}{
		{nil, nil, true}, {nil, []int{1}, true}, {[]int{1}, nil, false}, {[]int{1}, []int{1}, true}, {[]int{1, 3}, []int{1, 2, 3}, true}, {[]int{3, 1}, []int{1, 2, 3}, false},
		{[]int{1, 1}, []int{1, 2}, false}, {[]int{1, 1}, []int{1, 2, 1}, true}, {[]int{2, 3}, []int{2, 2, 3}, true}, {[]int{1, 2, 3, 4}, []int{1, 2, 3}, false},
	} {
		if Part(script(c.a...).Entries, script(c.b...).Entries) != c.want {
			t.Errorf("is %v a part of %v", c.a, c.b)
		}
	}
	a := []api.Entry{{Thread: 1, Begin: true}}
	if Part(a, script(1).Entries) || Part([]api.Entry{{Thread: 1, Call: api.Call{Val: 1}}}, script(1).Entries) || !Part(a, []api.Entry{{Thread: 1}, {Thread: 1, Begin: true}}) {
		t.Error("entries are the same in all")
	}
}

func TestLeastByHand(t *testing.T) { // 42.1
	s := script(0, 1, 2)
	got, asked := Least(s, func(x api.Script) bool { return len(x.Entries) >= 2 })
	// asked: all; without 0 (bad), without 1, without 2; once more: without 1, without 2
	if !slices.Equal(threads(got), []int{1, 2}) || asked != 6 {
		t.Errorf("the example: %v, asked %d times", threads(got), asked)
	}
	got, asked = Least(s, func(api.Script) bool { return false })
	if !slices.Equal(threads(got), []int{0, 1, 2}) || asked != 1 {
		t.Error("a script that isn't bad")
	}
	got, asked = Least(s, nil)
	if !slices.Equal(threads(got), []int{0, 1, 2}) || asked != 0 {
		t.Error("a script of which nobody is asked")
	}
	got, asked = Least(script(), func(api.Script) bool { return true })
	if len(got.Entries) != 0 || asked != 1 || got.Conf != conf {
		t.Error("a script without entries")
	}
	got, asked = Least(script(7), func(api.Script) bool { return true })
	if len(got.Entries) != 0 || asked != 2 {
		t.Errorf("a script of one entry: asked %d times", asked)
	}
	got, asked = Least(script(7), func(x api.Script) bool { return len(x.Entries) == 1 })
	if len(got.Entries) != 1 || asked != 2 {
		t.Errorf("a script of one entry that is needed: asked %d times", asked)
	}
}

// slow is the document's words: the sizes first, then, of each, the places.
func slow(s api.Script, bad func(api.Script) bool) (api.Script, []int) {
	var asked []int
	ask := func(x api.Script) bool {
		asked = append(asked, len(x.Entries))
		return bad(x)
	}
	if !ask(s) {
		return s, asked
	}
	var sizes []int
	for size := len(s.Entries) / 2; size > 1; size /= 2 {
		sizes = append(sizes, size)
	}
	if len(s.Entries) > 0 {
		sizes = append(sizes, 1)
	}
	for i := 0; i < len(sizes); i++ {
		went := false
		place := 0
		for place < len(s.Entries) {
			var l []api.Entry
			for j, e := range s.Entries {
				if j < place || j >= place+sizes[i] {
					l = append(l, e)
				}
			}
			if less := (api.Script{Conf: s.Conf, Entries: l}); ask(less) {
				s, went = less, true
			} else {
				place += sizes[i]
			}
		}
		if sizes[i] == 1 && went {
			sizes = append(sizes, 1)
		}
	}
	return s, asked
}

func TestLeast(t *testing.T) { // 42.1, 42.3
	d := rig.Dice(53)
	for i := range 600 {
		s := script(upTo(i % 40)...)
		for j := range s.Entries {
			s.Entries[j].Thread = d.Below(8)
		}
		x, y, n := d.Below(8), d.Below(8), d.Below(5)
		bad := func(s api.Script) bool { // as the dice say, and so that less may be bad where more isn't
			sum, there := 0, 0
			for _, e := range s.Entries {
				sum += e.Thread
				if e.Thread == x || e.Thread == y {
					there++
				}
			}
			if i%3 == 0 {
				return sum%(n+1) == 0
			}
			return there >= n
		}
		want, asked := slow(s, bad)
		var of []int
		got, many := Least(s, func(s api.Script) bool {
			of = append(of, len(s.Entries))
			is := bad(s)
			for j := range s.Entries {
				s.Entries[j].Thread = 99 // what is handed out is nobody's own
			}
			return is
		})
		if !slices.Equal(threads(got), threads(want)) || !slices.Equal(of, asked) || many != len(asked) || got.Conf != conf {
			t.Fatalf("%v is made %v, not %v; asked %d times, not %d", threads(s), threads(got), threads(want), many, len(asked))
		}
		if !Part(got.Entries, s.Entries) || bad(s) && !bad(got) {
			t.Fatal("what is told is bad, and a part")
		}
		for j := range got.Entries {
			if bad(s) && bad(Without(got, j, 1)) {
				t.Fatal("what is told needs each of its entries")
			}
		}
	}
}

func TestOfARun(t *testing.T) { // 42.3
	d := rig.Dice(54)
	s := api.Script{Conf: conf}
	for range 400 {
		th := d.Below(2)
		s.Entries = append(s.Entries, api.Entry{Thread: th, Begin: true, Call: api.Call{Op: []int{api.Join, api.Insert, api.Count}[d.Below(3)], Key: int64(d.Below(5)), Hi: 9}}, api.Entry{Thread: th}, api.Entry{Thread: th})
	}
	bad := func(s api.Script) bool {
		r, _ := run.Play(s)
		return len(r.Events()) > 2
	}
	got, _ := Least(s, bad)
	if len(got.Entries) > 4 || !bad(got) || !Part(got.Entries, s.Entries) {
		t.Errorf("made less: %v", got.Entries)
	}
}
