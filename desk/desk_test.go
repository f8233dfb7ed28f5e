package desk

import (
	"slices"
	"strconv"
	"strings"
	"testing"

	"deadwood/api"
	"deadwood/index"
	"deadwood/rig"
	"deadwood/run"
	"deadwood/text"
)

// lines holds what is told against what should be: of each line what stands behind the arrow.
func lines(t *testing.T, l ...string) *Desk {
	t.Helper()
	d := New()
	for i, s := range l {
		line, want, _ := strings.Cut(s, " > ")
		if got := d.Line(line); got != want {
			t.Errorf("line %d, %q, is told %q, not %q", i, line, got, want)
		}
	}
	return d
}

func TestTheExample(t *testing.T) { // 37.1
	lines(t, "conf 1 9 5 > ok", "begin 0 join > ok", "pick 0 9 > 2", "counts > 1 1 2 7 1", "history > begin 0 join;back 0 done", "look > list")
}

func TestEachLine(t *testing.T) { // 37.1
	d := lines(t, "conf 2 30 9 > ok", "counts > 0 0 0 0 0", "history > ", "look > list", "end > ok", "pick 0 0 > 0", "pick 0 3 > 0", "pick 7 2 > 0", "pick -1 60000 > 0",
		"begin 0 join > ok", "begin 0 join > ignored", "begin 2 join > ignored", "begin -1 join > ignored", "begin 1 join > ok", "pick 1 1 > 1", "end > ok",
		"begin 0 insert 5 -1 > ok", "end > ok", "begin 0 insert -3 7 > ok", "begin 1 delete 5 > ok", "end > ok", "look > list -3:7",
		"begin 1 insert 9 9 > ok", "end > ok", "look > list -3:7 9:9", "begin 0 range 0 9 3 > ok", "end > ok", "begin 0 quit > ok", "pick 0 1 > 1")
	want := "begin 0 join;begin 1 join;back 0 done;back 1 done;begin 0 insert 5 -1;back 0 done;begin 0 insert -3 7;begin 1 delete 5;back 0 done;back 1 found 5 -1;begin 1 insert 9 9;back 1 done;begin 0 range 0 9 3;back 0 list 9:9;begin 0 quit"
	if got := d.Line("history"); got != want {
		t.Errorf("the history is %q", got)
	}
	c := d.Run().Counts()
	l := []string{}
	for _, n := range []int{c.Begun, c.Answered, c.Steps, c.Ignored, c.Gap} {
		l = append(l, strconv.Itoa(n))
	}
	if got := d.Line("counts"); got != strings.Join(l, " ") || c.Begun != 8 || c.Answered != 7 || c.Ignored != 60008 || c.Gap == 0 {
		t.Errorf("counted are %q", got)
	}
}

func TestEndThatFails(t *testing.T) { // 37.1
	d := lines(t, "conf 1 30 9 > ok", "begin 0 join > ok")
	d.Run().Machine().Thread(0).Call(99) // a routine that nobody does
	if d.Line("end") != "no" || d.Run().Counts().Steps != 8*index.Most(d.Run().Machine().Plan().Conf()) {
		t.Error("a thread that comes to no end")
	}
}

func TestRunsThatMayNotBe(t *testing.T) { // 37.1
	d := lines(t, "conf 0 9 5 > no", "conf 1 9 5 > ok", "begin 0 join > ok", "conf 7 9 5 > no", "conf 1 6 5 > no", "conf 1 9 0 > no", "conf 1 9 -1 > no", "conf -1 9 5 > no", "conf 1 9 1099511627777 > no", "counts > 1 0 0 0 0",
		"conf 1 9 1099511627776 > ok", "counts > 0 0 0 0 0")
	if d.Run().Machine().Plan().Conf().Stamps != 1<<40 {
		t.Error("the run is a new one")
	}
}

func TestWhat(t *testing.T) { // 37.1
	for _, s := range []string{
		"", " ", "what", "ok", "Conf 1 9 5", "conf", "conf 1 9", "conf 1 9 5 6", "conf 1 9 x", "conf 1 9 05", "conf 1 9 +5", "conf  1 9 5", "conf 1 9 5 ", " conf 1 9 5", "conf 1 9 9223372036854775808", "conf 1 9 5\n",
		"begin", "begin 0", "begin 0 ", "begin 0 what", "begin 0 insert 5", "begin 0 insert 5 1 2", "begin x join", "begin 00 join", "begin 0  join", "begin 0 join ", "begin 0 done", "begin 0 found 1 2",
		"pick", "pick 0", "pick 0 1 2", "pick 0 -1", "pick 0 60001", "pick 0 x", "pick x 0", "pick 0 01", "pick 0 9999999999999999999", "pick 0 1 ", "end ", "end 5", "look 1", "look ", "counts 1", "counts\n", "history 1", "END", "history;",
	} {
		d := New()
		if got := d.Line(s); got != "what" || d.Run() != nil {
			t.Errorf("%q is told %q without a run", s, got)
		}
		d.Line("conf 1 9 5")
		if got := d.Line(s); got != "what" || d.Run().Counts() != (run.Counts{}) {
			t.Errorf("%q is told %q", s, got)
		}
	}
}

func TestWithoutARun(t *testing.T) { // 37.1
	d := New()
	if d.Run() != nil {
		t.Error("a desk without a run has one")
	}
	for _, s := range []string{"begin 0 join", "begin -9 insert 1 2", "pick 0 0", "pick 0 60000", "end", "look", "counts", "history"} {
		if got := d.Line(s); got != "none" {
			t.Errorf("%q is told %q", s, got)
		}
	}
	var none *Desk
	if none.Line("conf 1 9 5") != "" || none.Run() != nil {
		t.Error("a nil desk has something")
	}
}

func TestPlay(t *testing.T) { // 37.2
	l := []string{"look", "conf 1 9 5", "begin 0 join", "nothing", "end", "look"}
	want := []string{"none", "ok", "ok", "what", "ok", "list"}
	for range 2 {
		if got := Play(l); !slices.Equal(got, want) {
			t.Errorf("told are %v", got)
		}
	}
	if len(Play(nil)) != 0 {
		t.Error("no lines")
	}
}

func TestAScriptLineByLine(t *testing.T) { // 37.3
	d := rig.Dice(46)
	for range 30 {
		s := api.Script{Conf: api.Conf{Threads: 3, Slots: 40, Stamps: 99}}
		l := []string{"conf 3 40 99"}
		for range 60 {
			th := d.Below(4)
			lo := int64(d.Below(6))
			c := api.Call{Op: d.Below(15), Key: lo, Val: -lo, Hi: 9, Limit: d.Below(4)}
			c, _ = text.ReadCall(text.Call(c)) // so that no field has what isn't written
			s.Entries = append(s.Entries, api.Entry{Thread: th, Begin: true, Call: c})
			l = append(l, "begin "+strconv.Itoa(th)+" "+text.Call(c))
			many := d.Below(50)
			for range many {
				s.Entries = append(s.Entries, api.Entry{Thread: th})
			}
			l = append(l, "pick "+strconv.Itoa(th)+" "+strconv.Itoa(many))
		}
		r, _ := run.Play(s)
		want := strings.ReplaceAll(strings.TrimSuffix(text.History(r.Events()), "\n"), "\n", ";")
		told := Play(append(l, "history"))
		if told[len(told)-1] != want {
			t.Fatal("the history is another one")
		}
	}
}
