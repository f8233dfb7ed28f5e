package desk

import (
	"strings"
	"testing"

	"deadwood/plan"
	"deadwood/rig"
)

// told is what a call of thread 0 is told, alone.
func told(t *testing.T, d *Desk, thread, call string) string {
	t.Helper()
	if got := d.Line("begin " + thread + " " + call); got != "ok" {
		t.Fatalf("%s is %s", call, got)
	}
	d.Line("pick " + thread + " 9999")
	l := strings.Split(d.Line("history"), ";")
	return strings.TrimPrefix(l[len(l)-1], "back "+thread+" ")
}

func joined(t *testing.T, conf string) *Desk {
	t.Helper()
	d := New()
	if d.Line("conf "+conf) != "ok" || told(t, d, "0", "join") != "done" {
		t.Fatalf("no run of %s", conf)
	}
	return d
}

// calls holds what calls of thread 0 are told against what they should be: each call, an arrow, and what it should be told.
func calls(t *testing.T, conf string, l ...string) *Desk {
	t.Helper()
	d := joined(t, conf)
	for _, s := range l {
		call, want, _ := strings.Cut(s, " > ")
		if got := told(t, d, "0", call); got != want {
			t.Errorf("%s is told %s, not %s", call, got, want)
		}
	}
	return d
}

// TestTenExamples is the document's ten examples of the whole, one behind the other.
func TestTenExamples(t *testing.T) {
	lines(t, "conf 1 9 5 > ok", "begin 0 join > ok", "pick 0 9 > 2")
	calls(t, "1 30 9", "insert 5 1 > done", "insert 5 2 > exists", "lookup 5 > found 5 1")
	calls(t, "1 7 9", "insert 5 1 > done", "insert 6 1 > full")
	calls(t, "1 30 9", "insert 5 1 > done", "open 0 9 > done", "delete 5 > found 5 1", "next > found 5 1", "next > none")
	calls(t, "1 30 2", "count 0 9 > counted 0", "count 0 9 > spent")
	calls(t, "1 30 9", "next > bad", "join > bad", "open 0 9 > done", "quit > bad")
	calls(t, "1 30 9", "insert 5 1 > done", "insert 7 2 > done", "range 0 9 1 > list 5:1", "floor 6 > found 5 1", "ceiling 8 > none")
	d := calls(t, "1 30 9", "insert 1 1 > done", "insert 2 1 > done", "insert 3 1 > done", "delete 1 > found 1 1", "delete 2 > found 2 1", "delete 3 > found 3 1",
		"count 0 9 > counted 0", "count 0 9 > counted 0", "count 0 9 > counted 0")
	if held := d.Run().Machine().Guard().Held(); held != 5 {
		t.Errorf("%d slots are held", held)
	}
}

func TestADeadLeafOfWhoIsNeverPickedAgain(t *testing.T) { // the seventh one
	d := calls(t, "2 30 9", "insert 5 1 > done")
	told(t, d, "1", "join")
	d.Line("begin 0 delete 5")
	for leaf, _ := rig.Leaf(d.Run().Machine(), 5); leaf.Died == 0; leaf, _ = rig.Leaf(d.Run().Machine(), 5) {
		d.Line("pick 0 1")
	}
	if got := told(t, d, "1", "insert 5 2"); got != "done" || d.Line("look") != "list 5:2" {
		t.Errorf("Insert is told %s", got)
	}
}

func TestARangeWhoseTimeIsTold(t *testing.T) { // the eighth one
	d := calls(t, "2 30 9", "insert 5 1 > done")
	told(t, d, "1", "join")
	d.Line("begin 0 range 0 9 9")
	for d.Run().Machine().Mem().Words()[plan.Clock] == 1 {
		d.Line("pick 0 1")
	}
	if got := told(t, d, "1", "delete 5"); got != "found 5 1" {
		t.Errorf("Delete is told %s", got)
	}
	d.Line("end")
	if l := d.Line("history"); !strings.HasSuffix(l, ";back 0 list 5:1") {
		t.Errorf("the history is %s", l)
	}
}
