package text

import (
	"math"
	"slices"
	"testing"

	"deadwood/api"
	"deadwood/call"
	"deadwood/rig"
)

const (
	least = "-9223372036854775808"
	most  = "9223372036854775807"
)

// full is a call with all fields.
func full(op int) api.Call { return api.Call{Op: op, Key: -1, Val: 22, Hi: 333, Limit: 4444} }

func TestCalls(t *testing.T) { // 35.1, 35.2, 35.3
	for op, want := range []string{
		"insert -1 22", "delete -1", "lookup -1", "range -1 333 4444", "count -1 333", "min", "max", "floor -1", "ceiling -1",
		"open -1 333", "next", "seek -1", "close", "join", "quit",
	} {
		if got := Call(full(op)); got != want {
			t.Errorf("Call: %q, not %q", got, want)
		}
		c, e := ReadCall(want)
		if e != api.OK || Call(c) != want || c.Op != op {
			t.Errorf("%q is read as %v, %d", want, c, e)
		}
		for i, n := range []int64{c.Key - -1, c.Val - 22, c.Hi - 333, int64(c.Limit) - 4444} {
			if written := slices.Contains(parts(op), i); written != (n == 0) || !written && part(c, i) != 0 {
				t.Errorf("%q: part %d is %d", want, i, part(c, i))
			}
		}
		for _, s := range []string{want + " ", want + " 5", want + " x", " " + want, want + "\n"} {
			wanted := api.ErrForm
			if s[0] == ' ' || len(parts(op)) == 0 && s == want+"\n" {
				wanted = api.ErrNone
			}
			if c, e := ReadCall(s); e != wanted || c != (api.Call{}) {
				t.Errorf("%q is read as %v, %d", s, c, e)
			}
		}
	}
	for _, op := range []int{-1, 15, math.MaxInt, math.MinInt} {
		if Call(full(op)) != "" {
			t.Errorf("Op %d is written", op)
		}
	}
	for s, want := range map[string]api.Errno{
		"": api.ErrNone, " ": api.ErrNone, "Insert 1 2": api.ErrNone, "inser 1 2": api.ErrNone, "done": api.ErrNone, "insert": api.ErrForm, "insert 1": api.ErrForm, "insert  1 2": api.ErrForm, "insert 1  2": api.ErrForm,
		"range 1 2": api.ErrForm, "range 1 2 3 4": api.ErrForm, "delete +1": api.ErrForm, "delete 01": api.ErrForm, "delete -0": api.ErrForm, "delete -01": api.ErrForm, "delete 00": api.ErrForm, "delete 1_0": api.ErrForm, "delete 0x1": api.ErrForm,
		"delete -": api.ErrForm, "delete 9223372036854775808": api.ErrForm, "delete -9223372036854775809": api.ErrForm, "delete 1.0": api.ErrForm, "delete\t1": api.ErrNone, "delete ١": api.ErrForm, "what 1 x": api.ErrNone,
	} {
		if c, e := ReadCall(s); e != want || c != (api.Call{}) {
			t.Errorf("%q is read as %v, %d", s, c, e)
		}
	}
	if c, e := ReadCall("insert " + least + " " + most); e != api.OK || c != (api.Call{Key: math.MinInt64, Val: math.MaxInt64}) || Call(c) != "insert "+least+" "+most {
		t.Errorf("the least and the greatest number: %v %d", c, e)
	}
	if c, e := ReadCall("delete 0"); e != api.OK || c.Key != 0 {
		t.Error("0 is a number")
	}
}

func TestAnswers(t *testing.T) { // 35.1, 35.2, 35.3
	all := api.Answer{Key: -1, Val: 22, N: 333, Pairs: []api.Pair{{Key: 1, Val: -2}, {Key: 1, Val: 4}}}
	for kind, want := range []string{"done", "found -1 22", "counted 333", "list 1:-2 1:4", "none", "exists", "full", "spent", "bad"} {
		all.Kind = kind
		if got := Answer(all); got != want {
			t.Errorf("Answer: %q, not %q", got, want)
		}
		told := api.Answer{Kind: kind}
		switch kind {
		case api.Found:
			told.Key, told.Val = -1, 22
		case api.Counted:
			told.N = 333
		case api.List:
			told.Pairs = all.Pairs
		}
		if a, e := ReadAnswer(want); e != api.OK || !call.Same(a, told) || Answer(a) != want {
			t.Errorf("%q is read as %v, %d", want, a, e)
		}
		for _, s := range []string{want + " ", want + " 5", want + "  6"} {
			if a, e := ReadAnswer(s); e != api.ErrForm || !call.Same(a, api.Answer{}) {
				t.Errorf("%q is read as %v, %d", s, a, e)
			}
		}
	}
	for _, kind := range []int{-1, 9, math.MaxInt, math.MinInt} {
		if Answer(api.Answer{Kind: kind}) != "" {
			t.Errorf("kind %d is written", kind)
		}
	}
	for s, want := range map[string]api.Errno{
		"": api.ErrNone, "insert": api.ErrNone, " done": api.ErrNone, "Done": api.ErrNone, "found": api.ErrForm, "found 1": api.ErrForm, "found 1 2 3": api.ErrForm, "found 1 02": api.ErrForm, "counted": api.ErrForm, "counted 1 2": api.ErrForm,
		"list 1": api.ErrForm, "list 1:": api.ErrForm, "list :1": api.ErrForm, "list 1:2:3": api.ErrForm, "list 1:2  3:4": api.ErrForm, "list 1:2 ": api.ErrForm, "list 1: 2": api.ErrForm, "list 1:+2": api.ErrForm, "list 01:2": api.ErrForm, "list 1:2,3:4": api.ErrForm,
	} {
		if a, e := ReadAnswer(s); e != want || !call.Same(a, api.Answer{}) {
			t.Errorf("%q is read as %v, %d", s, a, e)
		}
	}
	if a, e := ReadAnswer("list"); e != api.OK || a.Kind != api.List || len(a.Pairs) != 0 {
		t.Error("a list of nothing")
	}
	if a, e := ReadAnswer("counted -5"); e != api.OK || a.N != -5 {
		t.Error("N is a number")
	}
}

func sameEvent(a, b api.Event) bool {
	return a.Thread == b.Thread && a.Back == b.Back && a.Call == b.Call && call.Same(a.Answer, b.Answer)
}

func TestHistories(t *testing.T) { // 35.1, 35.2, 35.3
	l := []api.Event{
		{Thread: 0, Call: api.Call{Key: 5, Val: -1}}, {Thread: 2, Back: true, Answer: api.Answer{Kind: api.List, Pairs: []api.Pair{{Key: 1, Val: 2}, {Key: 3, Val: 4}}}},
		{Thread: -7, Call: api.Call{Op: api.Quit}}, {Thread: math.MaxInt, Back: true},
	}
	s := "begin 0 insert 5 -1\nback 2 list 1:2 3:4\nbegin -7 quit\nback " + most + " done\n"
	if History(l) != s || Event(l[0])+"\n" != s[:20] {
		t.Errorf("History: %q", History(l))
	}
	got, e := ReadHistory(s)
	if e != api.OK || !slices.EqualFunc(got, l, sameEvent) {
		t.Errorf("read is %v, %d", got, e)
	}
	if l, e := ReadHistory(""); e != api.OK || len(l) != 0 || History(nil) != "" {
		t.Error("a history of nothing")
	}
	if Event(api.Event{Thread: 3, Call: api.Call{Op: 99}}) != "begin 3 " || Event(api.Event{Thread: 3, Back: true, Answer: api.Answer{Kind: 99}}) != "back 3 " {
		t.Error("events of what is none")
	}
}

func TestWrongHistories(t *testing.T) { // 35.2
	for s, want := range map[string]api.Errno{
		"\n": api.ErrForm, " \n": api.ErrForm, "begin\n": api.ErrForm, "begin 0\n": api.ErrForm, "begin 0 \n": api.ErrNone, "back 0 \n": api.ErrNone, "start 0 join\n": api.ErrForm, "Begin 0 join\n": api.ErrForm, " begin 0 join\n": api.ErrForm,
		"begin x join\n": api.ErrForm, "begin 00 join\n": api.ErrForm, "begin  0 join\n": api.ErrForm, "begin 0  join\n": api.ErrNone, "begin 0 done\n": api.ErrNone, "back 0 join\n": api.ErrNone, "begin 0 join 1\n": api.ErrForm, "back 0 found 1\n": api.ErrForm,
		"begin x what\n": api.ErrForm, "begin 0 join": api.ErrEnd, "begin 0 join\nback 0 done": api.ErrEnd, "begin 0 join\nback 0": api.ErrForm, "begin 0 join\nx": api.ErrForm, "begin 0 what": api.ErrNone, "begin 0 join\n\n": api.ErrForm,
		"begin 0 join\nback 0 what\nx": api.ErrNone, "begin 0 what\nback 0 found\n": api.ErrNone, "begin 0 insert\nback 0 what\n": api.ErrForm, "begin 0 join\r\n": api.ErrNone, "begin 0 join\nbegin 0 delete 1": api.ErrEnd,
	} {
		if l, e := ReadHistory(s); e != want || len(l) != 0 {
			t.Errorf("%q is read as %v, %d, not %d", s, l, e, want)
		}
	}
}

func TestAnyText(t *testing.T) { // 35.3, P1
	d := rig.Dice(45)
	bits := []string{"begin", "back", " ", " ", " ", "\n", "0", "1", "-5", "insert", "list", "found", "1:2", "join", "done", ":", "-", "x", "counted", "range"}
	read := 0
	for range 20000 {
		s := ""
		for range d.Below(14) {
			s += bits[d.Below(len(bits))]
		}
		if c, e := ReadCall(s); e == api.OK && Call(c) != s {
			t.Fatalf("%q is written as %q", s, Call(c))
		}
		if a, e := ReadAnswer(s); e == api.OK && Answer(a) != s {
			t.Fatalf("%q is written as %q", s, Answer(a))
		}
		if l, e := ReadHistory(s); e == api.OK {
			read++
			if History(l) != s {
				t.Fatalf("%q is written as %q", s, History(l))
			}
		}
	}
	if read == 0 {
		t.Error("no text is read")
	}
}
