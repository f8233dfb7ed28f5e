package call

import (
	"math"
	"strings"
	"testing"

	"deadwood/api"
)

var ops = strings.Fields("insert delete lookup range count min max floor ceiling open next seek close join quit")

func TestMay(t *testing.T) { // 9.1
	for op := range 15 {
		c := api.Call{Op: op, Key: 3, Val: -1, Hi: 3, Limit: 1}
		if !May(c) {
			t.Errorf("%s may be", ops[op])
		}
		c.Limit = 1000
		if !May(c) {
			t.Errorf("%s may be of the greatest Limit", ops[op])
		}
		c.Hi = 2
		if ranged := op == api.Range || op == api.Count || op == api.Open; May(c) == ranged {
			t.Errorf("%s with Key above Hi", ops[op])
		}
		c.Hi = 3
		for _, limit := range []int{0, -1, 1001, math.MaxInt, math.MinInt} {
			if c.Limit = limit; May(c) == (op == api.Range) {
				t.Errorf("%s with Limit %d", ops[op], limit)
			}
		}
	}
	for _, op := range []int{-1, 15, math.MaxInt, math.MinInt} {
		if May(api.Call{Op: op, Limit: 1}) {
			t.Errorf("there is no Op %d", op)
		}
	}
}

func TestReadsAndChanges(t *testing.T) { // 9.1
	for op := -2; op < 18; op++ {
		reads := op == api.Range || op == api.Count || op == api.Min || op == api.Max || op == api.Floor || op == api.Ceiling || op == api.Open
		if Reads(op) != reads || Changes(op) != (op == api.Insert || op == api.Delete) {
			t.Errorf("Op %d", op)
		}
	}
}

func TestWords(t *testing.T) { // 9.1, 9.3
	for op, w := range ops {
		if Word(op) != w {
			t.Errorf("Word(%d) = %s", op, Word(op))
		}
		if got, ok := Op(w); got != op || !ok {
			t.Errorf("Op(%s) = %d", w, got)
		}
	}
	for _, op := range []int{-1, 15, math.MaxInt, math.MinInt} {
		if Word(op) != "" {
			t.Errorf("Op %d has a word", op)
		}
	}
	for _, w := range []string{"", "Insert", "insert ", "what", "found", "\x00"} {
		if op, ok := Op(w); op != 0 || ok {
			t.Errorf("%q is a word", w)
		}
	}
}

func TestSame(t *testing.T) { // 9.2
	a := api.Answer{Kind: 3, Key: 1, Val: 2, N: 3, Pairs: []api.Pair{{Key: 4, Val: 5}}}
	b := a
	b.Pairs = []api.Pair{{Key: 4, Val: 5}}
	if !Same(a, b) || !Same(api.Answer{}, api.Answer{Pairs: []api.Pair{}}) {
		t.Error("they are the same")
	}
	for i := range 6 {
		o := b
		switch i {
		case 0:
			o.Kind = 4
		case 1:
			o.Key = 0
		case 2:
			o.Val = 0
		case 3:
			o.N = 0
		case 4:
			o.Pairs = nil
		case 5:
			o.Pairs = []api.Pair{{Key: 4, Val: 6}}
		}
		if Same(a, o) || Same(o, a) {
			t.Errorf("they differ in field %d", i)
		}
	}
}

// kinds is, of each Kind, the Ops that it fits; Bad fits all.
var kinds = map[int]string{
	api.Done:    "insert open seek close join quit",
	api.Found:   "delete lookup min max next floor ceiling",
	api.Counted: "count",
	api.List:    "range",
	api.None:    "delete lookup min max next floor ceiling",
	api.Exists:  "insert",
	api.Full:    "insert",
	api.Spent:   "range count min max floor ceiling open",
	api.Bad:     strings.Join(ops, " "),
}

func TestKindsThatFit(t *testing.T) { // 9.2
	for op, w := range ops {
		c := api.Call{Op: op, Limit: 1}
		for kind := -1; kind <= 9; kind++ {
			want := false
			for _, x := range strings.Fields(kinds[kind]) {
				want = want || x == w
			}
			a := api.Answer{Kind: kind}
			if Fits(c, a) != want {
				t.Errorf("kind %d and %s", kind, w)
			}
			for i, o := range []api.Answer{
				{Kind: kind, Key: 1}, {Kind: kind, Val: 1}, {Kind: kind, N: 1}, {Kind: kind, Pairs: []api.Pair{{}}},
			} {
				told := kind == api.Found && i == 1 || kind == api.Counted && i == 2 || kind == api.List && i == 3
				free := kind == api.Found && i == 0 && (w == "min" || w == "max" || w == "next" || w == "ceiling")
				if Fits(c, o) != (want && (told || free)) {
					t.Errorf("kind %d and %s, with field %d", kind, w, i)
				}
			}
		}
	}
}

func TestFieldsThatFit(t *testing.T) { // 9.2
	found := func(key int64) api.Answer { return api.Answer{Kind: api.Found, Key: key, Val: -3} }
	list := func(keys ...int64) api.Answer {
		a := api.Answer{Kind: api.List}
		for _, k := range keys {
			a.Pairs = append(a.Pairs, api.Pair{Key: k, Val: 1})
		}
		return a
	}
	ranged := api.Call{Op: api.Range, Key: 2, Hi: 6, Limit: 3}
	for i, c := range []struct {
		c    api.Call
		a    api.Answer
		want bool
	}{
		{api.Call{Op: api.Lookup, Key: 5}, found(5), true}, {api.Call{Op: api.Lookup, Key: 6}, found(5), false},
		{api.Call{Op: api.Delete, Key: 5}, found(5), true}, {api.Call{Op: api.Delete, Key: 5}, found(4), false},
		{api.Call{Op: api.Floor, Key: 5}, found(5), true}, {api.Call{Op: api.Floor, Key: 5}, found(4), true}, {api.Call{Op: api.Floor, Key: 5}, found(6), false},
		{api.Call{Op: api.Ceiling, Key: 5}, found(5), true}, {api.Call{Op: api.Ceiling, Key: 5}, found(6), true}, {api.Call{Op: api.Ceiling, Key: 5}, found(4), false},
		{api.Call{Op: api.Min}, found(math.MinInt64), true}, {api.Call{Op: api.Next}, found(math.MaxInt64), true},
		{api.Call{Op: api.Count, Hi: 9}, api.Answer{Kind: api.Counted, N: 0}, true},
		{api.Call{Op: api.Count, Hi: 9}, api.Answer{Kind: api.Counted, N: -1}, false},
		{ranged, list(), true}, {ranged, list(2, 4, 6), true}, {ranged, list(2, 3, 4, 5), false}, {ranged, list(1, 2), false},
		{ranged, list(5, 7), false}, {ranged, list(4, 4), false}, {ranged, list(5, 4), false},
	} {
		if Fits(c.c, c.a) != c.want {
			t.Errorf("case %d: %v and %v", i, c.c, c.a)
		}
	}
}

func TestOnlyBadFitsWhatMayNotBe(t *testing.T) { // 9.2, 9.3
	for _, c := range []api.Call{{Op: -1}, {Op: 15}, {Op: api.Range, Limit: 0}, {Op: api.Count, Key: 1}, {Op: api.Open, Key: 1}} {
		for kind := range 9 {
			if Fits(c, api.Answer{Kind: kind}) != (kind == api.Bad) {
				t.Errorf("kind %d and %v", kind, c)
			}
		}
		if Fits(c, api.Answer{Kind: api.Bad, N: 1}) {
			t.Error("Bad tells nothing else")
		}
	}
}
