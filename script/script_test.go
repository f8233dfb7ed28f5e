package script

import (
	"bytes"
	"math"
	"testing"

	"deadwood/api"
)

func conf(threads, slots int, stamps uint64) api.Conf {
	return api.Conf{Threads: threads, Slots: slots, Stamps: stamps}
}

func pick(thread int) api.Entry { return api.Entry{Thread: thread} }

func begin(thread int, c api.Call) api.Entry { return api.Entry{Thread: thread, Begin: true, Call: c} }

var some = api.Script{Conf: conf(2, 258-8, 0x123456789a), Entries: []api.Entry{
	begin(0, api.Call{Op: api.Join}), pick(0), pick(63),
	begin(63, api.Call{Op: 255, Key: -1, Val: math.MinInt64, Hi: math.MaxInt64, Limit: 65535}), pick(1),
}}

var someBytes = []byte{
	2, 250, 0, 0x9a, 0x78, 0x56, 0x34, 0x12, 0, 0, 0,
	0x80, 13, 0, 0, 0, 0, 0, 0, 0, 0, 0, 0, 0, 0, 0, 0, 0, 0, 0, 0, 0, 0, 0, 0, 0, 0, 0, 0,
	0, 63,
	0xbf, 255, 255, 255, 255, 255, 255, 255, 255, 255, 0, 0, 0, 0, 0, 0, 0, 0x80, 255, 255, 255, 255, 255, 255, 255, 0x7f, 255, 255,
	1,
}

func TestPutAndTake(t *testing.T) { // 14.1, 14.3
	b, e := Put(some)
	if e != api.OK || !bytes.Equal(b, someBytes) {
		t.Fatalf("Put: %v %d", b, e)
	}
	s, e := Take(b)
	if e != api.OK || !Same(s, some) {
		t.Fatalf("Take: %v %d", s, e)
	}
	small := api.Script{Conf: conf(1, 7, 1)}
	b, _ = Put(small)
	if !bytes.Equal(b, []byte{1, 7, 0, 1, 0, 0, 0, 0, 0, 0, 0}) {
		t.Errorf("the example: %v", b)
	}
	if s, e := Take(b); e != api.OK || !Same(s, small) {
		t.Errorf("the example, read: %v %d", s, e)
	}
}

func TestMay(t *testing.T) { // 14.1
	if !May(some) || !May(api.Script{Conf: conf(6, 250, 1<<40)}) || !May(api.Script{Conf: conf(6, 250, 1<<40), Entries: []api.Entry{begin(0, api.Call{})}}) {
		t.Error("they may be written")
	}
	c := conf(1, 7, 1)
	for i, s := range []api.Script{
		{}, {Conf: conf(0, 7, 1)}, {Conf: conf(7, 7, 1)}, {Conf: conf(1, 6, 1)}, {Conf: conf(1, 251, 1)}, {Conf: conf(1, 7, 0)}, {Conf: conf(1, 7, 1<<40+1)},
		{Conf: c, Entries: make([]api.Entry, 60001)},
		{Conf: c, Entries: []api.Entry{pick(-1)}}, {Conf: c, Entries: []api.Entry{pick(64)}}, {Conf: c, Entries: []api.Entry{pick(0), begin(64, api.Call{})}},
		{Conf: c, Entries: []api.Entry{{Call: api.Call{Hi: 1}}}}, {Conf: c, Entries: []api.Entry{{Call: api.Call{Op: 1}}}},
		{Conf: c, Entries: []api.Entry{begin(0, api.Call{Op: -1})}}, {Conf: c, Entries: []api.Entry{begin(0, api.Call{Op: 256})}},
		{Conf: c, Entries: []api.Entry{begin(0, api.Call{Limit: -1})}}, {Conf: c, Entries: []api.Entry{begin(0, api.Call{Limit: 65536})}},
	} {
		if b, e := Put(s); May(s) || len(b) != 0 || e != api.ErrArg {
			t.Errorf("script %d may not be written", i)
		}
	}
	long := api.Script{Conf: c, Entries: make([]api.Entry, 60000)}
	b, e := Put(long)
	if e != api.OK || len(b) != 60011 {
		t.Error("60,000 entries may be written")
	}
	if s, e := Take(b); e != api.OK || !Same(s, long) {
		t.Error("60,000 entries may be read")
	}
	for _, last := range []byte{0, 0x40, 0x80, 0xff} {
		if s, e := Take(append(bytes.Clone(b), last)); e != api.ErrLong || s.Entries != nil || s.Conf != (api.Conf{}) {
			t.Errorf("one too many, %x: %d", last, e)
		}
	}
}

func TestTakeOfWrongBytes(t *testing.T) { // 14.1
	head := []byte{1, 7, 0, 1, 0, 0, 0, 0, 0, 0, 0}
	with := func(b ...byte) []byte { return append(bytes.Clone(head), b...) }
	at := func(i int, n byte) []byte {
		b := bytes.Clone(head)
		b[i] = n
		return b
	}
	for i, c := range []struct {
		b    []byte
		want api.Errno
	}{
		{nil, api.ErrEnd}, {head[:10], api.ErrEnd}, {[]byte{0, 0, 0}, api.ErrEnd}, {make([]byte, 11), api.ErrRange},
		{at(0, 0), api.ErrRange}, {at(0, 7), api.ErrRange}, {at(1, 6), api.ErrRange}, {at(2, 1), api.ErrRange}, {at(3, 0), api.ErrRange}, {at(8, 2), api.ErrRange}, {at(10, 1), api.ErrRange},
		{append(at(0, 0), 0x40), api.ErrRange},
		{with(0x40), api.ErrForm}, {with(0, 0xff), api.ErrForm}, {with(0xc0), api.ErrForm}, {with(0x80), api.ErrEnd}, {with(0, 1, 0x80, 3), api.ErrEnd},
		{with(append([]byte{0x80}, make([]byte, 26)...)...), api.ErrEnd}, {with(append([]byte{0x80}, make([]byte, 27)...)...), api.OK},
	} {
		s, e := Take(c.b)
		if e != c.want {
			t.Errorf("case %d: %d, not %d", i, e, c.want)
		}
		if e != api.OK && (s.Conf != (api.Conf{}) || len(s.Entries) != 0) {
			t.Errorf("case %d: beside an error is a zero script", i)
		}
	}
	for n := range someBytes {
		s, e := Take(someBytes[:n])
		if e == api.OK {
			if b, _ := Put(s); !bytes.Equal(b, someBytes[:n]) {
				t.Errorf("what is read of %d bytes is written otherwise", n)
			}
		} else if e != api.ErrEnd {
			t.Errorf("%d bytes: %d", n, e)
		}
	}
}

func TestTakeOfAnyBytes(t *testing.T) { // 14.3, P1
	x := uint64(5)
	for range 5000 {
		b := []byte{1, 9, 0, 5, 0, 0, 0, 0, 0, 0, 0}
		for range 40 {
			x = x*6364136223846793005 + 1442695040888963407
			b = append(b, byte(x>>56)&0xbf)
		}
		b = b[:11+int(x>>33%41)]
		was := bytes.Clone(b)
		s, e := Take(b)
		if !bytes.Equal(b, was) {
			t.Fatal("what was handed in is changed")
		}
		if back, _ := Put(s); e == api.OK && !bytes.Equal(back, b) {
			t.Fatalf("%v is written as %v", b, back)
		}
	}
}

func TestClean(t *testing.T) { // 14.2, 14.3
	for _, c := range []struct{ from, want api.Conf }{
		{api.Conf{}, conf(1, 7, 1)}, {conf(-5, -5, 1<<40+1), conf(1, 7, 1<<40)}, {conf(math.MaxInt, math.MaxInt, math.MaxUint64), conf(6, 250, 1<<40)},
		{conf(3, 20, 9), conf(3, 20, 9)}, {conf(math.MinInt, 251, 0), conf(1, 250, 1)}, {conf(6, 250, 1<<40), conf(6, 250, 1<<40)}, {conf(7, 6, 2), conf(6, 7, 2)},
	} {
		s := Clean(api.Script{Conf: c.from, Entries: []api.Entry{pick(-7)}})
		if s.Conf != c.want || len(s.Entries) != 1 || s.Entries[0] != pick(-7) || !Same(Clean(s), s) {
			t.Errorf("%v, cleaned: %v", c.from, s)
		}
	}
	long := api.Script{Conf: conf(1, 7, 1), Entries: make([]api.Entry, 60002)}
	long.Entries[59999].Thread = 3
	s := Clean(long)
	if len(s.Entries) != 60000 || s.Entries[59999].Thread != 3 {
		t.Error("the first 60,000 entries")
	}
	s.Entries[0].Thread = 4
	if long.Entries[0].Thread != 0 {
		t.Error("what was handed in is shared")
	}
}

func TestSame(t *testing.T) { // 14.2
	a := api.Script{Conf: conf(1, 7, 1), Entries: []api.Entry{pick(1)}}
	for i, b := range []api.Script{
		{Conf: conf(2, 7, 1), Entries: a.Entries}, {Conf: a.Conf}, {Conf: a.Conf, Entries: []api.Entry{pick(2)}},
		{Conf: a.Conf, Entries: []api.Entry{{Thread: 1, Begin: true}}}, {Conf: a.Conf, Entries: []api.Entry{{Thread: 1, Call: api.Call{Val: 1}}}},
	} {
		if Same(a, b) || Same(b, a) {
			t.Errorf("script %d is another one", i)
		}
	}
	if !Same(a, api.Script{Conf: a.Conf, Entries: []api.Entry{pick(1)}}) || !Same(api.Script{}, api.Script{Entries: []api.Entry{}}) {
		t.Error("they are the same")
	}
}
