package frame

import (
	"slices"
	"testing"

	"deadwood/api"
	"deadwood/pairs"
)

func TestNew(t *testing.T) { // 15.1
	x := New()
	if x.Top() != nil || x.Depth() != 0 || len(x.Row()) != 0 || x.Ret != [12]uint64{} || x.Session != (Session{}) {
		t.Error("a thread at first")
	}
	if w, ok := x.Pop(); w != 0 || ok {
		t.Error("the stack at first")
	}
}

func words(n int) []uint64 {
	l := make([]uint64, n)
	for i := range l {
		l[i] = uint64(i + 1)
	}
	return l
}

func TestCallAndBack(t *testing.T) { // 15.1, 15.3
	x := New()
	for n := range 30 {
		x.Call(n, words(n)...)
		f := x.Top()
		if x.Depth() != n+1 || f.Fn != n || f.PC != 0 {
			t.Fatalf("frame %d: %v", n, f)
		}
		for i, w := range f.R {
			if want := uint64(i + 1); (i < n && w != want) || (i >= n && w != 0) {
				t.Errorf("register %d of %d", i, n)
			}
		}
		f.PC = 7
		f.R[23] = 99
	}
	for n := 29; n >= 0; n-- {
		f := x.Top()
		if f.Fn != n || f.PC != 7 || f.R[23] != 99 {
			t.Fatalf("frame %d came back as %v", n, f)
		}
		x.Back(words(n)...)
		if x.Depth() != n {
			t.Fatalf("%d frames, not %d", x.Depth(), n)
		}
		for i, w := range x.Ret {
			if want := uint64(i + 1); (i < n && w != want) || (i >= n && w != 0) {
				t.Errorf("word %d told, of %d", i, n)
			}
		}
	}
	x.Back(5)
	if x.Depth() != 0 || x.Ret != [12]uint64{5} || x.Top() != nil {
		t.Error("Back without a frame")
	}
	x.Back()
	if x.Ret != [12]uint64{} {
		t.Error("Back that tells nothing")
	}
}

func TestTopIsTheFrameItself(t *testing.T) { // 15.1
	x := New()
	x.Call(1)
	f := x.Top()
	for range 20 {
		x.Call(2)
	}
	f.PC = 5
	for range 20 {
		x.Back()
	}
	if x.Top() != f || x.Top().PC != 5 {
		t.Error("the frame is another one")
	}
}

func TestWordsAreCopied(t *testing.T) { // the rule of memory
	x := New()
	l := []uint64{1, 2}
	x.Call(1, l...)
	l[0] = 9
	if x.Top().R[0] != 1 {
		t.Error("registers share memory")
	}
	x.Back(l...)
	l[1] = 9
	if x.Ret[1] != 2 {
		t.Error("what is told shares memory")
	}
}

func TestGatherAndStack(t *testing.T) { // 15.2, 15.3
	x := New()
	for _, k := range []int64{5, 1, 9, 3} {
		if !x.Gather(api.Pair{Key: k, Val: -k}) {
			t.Errorf("%d is gathered", k)
		}
	}
	if x.Gather(api.Pair{Key: 5, Val: 7}) {
		t.Error("a key is gathered once")
	}
	want := []api.Pair{{Key: 1, Val: -1}, {Key: 3, Val: -3}, {Key: 5, Val: -5}, {Key: 9, Val: -9}}
	x.Row()[0].Val = 7
	if !pairs.Same(x.Row(), want) {
		t.Errorf("the row is %v", x.Row())
	}
	x.Push(1)
	x.Push(2)
	if w, ok := x.Pop(); w != 2 || !ok {
		t.Error("the stack's top word")
	}
	x.Push(3)
	var got []uint64
	for {
		w, ok := x.Pop()
		if !ok {
			break
		}
		got = append(got, w)
	}
	if !slices.Equal(got, []uint64{3, 1}) {
		t.Errorf("the stack had %v", got)
	}
	x.Push(4)
	x.Call(1)
	x.Session.At = 4
	x.Fresh()
	if _, ok := x.Pop(); ok || len(x.Row()) != 0 || x.Depth() != 1 || x.Session.At != 4 {
		t.Error("the row and the stack alone are empty")
	}
}

func TestClone(t *testing.T) { // 15.2
	x := New()
	x.Call(1, 5)
	x.Call(2, 6)
	x.Back(8)
	x.Gather(api.Pair{Key: 1})
	x.Push(3)
	x.Push(4)
	x.Session = Session{Joined: true, V: 7, At: -1}
	c := x.Clone()
	if c.Depth() != 1 || *c.Top() != *x.Top() || c.Ret != x.Ret || c.Session != x.Session || !pairs.Same(c.Row(), x.Row()) {
		t.Fatal("a clone is as what it was made of")
	}
	c.Top().PC = 9
	c.Gather(api.Pair{Key: 2})
	c.Session.V = 8
	c.Pop()
	c.Push(77)
	c.Back(1)
	if x.Top().PC != 0 || x.Depth() != 1 || len(x.Row()) != 1 || x.Session.V != 7 || x.Ret[0] != 8 {
		t.Error("a clone is by itself")
	}
	if w, _ := x.Pop(); w != 4 {
		t.Error("a clone's stack is by itself")
	}
	x.Call(3)
	x.Push(5)
	if c.Depth() != 0 {
		t.Error("a clone is by itself, the other way round")
	}
}

func TestNilThread(t *testing.T) { // 15.2
	var x *Thread
	x.Call(1, 2)
	x.Back(3)
	x.Push(4)
	x.Fresh()
	if w, ok := x.Pop(); w != 0 || ok {
		t.Error("Pop of a nil thread")
	}
	if x.Top() != nil || x.Depth() != 0 || x.Gather(api.Pair{}) || len(x.Row()) != 0 || x.Clone() != nil {
		t.Error("a nil thread has something")
	}
}
