package epoch

import (
	"slices"
	"testing"

	"deadwood/badge"
	"deadwood/core"
	"deadwood/plan"
	"deadwood/rig"
	slotting "deadwood/slots"
)

func now(m *core.Machine) uint64 { return m.Mem().Words()[plan.Epoch] }

func announced(m *core.Machine, t int) uint64 { return m.Mem().Words()[m.Plan().Active(t)] }

func TestAlone(t *testing.T) { // 18.1, 18.2
	r := rig.New(2, 8, 9, Do)
	told, steps := r.Alone(0, 9, Enter)
	if told != [12]uint64{} || steps > 4 || announced(r.M, 0) != badge.Active(3) || announced(r.M, 1) != 0 || r.M.Thread(0).Session.Past != 2 {
		t.Fatalf("Enter: %v within %d steps", told, steps)
	}
	for want := uint64(4); want <= 4; want++ {
		if told, steps = r.Alone(0, 9, Advance); told != [12]uint64{1} || steps > 5 || now(r.M) != want {
			t.Fatalf("Advance: %v within %d steps", told, steps)
		}
	}
	if told, steps = r.Alone(1, 9, Advance); told != [12]uint64{} || steps > 5 || now(r.M) != 4 {
		t.Fatal("thread 0 lags")
	}
	r.Alone(0, 9, Enter)
	if announced(r.M, 0) != badge.Active(4) || r.M.Thread(0).Session.Past != 3 {
		t.Error("who enters once more announces itself anew")
	}
	if told, steps = r.Alone(0, 9, Leave); told != [12]uint64{} || steps > 2 || announced(r.M, 0) != 0 {
		t.Error("Leave")
	}
	for want := uint64(5); want < 9; want++ {
		if told, _ = r.Alone(1, 9, Advance); told[0] != 1 || now(r.M) != want {
			t.Error("nobody lags")
		}
	}
	if r.M.Fault() {
		t.Error("the machine is at fault")
	}
}

func TestPinned(t *testing.T) { // 18.1
	r := rig.New(1, 8, 9, Do)
	r.Alone(0, 9, Enter)
	r.Alone(0, 9, Advance)
	r.M.Thread(0).Session.Pinned = true
	was := r.M.Mem().Words()
	for _, fn := range []int{Enter, Leave} {
		r.M.Thread(0).Ret[0] = 5
		if told, steps := r.Alone(0, 9, fn); told != [12]uint64{} || steps > 2 || !slices.Equal(r.M.Mem().Words(), was) || r.M.Thread(0).Session.Past != 2 {
			t.Errorf("routine %d does something", fn)
		}
	}
}

func TestEpochZero(t *testing.T) { // 18.1
	r := rig.New(1, 8, 9, Do)
	r.M.Mem().Store(plan.Epoch, 0)
	r.M.Thread(0).Session.Past = 7
	if r.Alone(0, 9, Enter); r.M.Thread(0).Session.Past != 0 || announced(r.M, 0) != 1 {
		t.Error("Past is 0 of epoch 0")
	}
}

func TestBetweenItsSteps(t *testing.T) { // 18.1
	r := rig.New(2, 8, 9, Do)
	r.M.Thread(0).Call(Enter)
	r.M.Step(0, Do)
	r.M.Mem().Add(plan.Epoch, 1)
	for r.M.Step(0, Do) {
	}
	if announced(r.M, 0) != badge.Active(3) || r.M.Thread(0).Session.Past != 3 {
		t.Error("Enter announces the epoch that was read first, and Past is of the one that is read again")
	}
	r = rig.New(2, 8, 9, Do)
	r.M.Thread(0).Call(Advance)
	for range 3 {
		r.M.Step(0, Do)
	}
	r.M.Mem().Add(plan.Epoch, 1)
	for r.M.Step(0, Do) {
	}
	if r.M.Thread(0).Ret[0] != 0 || now(r.M) != 4 {
		t.Error("Advance whose Cas fails tells 0")
	}
}

func TestOtherRoutines(t *testing.T) { // 18.1
	r := rig.New(1, 8, 9, Do)
	if told, _ := r.Alone(0, 9, slotting.Take); told[0] != 6 {
		t.Error("Take is done")
	}
	if r.Alone(0, 9, slotting.Give, 6); r.M.Guard().Held() != 5 {
		t.Error("Give is done")
	}
	if fn, is := r.DoesNone(0, 9, 13, 20); !is {
		t.Errorf("routine %d is done", fn)
	}
}

func TestWhateverTheTurns(t *testing.T) { // 18.2
	d := rig.Dice(5)
	for i := range 200 {
		threads := 1 + i%6
		r := rig.New(threads, 8, 9, Do)
		g := make([]uint64, threads) // the epoch when a thread announced itself, 0 of who has not
		for th := range threads {
			for range 15 {
				switch d.Below(3) {
				case 0:
					r.Add(th, rig.Job{Fn: Enter, Then: func([12]uint64) {
						if past := r.M.Thread(th).Session.Past; past != g[th] && past != g[th]-1 {
							t.Errorf("Past is %d, and was announced at %d", past, g[th])
						}
					}})
				case 1:
					r.Add(th, rig.Job{Fn: Leave})
				default:
					r.Add(th, rig.Job{Fn: Advance})
				}
			}
		}
		last := make([]uint64, threads)
		epoch := uint64(3)
		r.After = func() {
			if next := now(r.M); next != epoch && next != epoch+1 {
				t.Fatalf("the epoch goes from %d to %d", epoch, next)
			}
			epoch = now(r.M)
			for th := range threads {
				f := r.M.Thread(th).Top()
				stored := f != nil && f.Fn == Enter && f.PC == enterPast && last[th] != enterPast
				if stored {
					g[th] = epoch
				}
				last[th] = 0
				if f != nil && f.Fn == Enter {
					last[th] = uint64(f.PC)
				}
				if announced(r.M, th) == 0 {
					g[th] = 0
				}
				if g[th] != 0 && epoch > g[th]+1 {
					t.Fatalf("the epoch is %d, and thread %d announced itself at %d", epoch, th, g[th])
				}
			}
		}
		if !r.Play(&d, 100000) || r.M.Fault() {
			t.Fatal("somebody comes to no end, or the machine is at fault")
		}
	}
}
