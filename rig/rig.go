// Package rig is what tests of routines share: threads that do jobs on a machine, alone or by turns that look like none.
package rig

import (
	"deadwood/api"
	"deadwood/core"
)

// Dice is numbers that look like none, from a number on.
type Dice uint64

// Below is a number from 0 on below n.
func (d *Dice) Below(n int) int {
	*d = *d*6364136223846793005 + 1442695040888963407
	return int(uint64(*d) >> 33 % uint64(n))
}

// Job is a routine that a thread does: First is done at its beginning, Then behind its end.
type Job struct {
	Fn    int
	R     []uint64
	First func()
	Then  func(told [12]uint64)
}

// Rig is threads with jobs. After is done behind every step.
type Rig struct {
	M      *core.Machine
	Do     core.Routine
	After  func()
	Events []api.Event
	jobs   [][]Job
	now    []Job
}

// New is a rig of a machine at first, without jobs.
func New(threads, slots int, stamps uint64, do core.Routine) *Rig {
	m, _ := core.New(api.Conf{Threads: threads, Slots: slots, Stamps: stamps})
	return Of(m, do)
}

// Of is a rig of a machine, without jobs.
func Of(m *core.Machine, do core.Routine) *Rig {
	return &Rig{M: m, Do: do, jobs: make([][]Job, m.Threads()), now: make([]Job, m.Threads())}
}

// Add gives a thread jobs.
func (r *Rig) Add(t int, jobs ...Job) {
	r.jobs[t] = append(r.jobs[t], jobs...)
}

// Idle tells whether a thread is within no job, and has none left.
func (r *Rig) Idle(t int) bool {
	return r.M.Thread(t).Depth() == 0 && len(r.jobs[t]) == 0
}

// Pick does a step of a thread; false, if it is idle.
func (r *Rig) Pick(t int) bool {
	if r.Idle(t) {
		return false
	}
	if r.M.Thread(t).Depth() == 0 {
		r.begin(t)
	}
	if !r.M.Step(t, r.Do) && r.now[t].Then != nil {
		r.now[t].Then(r.M.Thread(t).Ret)
	}
	if r.After != nil {
		r.After()
	}
	return true
}

func (r *Rig) begin(t int) {
	j := r.jobs[t][0]
	r.jobs[t], r.now[t] = r.jobs[t][1:], j
	if j.First != nil {
		j.First()
	}
	r.M.Thread(t).Call(j.Fn, j.R...)
}

// Play has the threads do their jobs by turns that the dice say, for so many steps at most; whether all are idle.
func (r *Rig) Play(d *Dice, most int) bool {
	for most > 0 {
		t := d.Below(len(r.jobs))
		for range 1 + d.Below(1+d.Below(12)) {
			r.Pick(t)
			most--
		}
		if r.idle() {
			return true
		}
	}
	return false
}

func (r *Rig) idle() bool {
	for t := range r.jobs {
		if !r.Idle(t) {
			return false
		}
	}
	return true
}

// Alone has a thread do a routine, while nobody else does a step: what is told, and how many steps it took (most, and all ones are told, if it did not end).
func (r *Rig) Alone(t, most, fn int, regs ...uint64) (told [12]uint64, steps int) {
	r.M.Thread(t).Call(fn, regs...)
	depth := r.M.Thread(t).Depth()
	for steps < most && r.M.Thread(t).Depth() >= depth {
		r.M.Step(t, r.Do)
		steps++
	}
	told = r.M.Thread(t).Ret
	if r.M.Thread(t).Depth() >= depth {
		for i := range told {
			told[i] = ^uint64(0)
		}
	}
	return told, steps
}

// DoesNone tells whether nothing is done of these routines, by thread 0, nor of a nil machine, of threads that aren't there, and of one that is within nothing; else of which routine something is (-1, if of none of these).
func (r *Rig) DoesNone(fns ...int) (int, bool) {
	was := r.M.Mem().Accesses()
	r.Do(nil, 0)
	for t := -1; t <= r.M.Threads(); t++ {
		r.Do(r.M, t)
	}
	if r.M.Mem().Accesses() != was {
		return -1, false
	}
	for _, fn := range fns {
		r.M.Thread(0).Call(fn)
		r.Do(r.M, 0)
		f := r.M.Thread(0).Top()
		if f == nil || f.Fn != fn || f.PC != 0 || r.M.Mem().Accesses() != was || r.M.Fault() {
			return fn, false
		}
		r.M.Thread(0).Back()
	}
	return 0, true
}

// Told is a done call as two events, one behind the other.
func (r *Rig) Told(t int, c api.Call, a api.Answer) {
	r.Events = append(r.Events, api.Event{Thread: t, Call: c}, api.Event{Thread: t, Back: true, Answer: a})
}

// Logged is a job that is an oper of the rig's history, with the answer that is read when it ends.
func (r *Rig) Logged(t int, c api.Call, j Job, answer func(told [12]uint64) api.Answer) Job {
	j.First = func() { r.Events = append(r.Events, api.Event{Thread: t, Call: c}) }
	j.Then = func(told [12]uint64) {
		r.Events = append(r.Events, api.Event{Thread: t, Back: true, Answer: answer(told)})
	}
	return j
}
