// Package chore is calls as jobs of a rig, for tests of the layers that lie above them.
package chore

import (
	"deadwood/api"
	"deadwood/epoch"
	"deadwood/find"
	"deadwood/insert"
	"deadwood/limbo"
	"deadwood/remove"
	"deadwood/rig"
	"deadwood/word"
)

// most is more steps than any routine alone takes in a test.
const most = 99999

// job is the routine of a call that changes the map, or looks a key up.
func job(c api.Call) rig.Job {
	switch c.Op {
	case api.Insert:
		return rig.Job{Fn: insert.Insert, R: []uint64{word.Bits(c.Key), word.Bits(c.Val)}}
	case api.Delete:
		return rig.Job{Fn: remove.Remove, R: []uint64{word.Bits(c.Key)}}
	}
	return rig.Job{Fn: find.Find, R: []uint64{word.Bits(c.Key)}}
}

// answer is what such a routine tells.
func answer(c api.Call, told [12]uint64) api.Answer {
	if told[0] == api.Found {
		return api.Answer{Kind: api.Found, Key: c.Key, Val: word.Signed(told[1])}
	}
	return api.Answer{Kind: int(told[0])}
}

// Alone has a thread do an Insert, a Delete or a Lookup alone.
func Alone(r *rig.Rig, t int, c api.Call) api.Answer {
	j := job(c)
	r.Alone(t, most, epoch.Enter)
	told, _ := r.Alone(t, most, j.Fn, j.R...)
	r.Alone(t, most, epoch.Leave)
	return answer(c, told)
}

// Put has thread 0 put keys in alone, each with less of it as its value.
func Put(r *rig.Rig, keys ...int64) {
	for _, k := range keys {
		Alone(r, 0, api.Call{Op: api.Insert, Key: k, Val: -k})
	}
}

// Within gives a thread jobs within Enter and Leave.
func Within(r *rig.Rig, t int, jobs ...rig.Job) {
	r.Add(t, rig.Job{Fn: epoch.Enter})
	r.Add(t, jobs...)
	r.Add(t, rig.Job{Fn: epoch.Leave})
}

// Add gives a thread an Insert, a Delete or a Lookup, which is an oper of the rig's history.
func Add(r *rig.Rig, t int, c api.Call) {
	Within(r, t, r.Logged(t, c, job(c), func(told [12]uint64) api.Answer { return answer(c, told) }))
}

// Some gives a thread one of these calls as the dice say, of so many keys, and now and then what has the epoch go on.
func Some(r *rig.Rig, d *rig.Dice, t, keys int) {
	Add(r, t, api.Call{Op: d.Below(3), Key: int64(d.Below(keys)), Val: int64(d.Below(99))})
	if d.Below(3) == 0 {
		r.Add(t, rig.Job{Fn: epoch.Advance}, rig.Job{Fn: limbo.Clean})
	}
}
