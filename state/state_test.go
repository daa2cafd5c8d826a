package state

import (
	"math"
	"math/rand"
	"slices"
	"testing"

	"tracebook/api"
	"tracebook/spans"
)

func ev(thread, serial, at int, k api.Kind, n, m int) api.Timed {
	return api.Timed{Id: api.Id{Thread: thread, Serial: serial}, Event: api.Event{At: max(at, 0), Kind: k, N: n, M: m}, When: api.Interval{Lo: at, Hi: at}}
}

func run(thread, serial, at, cpu int) api.Timed { return ev(thread, serial, at, api.KRun, cpu, 0) }

func stop(thread, serial, at, n, m int) api.Timed { return ev(thread, serial, at, api.KStop, n, m) }

func wake(thread, serial, at, n int) api.Timed { return ev(thread, serial, at, api.KWake, n, 0) }

func of(thread, state, from, to, cpu, on, by int) api.State {
	return api.State{Thread: thread, State: state, Span: api.Span{From: from, To: to}, Cpu: cpu, On: on, By: by}
}

func threads(ids ...int) []api.Thread {
	var l []api.Thread
	for _, id := range ids {
		l = append(l, api.Thread{Id: id, Name: "t"})
	}
	return l
}

func TestExamples(t *testing.T) {
	unknown := func(from, to int) api.State { return of(1, api.Unknown, from, to, -1, -1, -1) }
	mark := func(serial, at int) api.Timed { return ev(1, serial, at, api.KMark, 0, 0) }
	for i, c := range []struct {
		o    []api.Timed
		end  int
		want []api.State
	}{
		{nil, 0, nil}, {nil, -3, nil}, {nil, 4, []api.State{unknown(0, 4)}}, {nil, math.MaxInt, []api.State{unknown(0, api.MaxTime)}},
		{[]api.Timed{run(1, 0, 2, 0), stop(1, 1, 5, 1, 0), wake(7, 0, 9, 1)}, 10, []api.State{unknown(0, 2), of(1, 4, 2, 5, 0, -1, -1), of(1, 1, 5, 9, -1, -1, 7), of(1, 0, 9, 10, -1, -1, -1)}},
		{[]api.Timed{run(1, 0, 2, 0), mark(2, 8)}, 0, []api.State{unknown(0, 8)}},
		{[]api.Timed{stop(1, 0, 0, 2, 9), mark(1, 3)}, 5, []api.State{of(1, 2, 0, 5, -1, 9, -1)}},
		// A wake of a thread that does not wait has no effect, and so has one after the last event before a loss.
		{[]api.Timed{run(1, 0, 2, 5), wake(7, 0, 3, 1)}, 4, []api.State{unknown(0, 2), of(1, 4, 2, 4, 5, -1, -1)}},
		{[]api.Timed{stop(1, 0, 2, 1, 0), wake(7, 0, 4, 1), mark(2, 6)}, 7, []api.State{unknown(0, 7)}},
		{[]api.Timed{stop(1, 0, 2, 1, 0), mark(1, 3), wake(7, 0, 4, 1), mark(3, 6)}, 7, []api.State{unknown(0, 2), of(1, 1, 2, 3, -1, -1, -1), unknown(3, 7)}},
		{[]api.Timed{stop(1, 0, 2, 1, 0), mark(1, 3), wake(7, 0, 3, 1), mark(3, 6)}, 7, []api.State{unknown(0, 2), of(1, 1, 2, 3, -1, -1, 7), unknown(3, 7)}},
		// A first event with a serial above 0: what happened before has no effect.
		{[]api.Timed{run(1, 3, 5, 1)}, 6, []api.State{unknown(0, 5), of(1, 4, 5, 6, 1, -1, -1)}},
		// A thread can wake itself; states without length are left out, and equal ones are joined.
		{[]api.Timed{stop(1, 0, 0, 2, 9), wake(1, 1, 4, 1)}, 6, []api.State{of(1, 2, 0, 4, -1, 9, 1), of(1, 0, 4, 6, -1, -1, -1)}},
		{[]api.Timed{stop(1, 0, 0, 0, 0), stop(1, 1, 4, 1, 0), wake(7, 0, 4, 1)}, 6, []api.State{of(1, 0, 0, 6, -1, -1, -1)}},
		{[]api.Timed{stop(1, 0, 0, 1, 0), wake(7, 0, 2, 1), stop(1, 1, 2, 1, 0), wake(8, 0, 4, 1)}, 4, []api.State{of(1, 1, 0, 4, -1, -1, 8)}},
		{[]api.Timed{run(1, 0, 0, 3), run(1, 1, 2, 3), run(1, 2, 4, 4)}, 5, []api.State{of(1, 4, 0, 4, 3, -1, -1), of(1, 4, 4, 5, 4, -1, -1)}},
		{[]api.Timed{stop(1, 0, 0, 2, 3), stop(1, 1, 2, 2, 4)}, 5, []api.State{of(1, 2, 0, 2, -1, 3, -1), of(1, 2, 2, 5, -1, 4, -1)}},
		{[]api.Timed{run(1, 0, -9, 3), ev(5, 0, 2*api.MaxTime, api.KMark, 0, 0)}, 5, []api.State{of(1, 4, 0, api.MaxTime, 3, -1, -1)}},
	} {
		got := Of(threads(1), c.o, c.end)
		if !slices.Equal(got, c.want) || Check(threads(1), got) != api.OK {
			t.Error(i, got)
		}
	}
	if got := Of(threads(2, 1, 2), nil, 4); len(got) != 2 || got[0].Thread != 2 {
		t.Error(got)
	}
}

func randomEvents(r *rand.Rand) []api.Timed {
	var o []api.Timed
	serials := make([]int, 4)
	at := 0
	for range r.Intn(20) {
		at += r.Intn(3)
		id := r.Intn(4)
		if r.Intn(10) == 0 {
			serials[id]++
		}
		switch r.Intn(4) {
		case 0:
			o = append(o, run(id, serials[id], at, r.Intn(2)))
		case 1:
			n := r.Intn(4)
			o = append(o, stop(id, serials[id], at, n, r.Intn(3)*(n/2%2)*(3-n)))
		case 2:
			o = append(o, wake(id, serials[id], at, r.Intn(4)))
		default:
			o = append(o, ev(id, serials[id], at, api.KMark, 0, 0))
		}
		serials[id]++
	}
	return o
}

// stateAt computes the state of a thread at a time, going through the events up to that time.
func stateAt(o []api.Timed, id, t int) (int, int, int) {
	lostFrom := func(i int) bool { // whether the next event of the thread after o[:i] comes after a loss
		next := 0
		for _, x := range o[:i] {
			if x.Id.Thread == id {
				next = x.Id.Serial + 1
			}
		}
		for _, x := range o[i:] {
			if x.Id.Thread == id {
				return x.Id.Serial != next
			}
		}
		return false
	}
	state, cpu, on := api.Unknown, -1, -1
	lost := lostFrom(0)
	for i, x := range o {
		at := x.When.Lo
		if at > t {
			break
		}
		own := x.Id.Thread == id
		if own {
			lost = false
		}
		switch {
		case own && x.Event.Kind == api.KRun:
			state, cpu, on = api.Running, x.Event.N, -1
		case own && x.Event.Kind == api.KStop:
			state, cpu, on = x.Event.N, -1, -1
			if x.Event.N == api.Blocked {
				on = x.Event.M
			}
		case x.Event.Kind == api.KWake && x.Event.N == id && !lost && (state == api.Asleep || state == api.Blocked):
			state, cpu, on = api.Ready, -1, -1
		}
		if own {
			lost = lostFrom(i + 1)
			if lost {
				state, cpu, on = api.Unknown, -1, -1
			}
		}
	}
	return state, cpu, on
}

func TestDefinition(t *testing.T) {
	r := rand.New(rand.NewSource(1))
	for range 3000 {
		o := randomEvents(r)
		all := threads(2, 0, 3, 1)
		l := Of(all, o, 45)
		if err := Check(all, l); err != api.OK {
			t.Fatal(o, l, err)
		}
		for _, x := range all {
			sum := 0
			span := api.Span{From: r.Intn(20), To: 21 + r.Intn(24)}
			for state := range 6 {
				sum += Total(l, x.Id, state, span)
			}
			if sum != span.To-span.From {
				t.Fatal("Total", l, span, sum)
			}
			for at := range 45 {
				s, ok := At(l, x.Id, at)
				state, cpu, on := stateAt(o, x.Id, at)
				if !ok || s.State != state || s.Cpu != cpu || s.On != on {
					t.Fatal(o, l, x.Id, at, s, state)
				}
			}
			if alone := Of(threads(x.Id), o, 45); !slices.Equal(alone, slices.DeleteFunc(slices.Clone(l), func(s api.State) bool { return s.Thread != x.Id })) {
				t.Fatal("alone", alone, l)
			}
		}
		for cpu := range 3 {
			running := Running(l, cpu)
			for at := range 50 {
				some := false
				for _, x := range all {
					s, ok := At(l, x.Id, at)
					some = some || ok && s.State == api.Running && s.Cpu == cpu
				}
				if spans.Covers(running, at) != some || !spans.IsNormal(running) {
					t.Fatal("Running", l, cpu, at)
				}
			}
		}
	}
}

func TestCheck(t *testing.T) {
	good := []api.State{of(1, 5, 0, 3, -1, -1, -1), of(1, 4, 3, 9, 63, -1, -1), of(2, 2, 0, 9, -1, api.MaxInt, 0)}
	with := func(i int, s api.State) []api.State {
		l := slices.Clone(good)
		l[i] = s
		return l
	}
	for i, c := range []struct {
		l   []api.State
		err api.Errno
	}{
		{nil, api.OK}, {good, api.OK},
		{with(0, of(3, 9, 5, 3, 0, 0, 0)), api.ErrNone}, {with(0, of(1, 9, 0, 0, 0, 0, 0)), api.ErrRange}, {with(2, of(2, 2, -1, 9, -1, 0, 0)), api.ErrRange},
		{with(0, of(1, 6, 0, 3, -1, -1, -1)), api.ErrArg}, {with(0, of(1, -1, 0, 3, -1, -1, -1)), api.ErrArg}, {with(0, of(1, 5, 0, 3, 0, -1, -1)), api.ErrArg},
		{with(1, of(1, 4, 3, 9, 64, -1, -1)), api.ErrArg}, {with(1, of(1, 4, 3, 9, -1, -1, -1)), api.ErrArg}, {with(1, of(1, 4, 3, 9, 0, 0, -1)), api.ErrArg}, {with(1, of(1, 4, 3, 9, 0, -1, 0)), api.ErrArg},
		{with(2, of(2, 2, 0, 9, -1, -1, 0)), api.ErrArg}, {with(2, of(2, 2, 0, 9, -1, api.MaxInt+1, 0)), api.ErrArg}, {with(2, of(2, 2, 0, 9, -1, 0, -2)), api.ErrArg}, {with(2, of(2, 2, 0, 9, -1, 0, api.MaxInt+1)), api.ErrArg},
		{with(2, of(2, 1, 0, 9, -1, -1, api.MaxInt)), api.OK}, {with(2, of(2, 1, 0, 9, -1, 0, -1)), api.ErrArg}, {with(2, of(2, 0, 0, 9, -1, -1, 5)), api.ErrArg}, {with(2, of(2, 3, 0, 9, -1, -1, -1)), api.OK},
		{with(1, of(1, 4, 4, 9, 0, -1, -1)), api.ErrOrder}, {with(1, of(1, 5, 3, 9, -1, -1, -1)), api.ErrOrder}, {with(0, of(1, 5, 1, 3, -1, -1, -1)), api.ErrOrder}, {with(2, of(2, 2, 1, 9, -1, 0, 0)), api.ErrOrder},
		{good[:2], api.ErrOrder}, {good[2:], api.ErrOrder}, {with(2, of(2, 2, 0, 8, -1, 0, 0)), api.ErrOrder},
		{append(slices.Clone(good), of(1, 5, 0, 9, -1, -1, -1)), api.ErrOrder}, {append(slices.Clone(good), of(1, 5, 9, 9, -1, -1, -1)), api.ErrRange},
		{[]api.State{good[2], good[0], good[1]}, api.ErrOrder},
	} {
		if err := Check(threads(1, 2, 1), c.l); err != c.err {
			t.Error(i, err)
		}
	}
	if Check(nil, nil) != api.OK || Check(nil, good) != api.ErrNone || Check(threads(1, 2, 3), good) != api.ErrOrder {
		t.Error("threads")
	}
}

func TestQueries(t *testing.T) {
	l := []api.State{of(1, 4, 0, 5, 0, -1, -1), of(1, 4, 3, 9, 1, -1, -1), of(1, 4, 9, 7, 0, -1, -1), of(2, 4, 5, 7, 0, -1, -1)}
	if s, ok := At(l, 1, 4); !ok || s != l[0] {
		t.Error(s)
	}
	if s, ok := At(l, 1, 9); ok || s != (api.State{}) {
		t.Error(s)
	}
	if n := Total(l, 1, 4, api.Span{From: 2, To: 5}); n != 5 {
		t.Error(n)
	}
	if Total(l, 1, 4, api.Span{From: 5, To: 5}) != 0 || Total(l, 1, 4, api.Span{From: -1, To: 5}) != 0 || Total(l, 1, 3, api.Span{To: 5}) != 0 {
		t.Error("Total")
	}
	if s := Running(l, 0); !slices.Equal(s, []api.Span{{From: 0, To: 7}}) {
		t.Error(s)
	}
	Of(threads(1), []api.Timed{run(1, 0, 9, 0), stop(1, -5, 3, 7, 1), {}}, 3)
}
