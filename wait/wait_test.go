package wait

import (
	"math/rand"
	"slices"
	"testing"

	"tracebook/api"
	"tracebook/state"
)

func of(thread, state, from, to, on int) api.State {
	s := api.State{Thread: thread, State: state, Span: api.Span{From: from, To: to}, Cpu: -1, On: on, By: -1}
	if state == api.Running {
		s.Cpu = 0
	}
	return s
}

// traceOf returns a trace of threads with states, which end at 10.
func traceOf(threads int, l ...api.State) api.Trace {
	t := api.Trace{Span: api.Span{To: 10}, States: l}
	for i := range threads {
		t.Threads = append(t.Threads, api.Thread{Id: i + 1, Name: "t"})
	}
	return t
}

func example() api.Trace {
	return traceOf(3, of(1, api.Unknown, 0, 3, -1), of(1, api.Blocked, 3, 9, 2), of(1, api.Ready, 9, 10, -1), of(2, api.Unknown, 0, 4, -1), of(2, api.Running, 4, 8, -1), of(2, api.Unknown, 8, 10, -1), of(3, api.Blocked, 0, 6, 3), of(3, api.Blocked, 6, 10, 77))
}

func hop(thread, state, from, to int) api.Hop {
	return api.Hop{Thread: thread, State: state, Span: api.Span{From: from, To: to}}
}

func TestChain(t *testing.T) {
	for i, c := range []struct {
		thread, at int
		want       []api.Hop
		err        api.Errno
	}{
		{1, 5, []api.Hop{hop(1, api.Blocked, 3, 9), hop(2, api.Running, 4, 8)}, api.OK}, {1, 9, []api.Hop{hop(1, api.Ready, 9, 10)}, api.OK}, {3, 0, []api.Hop{hop(3, api.Blocked, 0, 6)}, api.OK}, {3, 6, []api.Hop{hop(3, api.Blocked, 6, 10)}, api.OK},
		{4, 5, nil, api.ErrNone}, {77, -1, nil, api.ErrNone}, {1, 10, nil, api.ErrRange}, {1, -1, nil, api.ErrRange},
	} {
		if got, err := Chain(example(), c.thread, c.at); !slices.Equal(got, c.want) || err != c.err {
			t.Error(i, got, err)
		}
	}
}

func TestDeadlock(t *testing.T) {
	all := func(ons ...int) api.Trace {
		var l []api.State
		for i, on := range ons {
			s := of(i+1, api.Blocked, 0, 10, on)
			if on < 0 {
				s = of(i+1, api.Asleep, 0, 10, -1)
			}
			l = append(l, s)
		}
		return traceOf(len(ons), l...)
	}
	for i, c := range []struct {
		t    api.Trace
		want []int
	}{{all(2, 3, 2), []int{2, 3}}, {all(1), []int{1}}, {all(2, -1), nil}, {all(2, 9), nil}, {all(2, 1, 4, 5, 3, 1, 7), []int{1, 2, 3, 4, 5, 7}}, {all(3, 3, 4, 3), []int{3, 4}}, {traceOf(2), nil}} {
		if got, err := Deadlock(c.t, 5); !slices.Equal(got, c.want) || err != api.OK {
			t.Error(i, got, err)
		}
		if got, err := Deadlock(c.t, 10); len(got) != 0 || err != api.OK {
			t.Error(i, got, err)
		}
	}
}

func TestBlame(t *testing.T) {
	tr := traceOf(1, of(1, api.Blocked, 0, 2, 9), of(1, api.Running, 2, 3, -1), of(1, api.Blocked, 3, 5, 7), of(1, api.Blocked, 5, 10, 9))
	for i, c := range []struct {
		thread int
		s      api.Span
		want   [][2]int
		err    api.Errno
	}{
		{1, api.Span{To: 10}, [][2]int{{7, 2}, {9, 7}}, api.OK}, {1, api.Span{From: 1, To: 4}, [][2]int{{7, 1}, {9, 1}}, api.OK}, {1, api.Span{From: 2, To: 3}, nil, api.OK}, {1, api.Span{From: 9, To: 99}, [][2]int{{9, 1}}, api.OK},
		{2, api.Span{From: 5, To: 3}, nil, api.ErrNone}, {1, api.Span{From: 5, To: 5}, nil, api.ErrArg}, {1, api.Span{From: -1, To: 5}, nil, api.ErrArg},
	} {
		if got, err := Blame(tr, c.thread, c.s); !slices.Equal(got, c.want) || err != c.err {
			t.Error(i, got, err)
		}
	}
}

func TestErrors(t *testing.T) {
	bad := example()
	bad.Threads[0].Id = -1
	_, chain := Chain(bad, 9, 99)
	_, deadlock := Deadlock(bad, 5)
	_, blame := Blame(bad, 9, api.Span{})
	if chain != api.ErrRange || deadlock != api.ErrRange || blame != api.ErrRange {
		t.Error(chain, deadlock, blame)
	}
	if got, err := Chain(traceOf(2), 1, 0); len(got) != 0 || err != api.ErrRange {
		t.Error(got, err)
	}
}

func TestRandom(t *testing.T) {
	r := rand.New(rand.NewSource(1))
	for range 2000 {
		n := 1 + r.Intn(5)
		var l []api.State
		for id := 1; id <= n; id++ {
			first, second := randomState(r, id, 0, 5), randomState(r, id, 5, 10)
			if first.State == second.State && first.On == second.On {
				second = of(id, api.Unknown, 5, 10, -1)
			}
			l = append(l, first, second)
		}
		tr := traceOf(n, l...)
		at := r.Intn(10)
		circles, err := Deadlock(tr, at)
		if err != api.OK {
			t.Fatal(err)
		}
		for id := 1; id <= n; id++ {
			checkThread(t, tr, id, at, slices.Contains(circles, id))
			s := api.Span{From: r.Intn(5), To: 5 + r.Intn(9)}
			blame, _ := Blame(tr, id, s)
			sum := 0
			for i, x := range blame {
				sum += x[1]
				if i > 0 && blame[i-1][0] >= x[0] || x[1] <= 0 {
					t.Fatal(blame)
				}
			}
			if sum != state.Total(tr.States, id, api.Blocked, s) {
				t.Fatal(blame)
			}
		}
	}
}

func randomState(r *rand.Rand, id, from, to int) api.State {
	if r.Intn(3) > 0 {
		return of(id, api.Blocked, from, to, 1+r.Intn(6))
	}
	return of(id, []int{api.Ready, api.Asleep, api.Running, api.Gone}[r.Intn(4)], from, to, -1)
}

// checkThread follows a thread by state.At.
func checkThread(t *testing.T, tr api.Trace, id, at int, isMember bool) {
	var want []int
	circle := false
	for present := id; ; {
		s, ok := state.At(tr.States, present, at)
		if !ok {
			break
		}
		if slices.Contains(want, present) {
			circle = present == id
			break
		}
		want = append(want, present)
		if s.State != api.Blocked {
			break
		}
		present = s.On
	}
	chain, err := Chain(tr, id, at)
	var got []int
	for _, h := range chain {
		s, _ := state.At(tr.States, h.Thread, at)
		if s.State != h.State || s.Span != h.Span {
			t.Fatal(h)
		}
		got = append(got, h.Thread)
	}
	if err != api.OK || !slices.Equal(got, want) || circle != isMember {
		t.Fatal(tr.States, id, at, got, want, circle, isMember)
	}
}
