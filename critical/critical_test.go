package critical

import (
	"math"
	"math/rand"
	"slices"
	"testing"

	"tracebook/api"
	"tracebook/state"
)

func of(thread, state, from, to, by int) api.State {
	s := api.State{Thread: thread, State: state, Span: api.Span{From: from, To: to}, Cpu: -1, On: -1, By: by}
	switch state {
	case api.Running:
		s.Cpu = 0
	case api.Blocked:
		s.On = 9
	}
	return s
}

func traceOf(threads, end int, l ...api.State) api.Trace {
	t := api.Trace{Span: api.Span{To: end}, States: l}
	for i := range threads {
		t.Threads = append(t.Threads, api.Thread{Id: i + 1, Name: "t"})
	}
	return t
}

func hop(thread, state, from, to int) api.Hop {
	return api.Hop{Thread: thread, State: state, Span: api.Span{From: from, To: to}}
}

func example() api.Trace {
	return traceOf(2, 12, of(1, api.Running, 0, 5, -1), of(1, api.Blocked, 5, 9, 2), of(1, api.Ready, 9, 12, -1), of(2, api.Unknown, 0, 3, -1), of(2, api.Running, 3, 9, -1), of(2, api.Gone, 9, 12, -1))
}

// mutual has two threads that are blocked up to 6 and were woken by each other.
func mutual() api.Trace {
	return traceOf(2, 8, of(1, api.Running, 0, 3, -1), of(1, api.Blocked, 3, 6, 2), of(1, api.Ready, 6, 8, -1), of(2, api.Blocked, 0, 6, 1), of(2, api.Ready, 6, 8, -1))
}

func TestPath(t *testing.T) {
	span := func(from, to int) api.Span { return api.Span{From: from, To: to} }
	asleep := traceOf(1, 8, of(1, api.Asleep, 0, 6, 77), of(1, api.Ready, 6, 8, -1))
	bad := example()
	bad.Span.To = 3
	for i, c := range []struct {
		t      api.Trace
		thread int
		s      api.Span
		want   []api.Hop
		err    api.Errno
	}{
		{example(), 1, span(4, 9), []api.Hop{hop(2, api.Running, 4, 9)}, api.OK}, {example(), 1, span(0, 9), []api.Hop{hop(2, api.Unknown, 0, 3), hop(2, api.Running, 3, 9)}, api.OK},
		{example(), 1, span(2, 11), []api.Hop{hop(2, api.Unknown, 2, 3), hop(2, api.Running, 3, 9), hop(1, api.Ready, 9, 11)}, api.OK}, {example(), 1, span(2, 8), []api.Hop{hop(1, api.Running, 2, 5), hop(1, api.Blocked, 5, 8)}, api.OK}, {example(), 2, span(1, 5), []api.Hop{hop(2, api.Unknown, 1, 3), hop(2, api.Running, 3, 5)}, api.OK},
		{mutual(), 1, span(2, 6), []api.Hop{hop(2, api.Blocked, 2, 6)}, api.OK}, {mutual(), 1, span(2, 7), []api.Hop{hop(2, api.Blocked, 2, 6), hop(1, api.Ready, 6, 7)}, api.OK}, {mutual(), 2, span(0, 6), []api.Hop{hop(1, api.Running, 0, 3), hop(1, api.Blocked, 3, 6)}, api.OK},
		{asleep, 1, span(0, 8), []api.Hop{hop(1, api.Asleep, 0, 6), hop(1, api.Ready, 6, 8)}, api.OK},
		{bad, 9, span(0, 0), nil, api.ErrForm}, {example(), 9, span(0, 0), nil, api.ErrNone}, {example(), 1, span(3, 3), nil, api.ErrArg}, {example(), 1, span(-1, 3), nil, api.ErrArg}, {example(), 1, span(3, 13), nil, api.ErrArg}, {example(), 1, span(12, 13), nil, api.ErrArg}, {example(), 1, span(math.MinInt, math.MinInt), nil, api.ErrArg},
	} {
		got, err := Path(c.t, c.thread, c.s)
		if !slices.Equal(got, c.want) || err != c.err || Check(c.t, c.thread, c.s, got) != (err == api.OK) {
			t.Error(i, got, err)
		}
	}
}

func TestCheck(t *testing.T) {
	s := api.Span{From: 2, To: 11}
	good, _ := Path(example(), 1, s)
	for i, c := range []struct {
		l    []api.Hop
		want bool
	}{
		{good, true}, {nil, false}, {good[1:], false}, {good[:2], false},
		{[]api.Hop{hop(1, api.Running, 2, 5), hop(1, api.Blocked, 5, 9), hop(1, api.Ready, 9, 11)}, true}, {[]api.Hop{hop(1, api.Running, 2, 4), hop(1, api.Running, 4, 5), hop(1, api.Blocked, 5, 9), hop(1, api.Ready, 9, 11)}, true},
		{[]api.Hop{hop(1, api.Running, 2, 5), hop(1, api.Asleep, 5, 9), hop(1, api.Ready, 9, 11)}, false}, {[]api.Hop{hop(1, api.Running, 2, 9), hop(1, api.Ready, 9, 11)}, false},
		{[]api.Hop{hop(2, api.Unknown, 2, 3), hop(2, api.Running, 3, 8), hop(1, api.Blocked, 8, 9), hop(1, api.Ready, 9, 11)}, false}, {[]api.Hop{hop(2, api.Unknown, 2, 3), hop(2, api.Running, 3, 9), hop(2, api.Gone, 9, 11)}, false}, {[]api.Hop{hop(9, api.Running, 2, 11)}, false},
		{[]api.Hop{hop(2, api.Unknown, 2, 3), hop(2, api.Running, 3, 9), hop(1, api.Ready, 9, 12)}, false}, {[]api.Hop{hop(1, api.Ready, 11, 11)}, false},
	} {
		if Check(example(), 1, s, c.l) != c.want {
			t.Error(i)
		}
	}
	if Check(example(), 9, s, good) || Check(example(), 1, api.Span{}, nil) {
		t.Error("Path returns an error")
	}
	// From 1 one comes to 2 at 6, and from there back to 1.
	one := []api.Hop{hop(1, api.Running, 0, 3), hop(1, api.Blocked, 3, 6)}
	if !Check(mutual(), 1, api.Span{To: 6}, one) || !Check(mutual(), 2, api.Span{To: 6}, one) {
		t.Error("in a circle")
	}
}

func TestSums(t *testing.T) {
	l := []api.Hop{hop(2, 4, 0, 3), hop(1, 4, 3, 5), hop(2, 0, 5, 9), hop(2, 4, 9, 9), hop(3, 4, -1, 5)}
	if Total(l, 4) != 5 || Total(l, 0) != 4 || Total(l, 1) != 0 || Total(nil, 4) != 0 {
		t.Error(Total(l, 4))
	}
	if s := Shares(l); !slices.Equal(s, [][2]int{{1, 2}, {2, 7}}) || len(Shares(nil)) != 0 {
		t.Error(s)
	}
}

// randomTrace returns threads with random states, which end together.
func randomTrace(r *rand.Rand) api.Trace {
	n := 1 + r.Intn(4)
	var l []api.State
	for id := 1; id <= n; id++ {
		for from := 0; from < 20; {
			to := min(20, (from/4+1+r.Intn(3))*4)
			s := of(id, r.Intn(6), from, to, -1)
			if (s.State == api.Asleep || s.State == api.Blocked) && r.Intn(4) > 0 {
				s.By = 1 + r.Intn(5)
			}
			if k := len(l); k > 0 && l[k-1].Thread == id && l[k-1].State == s.State {
				s.State, s.Cpu, s.On, s.By = (s.State+1)%2, -1, -1, -1
			}
			l = append(l, s)
			from = to
		}
	}
	return traceOf(n, 20, l...)
}

// pathByDefinition follows the path step by step.
func pathByDefinition(t api.Trace, thread int, s api.Span) []api.Hop {
	var path []api.Hop
	visited := []int{thread}
	for x := s.To; x != s.From; {
		present, _ := state.At(t.States, thread, x-1)
		waits := (present.State == api.Asleep || present.State == api.Blocked) && present.Span.To == x
		if waits && isThread(t, present.By) && !slices.Contains(visited, present.By) {
			thread = present.By
			visited = append(visited, thread)
			continue
		}
		from := max(present.Span.From, s.From)
		path = append([]api.Hop{hop(thread, present.State, from, x)}, path...)
		x = from
		visited = []int{thread}
	}
	return path
}

func TestRandom(t *testing.T) {
	r := rand.New(rand.NewSource(1))
	for range 3000 {
		tr := randomTrace(r)
		thread := 1 + r.Intn(len(tr.Threads))
		s := api.Span{From: r.Intn(19)}
		s.To = s.From + 1 + r.Intn(20-s.From)
		path, err := Path(tr, thread, s)
		if err != api.OK || !slices.Equal(path, pathByDefinition(tr, thread, s)) || !Check(tr, thread, s, path) {
			t.Fatal(tr.States, thread, s, path, err)
		}
		sum, shares := 0, 0
		for state := range 6 {
			sum += Total(path, state)
		}
		for _, x := range Shares(path) {
			shares += x[1]
		}
		if sum != s.To-s.From || shares != sum {
			t.Fatal("sums", path)
		}
		for i := range tr.States {
			tr.States[i].By = -1
		}
		alone, _ := Path(tr, thread, s)
		for _, h := range alone {
			around, _ := state.At(tr.States, thread, h.Span.From)
			if h.Thread != thread || around.State != h.State || h.Span.From != max(around.Span.From, s.From) || h.Span.To != min(around.Span.To, s.To) {
				t.Fatal("alone", alone)
			}
		}
	}
}
