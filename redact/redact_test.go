package redact

import (
	"math/rand"
	"slices"
	"strings"
	"testing"

	"tracebook/api"
	"tracebook/slice"
	"tracebook/state"
	"tracebook/trace"
)

// rules returns rules of texts such as "slice a drop"; an empty prefix is written as *.
func rules(l ...string) []api.Rule {
	var r []api.Rule
	for _, s := range l {
		f := strings.Fields(s)
		r = append(r, api.Rule{What: f[0], Prefix: strings.Trim(f[1], "*"), Action: f[2]})
	}
	return r
}

func TestCheck(t *testing.T) {
	for i, c := range []struct {
		l   []api.Rule
		err api.Errno
	}{
		{nil, api.OK}, {rules("thread a keep", "slice * hide", "frame b drop", "counter * drop"), api.OK}, {slices.Repeat(rules("thread a keep"), 40), api.OK}, {slices.Repeat(rules("x a keep"), 41), api.ErrLong},
		{rules("threads a keep"), api.ErrArg}, {append(rules("thread * keep"), api.Rule{}), api.ErrArg}, {rules("thread a kept"), api.ErrArg}, {[]api.Rule{{}}, api.ErrArg}, {[]api.Rule{{What: "thread", Prefix: " "}}, api.ErrArg}, {[]api.Rule{{What: "thread", Prefix: " ", Action: "keep"}}, api.ErrName}, {[]api.Rule{{What: "thread", Prefix: strings.Repeat("a", 41), Action: "keep"}, {}}, api.ErrName},
	} {
		if err := Check(c.l); err != c.err {
			t.Error(i, err)
		}
		if c.err == api.OK {
			continue
		}
		if l, err := Names(c.l, "x", []string{""}); len(l) != 0 || err != c.err {
			t.Error(i, err)
		}
		if tr, err := Trace(c.l, api.Trace{Threads: []api.Thread{{}}}); !trace.Same(tr, api.Trace{}) || err != c.err {
			t.Error(i, err)
		}
	}
}

func TestAction(t *testing.T) {
	l := rules("slice a keep", "slice * drop", "frame b hide", "frame bb drop")
	for _, c := range [][3]string{{"slice", "ab", "keep"}, {"slice", "b", "drop"}, {"slice", "", "drop"}, {"frame", "b", "hide"}, {"frame", "bb", "hide"}, {"frame", "a", "keep"}, {"thread", "b", "keep"}, {"x", "b", "keep"}} {
		if got := Action(l, c[0], c[1]); got != c[2] {
			t.Error(c, got)
		}
	}
	if Action([]api.Rule{{What: "x", Action: "y"}}, "x", "z") != "y" || Action(nil, "", "") != "keep" {
		t.Error("any arguments")
	}
}

func TestNames(t *testing.T) {
	for i, c := range []struct {
		l    []api.Rule
		s    string
		want string
		err  api.Errno
	}{
		{rules("frame w hide"), "writer main worker writer", "hidden-1 main hidden-2 hidden-1", api.OK}, {rules("frame w drop"), "writer main", "main", api.OK}, {nil, "a b a", "a b a", api.OK}, {nil, "", "", api.OK}, {rules("thread * hide"), "a b", "a b", api.OK},
		{rules("frame w hide"), "hidden-5 main", "hidden-5 main", api.OK}, {rules("frame w hide"), "hidden-x w", "", api.ErrTwice}, {rules("frame w hide", "frame hidden drop"), "hidden-1 w", "hidden-1", api.OK}, {rules("frame * hide"), "hidden-7 w", "hidden-1 hidden-2", api.OK}, {rules("frame w drop"), "hidden-5 w", "hidden-5", api.OK},
		{rules("frame w hide"), "hidden-x w \x01", "", api.ErrName},
	} {
		got, err := Names(c.l, "frame", strings.Fields(c.s))
		if strings.Join(got, " ") != c.want || err != c.err {
			t.Error(i, got, err)
		}
	}
	if l, err := Names(nil, "frames", []string{""}); len(l) != 0 || err != api.ErrArg {
		t.Error(err)
	}
}

func sliceOf(thread, parent, depth int, name string, from, to, self int) api.Slice {
	return api.Slice{Thread: thread, Parent: parent, Depth: depth, Name: name, Span: api.Span{From: from, To: to}, Self: self}
}

func stateOf(thread, state, from, to, on, by int) api.State {
	s := api.State{Thread: thread, State: state, Span: api.Span{From: from, To: to}, Cpu: -1, On: on, By: by}
	if state == api.Running {
		s.Cpu = 0
	}
	return s
}

func TestExamples(t *testing.T) {
	one := []api.Thread{{Id: 1, Name: "t"}}
	tr := api.Trace{Span: api.Span{To: 10}, Threads: one, Slices: []api.Slice{sliceOf(1, -1, 0, "a", 0, 10, 4), sliceOf(1, 0, 1, "b", 2, 8, 4), sliceOf(1, 1, 2, "c", 3, 5, 2)}}
	got, err := Trace(rules("slice b drop"), tr)
	if !slices.Equal(got.Slices, []api.Slice{sliceOf(1, -1, 0, "a", 0, 10, 8), sliceOf(1, 0, 1, "c", 3, 5, 2)}) || err != api.OK {
		t.Error(got, err)
	}
	two := []api.Thread{{Id: 1, Name: "t"}, {Id: 2, Name: "u"}}
	tr = api.Trace{Span: api.Span{To: 6}, Threads: two, States: []api.State{stateOf(1, api.Running, 0, 2, -1, -1), stateOf(1, api.Asleep, 2, 4, -1, 2), stateOf(1, api.Blocked, 4, 6, 2, -1), stateOf(2, api.Unknown, 0, 6, -1, -1)}}
	got, err = Trace(rules("thread u drop"), tr)
	if !slices.Equal(got.States, []api.State{stateOf(1, api.Running, 0, 2, -1, -1), stateOf(1, api.Asleep, 2, 6, -1, -1)}) || err != api.OK {
		t.Error(got, err)
	}
	tr = api.Trace{Span: api.Span{To: 6}, Steps: []api.Step{{Name: "a", At: 1, Value: 1}, {Name: "zz", At: 0, Value: 2}, {Name: "zz", At: 3, Value: 4}}}
	got, err = Trace(rules("counter z hide", "counter * keep"), tr)
	if !slices.Equal(got.Steps, []api.Step{{Name: "a", At: 1, Value: 1}, {Name: "hidden-1", At: 0, Value: 2}, {Name: "hidden-1", At: 3, Value: 4}}) || err != api.OK {
		t.Error(got, err)
	}
	// The names after the policy have another order.
	got, err = Trace(rules("counter a hide"), tr)
	if got.Steps[0].Name != "hidden-1" || got.Steps[2].Name != "zz" || tr.Steps[0].Name != "a" || err != api.OK {
		t.Error(got, tr, err)
	}
}

// full returns a trace with everything in it.
func full() api.Trace {
	return api.Trace{
		Span: api.Span{To: 20}, Threads: []api.Thread{{Id: 1, Name: "main"}, {Id: 2, Name: "worker"}, {Id: 3, Name: "writer"}},
		Slices:  []api.Slice{sliceOf(1, -1, 0, "a", 0, 10, 6), sliceOf(2, -1, 0, "b", 0, 9, 9), sliceOf(1, 0, 1, "b", 2, 6, 4)},
		States:  []api.State{stateOf(1, api.Blocked, 0, 5, 2, 3), stateOf(1, api.Blocked, 5, 9, 3, 2), stateOf(1, api.Ready, 9, 20, -1, -1), stateOf(2, api.Running, 0, 20, -1, -1), stateOf(3, api.Asleep, 0, 20, -1, 2)},
		Flows:   []api.Flow{{Id: 1, From: api.Id{Thread: 1}, To: api.Id{Thread: 3}, Recv: 2}, {Id: 2, From: api.Id{Thread: 2}, To: api.Id{Thread: 3}, Recv: 3}, {Id: 3, From: api.Id{Thread: 3}, To: api.Id{Thread: 1}, Recv: 4}},
		Samples: []api.Sample{{Thread: 1, At: 1, Weight: 1, Stack: []string{"m", "x", "m"}}, {Thread: 2, At: 2, Weight: 1, Stack: []string{"y"}}},
		Steps:   []api.Step{{Name: "c", At: 9, Value: 1}, {Name: "d", At: 1, Value: 2}},
		Blocks:  []api.Block{{Id: 1, Thread: 3, Size: 1, Span: api.Span{To: 10}, Stack: []string{"x", "z"}}, {Id: 2, Thread: 2, Size: 1, Span: api.Span{To: 10}}},
		Lost:    []api.Loss{{Thread: 2, Span: api.Span{To: 99}, Count: 1}, {Thread: 1, Span: api.Span{To: 99}, Count: 1}},
	}
}

func TestThreads(t *testing.T) {
	before := full()
	got, err := Trace(rules("thread worker drop", "thread w hide"), before)
	want := api.Trace{
		Span: api.Span{To: 20}, Threads: []api.Thread{{Id: 1, Name: "main"}, {Id: 3, Name: "hidden-1"}},
		Slices:  []api.Slice{sliceOf(1, -1, 0, "a", 0, 10, 6), sliceOf(1, 0, 1, "b", 2, 6, 4)},
		States:  []api.State{stateOf(1, api.Asleep, 0, 5, -1, 3), stateOf(1, api.Blocked, 5, 9, 3, -1), stateOf(1, api.Ready, 9, 20, -1, -1), stateOf(3, api.Asleep, 0, 20, -1, -1)},
		Flows:   []api.Flow{full().Flows[0], full().Flows[2]},
		Samples: full().Samples[:1], Steps: full().Steps, Blocks: full().Blocks[:1], Lost: full().Lost[1:],
	}
	if !trace.Same(got, want) || err != api.OK || trace.Check(got) != api.OK || !trace.Same(before, full()) {
		t.Error(got, err)
	}
	got, err = Trace(rules("thread * drop", "counter * drop"), full())
	if !trace.Same(got, api.Trace{}) || err != api.OK {
		t.Error(got, err)
	}
	got, err = Trace(nil, api.Trace{Span: api.Span{To: 5}, Threads: full().Threads})
	if got.Span != (api.Span{}) || len(got.Threads) != 3 || err != api.OK {
		t.Error(got, err)
	}
}

func TestFrames(t *testing.T) {
	got, err := Trace(rules("frame m drop", "frame x keep", "frame * hide"), full())
	if err != api.OK || !slices.Equal(got.Samples[0].Stack, []string{"x"}) || !slices.Equal(got.Samples[1].Stack, []string{"hidden-1"}) || !slices.Equal(got.Blocks[0].Stack, []string{"x", "hidden-2"}) || len(got.Blocks[1].Stack) != 0 {
		t.Error(got.Samples, got.Blocks, err)
	}
	got, err = Trace(rules("frame * drop"), full())
	if err != api.OK || len(got.Samples) != 2 || len(got.Samples[0].Stack) != 0 || len(got.Blocks) != 2 {
		t.Error(got, err)
	}
}

func TestErrors(t *testing.T) {
	bad := full()
	bad.Threads[0].Name = ""
	if got, err := Trace(rules("slice a hide"), bad); err != api.ErrName || !trace.Same(got, api.Trace{}) {
		t.Error(err)
	}
	like := full()
	like.Threads[2].Name = "hidden-7"
	for s, want := range map[string]api.Errno{"thread w hide": api.ErrTwice, "thread main hide": api.ErrTwice, "thread * hide": api.OK, "slice a hide": api.OK, "thread hidden hide": api.OK, "thread w drop": api.OK} {
		if got, err := Trace(rules(s), like); err != want || err != api.OK && !trace.Same(got, api.Trace{}) {
			t.Error(s, err)
		}
	}
	// Names that are dropped, also with their thread, do not count.
	if _, err := Trace(rules("thread hidden drop", "thread w hide"), like); err != api.OK {
		t.Error(err)
	}
	stack := full()
	stack.Samples[1].Stack[0] = "hidden-x"
	if _, err := Trace(rules("frame m hide"), stack); err != api.ErrTwice {
		t.Error(err)
	}
	if _, err := Trace(rules("frame m hide", "thread worker drop"), stack); err != api.OK {
		t.Error(err)
	}
}

func TestClean(t *testing.T) {
	for s, want := range map[string]bool{"thread x hide": true, "thread m hide": false, "slice b drop": false, "slice c drop": true, "frame z hide": false, "frame y hide": false, "counter d drop": false, "counter e drop": true} {
		if Clean(rules(s), full()) != want {
			t.Error(s)
		}
	}
	for name, want := range map[string]bool{"hidden-1": true, "hidden-10": true, "hidden-99999999999999999999999": true, "hidden-0": false, "hidden-01": false, "hidden-": false, "hidden": false, "hidden-1x": false, "xhidden-1": false, "hidden-x": false} {
		tr := api.Trace{Steps: []api.Step{{Name: name}}}
		if Clean(rules("counter * hide"), tr) != want || !Clean(rules("counter * keep"), tr) || Clean([]api.Rule{{What: "counter", Action: "?"}}, tr) != want {
			t.Error(name)
		}
	}
}

func TestRandom(t *testing.T) {
	r := rand.New(rand.NewSource(1))
	for range 3000 {
		var l []api.Rule
		for range r.Intn(5) {
			l = append(l, api.Rule{What: []string{"thread", "slice", "frame", "counter"}[r.Intn(4)], Prefix: []string{"", "w", "a", "b", "m", "c", "x", "wo"}[r.Intn(8)], Action: []string{"keep", "hide", "drop"}[r.Intn(3)]})
		}
		tr := full()
		got, err := Trace(l, tr)
		if err != api.OK || trace.Check(got) != api.OK || !Clean(l, got) {
			t.Fatal(l, got, err, trace.Check(got))
		}
		if len(l) == 0 && !trace.Same(got, tr) {
			t.Fatal("without rules", got)
		}
		checkStructure(t, l, tr, got)
	}
}

// checkStructure checks the nesting of slices and the times of states that remain.
func checkStructure(t *testing.T, l []api.Rule, tr, got api.Trace) {
	for _, x := range got.Threads {
		for at := range 20 {
			var want []string
			for _, name := range slice.Path(tr.Slices, slice.At(tr.Slices, x.Id, at)) {
				if Action(l, "slice", name) != "drop" {
					want = append(want, Action(l, "slice", name))
				}
			}
			path := slice.Path(got.Slices, slice.At(got.Slices, x.Id, at))
			a, _ := state.At(tr.States, x.Id, at)
			b, ok := state.At(got.States, x.Id, at)
			if a.State == api.Blocked && b.State == api.Asleep {
				a.State, a.On = api.Asleep, -1
			}
			if len(path) != len(want) || !ok || a.State != b.State || a.On != b.On || a.Cpu != b.Cpu {
				t.Fatal(l, got, x, at, path, want)
			}
			for i, action := range want {
				if action == "hide" != isHidden(path[i]) {
					t.Fatal(path, want)
				}
			}
		}
	}
}
