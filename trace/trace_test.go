package trace

import (
	"math"
	"math/rand"
	"slices"
	"testing"

	"tracebook/api"
	"tracebook/counter"
	"tracebook/flow"
	"tracebook/log"
	"tracebook/memory"
	"tracebook/order"
	"tracebook/sample"
	"tracebook/slice"
	"tracebook/state"
)

func head() api.Head {
	return api.Head{Threads: []api.Thread{{Id: 1, Name: "a"}, {Id: 2, Name: "b"}}, Domains: []api.Domain{{}}}
}

// randomPackets returns the packets of two threads, with gaps.
func randomPackets(r *rand.Rand) []api.Packet {
	var packets []api.Packet
	for id := 1; id <= 2; id++ {
		at, serial := 0, 0
		for range r.Intn(3) {
			lost := r.Intn(2) * r.Intn(3)
			p := api.Packet{Thread: id, Serial: serial + lost, Lost: lost}
			for range 1 + r.Intn(8) {
				at += r.Intn(4)
				p.Events = append(p.Events, randomEvent(r, id, at))
			}
			serial = p.Serial + len(p.Events)
			packets = append(packets, p)
		}
	}
	return packets
}

func randomEvent(r *rand.Rand, id, at int) api.Event {
	name := string(rune('a' + r.Intn(2)))
	switch r.Intn(11) {
	case 0, 1, 2:
		return api.Event{At: at, Kind: api.KBegin, Name: name}
	case 3, 4:
		return api.Event{At: at, Kind: api.KEnd}
	case 5:
		return api.Event{At: at, Kind: api.KCount, Name: name, N: r.Intn(3)}
	case 6:
		return api.Event{At: at, Kind: api.KSample, N: 1 + r.Intn(3), Stack: []string{"m", name}[:r.Intn(3)]}
	case 7:
		if id == 1 {
			return api.Event{At: at, Kind: api.KSend, N: at}
		}
		return api.Event{At: at, Kind: api.KRecv, N: at - r.Intn(at+1)}
	case 8:
		return api.Event{At: at, Kind: api.KStop, N: r.Intn(2)}
	case 9:
		return api.Event{At: at, Kind: api.KWake, N: 3 - id}
	}
	if r.Intn(2) == 0 {
		return api.Event{At: at, Kind: api.KFree, N: r.Intn(3)}
	}
	return api.Event{At: at, Kind: api.KAlloc, N: r.Intn(3), M: 1 + r.Intn(9)}
}

// randomTrace returns a log and its trace.
func randomTrace(t *testing.T, r *rand.Rand) (api.Log, api.Trace) {
	for {
		l, err := log.Of(head(), randomPackets(r))
		if err != api.OK {
			t.Fatal(err)
		}
		tr, err := Of(l)
		if err == api.OK {
			return l, tr
		}
		if err != api.ErrTwice && err != api.ErrCause {
			t.Fatal(err)
		}
	}
}

func TestOf(t *testing.T) {
	r := rand.New(rand.NewSource(1))
	for range 1000 {
		l, tr := randomTrace(t, r)
		o, _ := order.Of(l)
		end := 0
		if len(o) > 0 {
			end = o[len(o)-1].When.Lo + 1
		}
		want := api.Trace{Span: api.Span{To: end}, Threads: head().Threads, Slices: slice.Of(o, end), States: state.Of(head().Threads, o, end), Flows: flow.Of(o), Samples: sample.Of(o), Steps: counter.Of(o), Blocks: memory.Of(o, end), Lost: Losses(o)}
		if !Same(tr, want) || Check(tr) != api.OK {
			t.Fatal(l, tr, Check(tr))
		}
		lost := 0
		for _, g := range log.Gaps(l) {
			lost += g.Count
		}
		for _, x := range tr.Lost {
			lost -= x.Count
		}
		if lost != 0 {
			t.Fatal("losses", l, tr.Lost)
		}
		checkCut(t, r, tr)
	}
}

func TestOfErrors(t *testing.T) {
	at := func(at int) api.Log {
		return api.Log{Head: head(), Parts: []api.Packet{{Thread: 1, Events: []api.Event{{At: at, Kind: api.KEnd}}}}}
	}
	for i, c := range []struct {
		l   api.Log
		err api.Errno
	}{{api.Log{}, api.ErrShort}, {at(api.MaxTime), api.ErrRange}, {at(api.MaxTime - 1), api.OK}} {
		if tr, err := Of(c.l); err != c.err || err != api.OK && !Same(tr, api.Trace{}) {
			t.Error(i, err)
		}
	}
	if tr, err := Of(api.Log{Head: head()}); err != api.OK || tr.Span != (api.Span{}) || len(tr.Threads) != 2 || len(tr.States) != 0 {
		t.Error(tr, err)
	}
}

func TestExample(t *testing.T) {
	l := api.Log{Head: head(), Parts: []api.Packet{{Thread: 1, Events: []api.Event{{At: 2, Kind: api.KBegin, Name: "x"}, {At: 6, Kind: api.KEnd}}}}}
	tr, _ := Of(l)
	if tr.Span != (api.Span{To: 7}) || len(tr.Slices) != 1 || tr.Slices[0].Span != (api.Span{From: 2, To: 6}) {
		t.Error(tr)
	}
	cut, err := Cut(tr, api.Span{From: 3, To: 5})
	if err != api.OK || cut.Span != (api.Span{To: 2}) || len(cut.Slices) != 1 || cut.Slices[0].Span != (api.Span{To: 2}) || !cut.Slices[0].Open {
		t.Error(cut, err)
	}
	cut, err = Cut(tr, api.Span{From: 7, To: 9})
	if err != api.OK || !Same(cut, api.Trace{Threads: head().Threads}) {
		t.Error(cut, err)
	}
	for _, s := range []api.Span{{}, {From: 3, To: 3}, {From: -1, To: 3}, {From: 0, To: api.MaxTime + 1}} {
		if cut, err := Cut(tr, s); err != api.ErrArg || !Same(cut, api.Trace{}) {
			t.Error(s, err)
		}
	}
	tr.Span.To = 5
	if _, err := Cut(tr, api.Span{}); err != api.ErrForm {
		t.Error(err)
	}
}

func TestLosses(t *testing.T) {
	ev := func(thread, serial, at int) api.Timed {
		return api.Timed{Id: api.Id{Thread: thread, Serial: serial}, When: api.Interval{Lo: at, Hi: at}}
	}
	loss := func(thread, from, to, count int) api.Loss {
		return api.Loss{Thread: thread, Span: api.Span{From: from, To: to}, Count: count}
	}
	for i, c := range []struct {
		o    []api.Timed
		want []api.Loss
	}{
		{nil, nil}, {[]api.Timed{ev(1, 3, 0)}, []api.Loss{loss(1, 0, 1, 3)}}, {[]api.Timed{ev(1, 3, 5)}, []api.Loss{loss(1, 0, 5, 3)}},
		{[]api.Timed{ev(1, 0, 2), ev(2, 1, 3), ev(1, 1, 4), ev(1, 4, 9), ev(2, 3, 9)}, []api.Loss{loss(2, 0, 3, 1), loss(1, 4, 9, 2), loss(2, 3, 9, 1)}},
		{[]api.Timed{ev(1, 0, api.MaxTime), ev(1, 2, 2*api.MaxTime)}, []api.Loss{loss(1, api.MaxTime-1, api.MaxTime, 1)}},
		{[]api.Timed{ev(1, 0, 7), ev(1, 2, 7)}, []api.Loss{loss(1, 7, 8, 1)}},
		{[]api.Timed{ev(1, 0, -7), ev(1, 2, -2)}, []api.Loss{loss(1, 0, 1, 1)}},
		{[]api.Timed{ev(1, 0, 1), ev(1, 1, 2), ev(1, 0, 3), ev(1, 2, 4)}, []api.Loss{loss(1, 3, 4, 1)}},
	} {
		if l := Losses(c.o); !slices.Equal(l, c.want) {
			t.Error(i, l)
		}
	}
}

// checkCut compares what a cut trace shows at each time with the original.
func checkCut(t *testing.T, r *rand.Rand, tr api.Trace) {
	if whole, err := Cut(tr, api.Span{To: max(tr.Span.To, 1)}); err != api.OK || len(tr.Lost) == 0 && !Same(whole, tr) {
		t.Fatal("whole", tr, whole, err)
	}
	from := r.Intn(20)
	s := api.Span{From: from, To: from + 1 + r.Intn(20)}
	cut, err := Cut(tr, s)
	if err != api.OK || Check(cut) != api.OK || !slices.Equal(cut.Threads, tr.Threads) {
		t.Fatal(err, Check(cut))
	}
	common := api.Span{From: s.From, To: min(s.To, tr.Span.To)}
	if common.From >= common.To {
		if !Same(cut, api.Trace{Threads: tr.Threads}) {
			t.Fatal(cut)
		}
		return
	}
	if cut.Span != (api.Span{To: common.To - common.From}) {
		t.Fatal(cut.Span)
	}
	for at := common.From; at < common.To; at++ {
		compareAt(t, tr, cut, at, at-common.From)
	}
	checkEnds(t, tr, cut, common)
	inner := api.Span{From: r.Intn(5), To: 5 + r.Intn(5)}
	twice, _ := Cut(cut, inner)
	once, _ := Cut(tr, api.Span{From: common.From + inner.From, To: min(common.From+inner.To, common.To)})
	if common.From+inner.From < common.To && !Same(twice, once) {
		t.Fatal("twice", tr, twice, once)
	}
}

func compareAt(t *testing.T, tr, cut api.Trace, at, cutAt int) {
	for id := 1; id <= 2; id++ {
		if !slices.Equal(slice.Path(tr.Slices, slice.At(tr.Slices, id, at)), slice.Path(cut.Slices, slice.At(cut.Slices, id, cutAt))) {
			t.Fatal("slices", tr, cut, at)
		}
		a, _ := state.At(tr.States, id, at)
		b, _ := state.At(cut.States, id, cutAt)
		if a.State != b.State || a.Cpu != b.Cpu || a.On != b.On {
			t.Fatal("states", tr, cut, at)
		}
	}
	for _, name := range []string{"a", "b"} {
		v, ok := counter.At(tr.Steps, name, at)
		w, good := counter.At(cut.Steps, name, cutAt)
		if v != w || ok != good {
			t.Fatal("steps", tr.Steps, cut.Steps, at)
		}
	}
	if memory.Live(tr.Blocks, at) != memory.Live(cut.Blocks, cutAt) {
		t.Fatal("blocks", tr.Blocks, cut.Blocks)
	}
}

// checkEnds checks what is cut off, and what is left as it is.
func checkEnds(t *testing.T, tr, cut api.Trace, c api.Span) {
	meets := func(s api.Span) bool { return s.From < c.To && c.From < s.To }
	var states []api.State
	for _, s := range tr.States {
		if meets(s.Span) {
			if s.Span.To > c.To {
				s.By = -1
			}
			s.Span = api.Span{From: max(s.Span.From, c.From) - c.From, To: min(s.Span.To, c.To) - c.From}
			states = append(states, s)
		}
	}
	var blocks []api.Block
	for _, b := range tr.Blocks {
		if meets(b.Span) {
			b.Live = b.Live || b.Span.To > c.To
			b.Span = api.Span{From: max(b.Span.From, c.From) - c.From, To: min(b.Span.To, c.To) - c.From}
			blocks = append(blocks, b)
		}
	}
	open, slicesLeft := 0, 0
	for _, s := range tr.Slices {
		if meets(s.Span) {
			slicesLeft++
			if s.Open || s.Span.To > c.To {
				open++
			}
		}
	}
	for _, s := range cut.Slices {
		if s.Open {
			open--
		}
	}
	var flows []api.Flow
	for _, f := range tr.Flows {
		if f.Send >= c.From && f.Recv < c.To {
			f.Send, f.Recv = f.Send-c.From, f.Recv-c.From
			flows = append(flows, f)
		}
	}
	var losses []api.Loss
	for _, x := range tr.Lost {
		if meets(x.Span) {
			x.Span = api.Span{From: max(x.Span.From, c.From) - c.From, To: min(x.Span.To, c.To) - c.From}
			losses = append(losses, x)
		}
	}
	if !slices.Equal(cut.States, states) || !slices.EqualFunc(cut.Blocks, blocks, sameBlock) || open != 0 || slicesLeft != len(cut.Slices) || !slices.Equal(cut.Flows, flows) || !slices.Equal(cut.Lost, losses) || sample.Total(sample.Within(tr.Samples, c)) != sample.Total(cut.Samples) {
		t.Fatal(tr, cut)
	}
}

// full returns a trace with everything in it.
func full() api.Trace {
	return api.Trace{
		Span: api.Span{To: 10}, Threads: head().Threads,
		Slices:  []api.Slice{{Thread: 1, Parent: -1, Name: "x", Span: api.Span{To: 10}, Self: 10}},
		States:  []api.State{{Thread: 1, State: 5, Span: api.Span{To: 10}, Cpu: -1, On: -1, By: -1}, {Thread: 2, State: 5, Span: api.Span{To: 10}, Cpu: -1, On: -1, By: -1}},
		Flows:   []api.Flow{{Id: 1, From: api.Id{Thread: 1}, To: api.Id{Thread: 2}, Send: 0, Recv: 9}},
		Samples: []api.Sample{{Thread: 1, At: 9, Weight: 1, Stack: []string{"f"}}},
		Steps:   []api.Step{{Name: "c", At: 9, Value: 1}},
		Blocks:  []api.Block{{Id: 1, Thread: 2, Size: 1, Span: api.Span{To: 10}, Stack: []string{"f"}}},
		Lost:    []api.Loss{{Thread: 1, Span: api.Span{To: 99}, Count: 1}},
	}
}

func TestCheck(t *testing.T) {
	many := make([]api.Thread, 65)
	for i, c := range []struct {
		change func(t *api.Trace)
		err    api.Errno
	}{
		{func(t *api.Trace) {}, api.OK}, {func(t *api.Trace) { *t = api.Trace{} }, api.OK},
		{func(t *api.Trace) { t.Threads = many; t.Slices[0].Name = "" }, api.ErrLong}, {func(t *api.Trace) { t.Threads[1].Id = -1 }, api.ErrRange}, {func(t *api.Trace) { t.Threads[1].Id = 1 }, api.ErrTwice}, {func(t *api.Trace) { t.Threads[1].Name = "" }, api.ErrName},
		{func(t *api.Trace) { t.Slices[0].Thread = 9; t.Slices[0].Self = 3 }, api.ErrForm}, {func(t *api.Trace) { t.Slices[0].Thread = 9; t.States[0].Cpu = 5 }, api.ErrNone},
		{func(t *api.Trace) { t.States[0].Cpu = 5; t.Flows[0].Send = -1 }, api.ErrArg}, {func(t *api.Trace) { t.States = t.States[:1] }, api.ErrOrder},
		{func(t *api.Trace) { t.Flows[0].Send = -1; t.Flows[0].To.Thread = 9 }, api.ErrRange}, {func(t *api.Trace) { t.Flows[0].To.Thread = 9; t.Samples[0].Weight = 0 }, api.ErrNone}, {func(t *api.Trace) { t.Flows[0].From.Thread = 9 }, api.ErrNone},
		{func(t *api.Trace) { t.Samples[0].Weight = 0; t.Samples[0].Thread = 9 }, api.ErrRange}, {func(t *api.Trace) { t.Samples[0].Thread = 9; t.Steps[0].Name = "" }, api.ErrNone},
		{func(t *api.Trace) { t.Steps[0].Name = ""; t.Blocks[0].Thread = 9 }, api.ErrName},
		{func(t *api.Trace) { t.Blocks[0].Size = 0; t.Blocks[0].Thread = 9 }, api.ErrRange}, {func(t *api.Trace) { t.Blocks[0].Thread = 9; t.Lost[0].Count = 0 }, api.ErrNone},
		{func(t *api.Trace) { t.Lost[0].Thread = 9; t.Lost[0].Count = 0 }, api.ErrNone}, {func(t *api.Trace) { t.Lost[0].Count = 0; t.Span.To = 5 }, api.ErrRange}, {func(t *api.Trace) { t.Lost[0].Count = api.MaxInt + 1 }, api.ErrRange}, {func(t *api.Trace) { t.Lost[0].Count = api.MaxInt }, api.OK}, {func(t *api.Trace) { t.Lost[0].Span.To = 0 }, api.ErrRange},
		{func(t *api.Trace) { t.Span.From = -1 }, api.ErrRange}, {func(t *api.Trace) { t.Span = api.Span{From: 11, To: 10} }, api.ErrRange}, {func(t *api.Trace) { t.Span.To = api.MaxTime + 1 }, api.ErrRange}, {func(t *api.Trace) { t.Span = api.Span{From: math.MaxInt, To: math.MinInt} }, api.ErrRange},
		{func(t *api.Trace) { t.Span.To = 9 }, api.ErrForm}, {func(t *api.Trace) { t.Span.From = 1 }, api.ErrForm}, {func(t *api.Trace) { t.Span.To = api.MaxTime }, api.OK},
		{func(t *api.Trace) { t.Flows[0].Recv = 10 }, api.ErrForm}, {func(t *api.Trace) { t.Samples[0].At = 10 }, api.ErrForm}, {func(t *api.Trace) { t.Steps[0].At = 10 }, api.ErrForm}, {func(t *api.Trace) { t.Blocks[0].Span.To = 11 }, api.ErrForm}, {func(t *api.Trace) { t.Slices[0].Span.To, t.Slices[0].Self = 11, 11 }, api.ErrForm},
	} {
		tr := full()
		c.change(&tr)
		if err := Check(tr); err != c.err {
			t.Error(i, err)
		}
		if _, err := Cut(tr, api.Span{To: 1}); err != c.err {
			t.Error(i, err)
		}
	}
}

func TestSame(t *testing.T) {
	for i, change := range []func(t *api.Trace){
		func(t *api.Trace) { t.Span.To++ }, func(t *api.Trace) { t.Threads = nil }, func(t *api.Trace) { t.Slices[0].Open = true }, func(t *api.Trace) { t.States[0].By = 3 }, func(t *api.Trace) { t.Flows[0].Id = 7 }, func(t *api.Trace) { t.Samples[0].Stack = nil }, func(t *api.Trace) { t.Samples[0].At = 1 }, func(t *api.Trace) { t.Steps = nil }, func(t *api.Trace) { t.Blocks[0].Stack = []string{"g"} }, func(t *api.Trace) { t.Blocks[0].Live = true }, func(t *api.Trace) { t.Lost[0].Count = 2 },
	} {
		a, b := full(), full()
		change(&b)
		if Same(a, b) || Same(b, a) || !Same(b, b) {
			t.Error(i)
		}
	}
	for i, bad := range []api.Trace{{Threads: head().Threads, States: full().States}, {Threads: head().Threads, Blocks: full().Blocks}} {
		bad.Span.To = 9
		if Check(bad) != api.ErrForm {
			t.Error("beyond the span", i)
		}
	}
	if !Same(api.Trace{}, api.Trace{Threads: []api.Thread{}, Lost: []api.Loss{}}) {
		t.Error("nil and empty")
	}
}
