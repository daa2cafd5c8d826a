package log

import (
	"math"
	"math/rand"
	"slices"
	"testing"

	"tracebook/api"
	"tracebook/event"
)

func head() api.Head {
	return api.Head{Threads: []api.Thread{{Id: 5, Name: "a"}, {Id: 2, Name: "b"}}, Domains: []api.Domain{{}, {Id: 1}}}
}

// of returns a packet of n events; the reading of an event is its serial.
func of(thread, serial, lost, n int) api.Packet {
	p := api.Packet{Thread: thread, Serial: serial, Lost: lost}
	for i := range n {
		p.Events = append(p.Events, api.Event{At: max(serial, 0) + i, Kind: api.KEnd})
	}
	return p
}

func TestOfErrors(t *testing.T) {
	late := of(5, 0, 0, 1)
	late.Events[0].At = 100
	var many []api.Packet
	for i := range 21 {
		many = append(many, of(5, 1000*i, 0, 1000))
	}
	for i, c := range []struct {
		h   api.Head
		l   []api.Packet
		err api.Errno
	}{
		{api.Head{}, nil, api.ErrShort}, {head(), nil, api.OK},
		{head(), []api.Packet{{Thread: 9}}, api.ErrShort}, {head(), []api.Packet{of(9, 0, 0, 1)}, api.ErrNone},
		{head(), []api.Packet{of(5, 3, 3, 1)}, api.OK}, {head(), []api.Packet{of(5, 3, 2, 1)}, api.ErrOrder},
		{head(), []api.Packet{of(5, 0, 0, 2), of(2, 2, 0, 1)}, api.ErrOrder}, {head(), []api.Packet{of(5, 0, 0, 2), of(5, 3, 0, 1)}, api.ErrOrder},
		{head(), []api.Packet{of(5, 0, 0, 2), of(5, 1, 0, 1)}, api.ErrOrder}, {head(), []api.Packet{of(5, 0, 0, 2), of(5, 3, 1, 1)}, api.OK},
		{head(), []api.Packet{late, of(5, 1, 0, 1)}, api.ErrOrder},
		{head(), many, api.ErrLong}, {head(), many[:20], api.OK}, {head(), append(many[:20:20], of(5, 0, 0, 1)), api.ErrOrder},
	} {
		l, err := Of(c.h, c.l)
		if err != c.err || err != api.OK && !Same(l, api.Log{}) || err == api.OK && Check(l) != api.OK {
			t.Error(i, err)
		}
	}
}

func TestParts(t *testing.T) {
	l, err := Of(head(), []api.Packet{of(5, 0, 0, 2), of(2, 0, 0, 1), of(5, 2, 0, 2)})
	if err != api.OK || len(l.Parts) != 2 || len(l.Parts[0].Events) != 4 || l.Parts[1].Thread != 2 {
		t.Error(l, err)
	}
	l, _ = Of(head(), []api.Packet{of(5, 0, 0, 999), of(5, 999, 0, 3), of(5, 1002, 0, 1000), of(5, 2004, 2, 1)})
	var sizes []int
	for _, p := range l.Parts {
		sizes = append(sizes, p.Serial, p.Lost, len(p.Events))
	}
	if !slices.Equal(sizes, []int{0, 0, 1000, 1000, 0, 1000, 2000, 0, 2, 2004, 2, 1}) {
		t.Error(sizes)
	}
}

// Readings of consecutive packets can be equal.
func TestEqualReadings(t *testing.T) {
	next := of(5, 1, 0, 1)
	next.Events[0].At = 0
	if l, err := Of(head(), []api.Packet{of(5, 0, 0, 1), next}); err != api.OK || len(l.Parts) != 1 {
		t.Error(l, err)
	}
}

func TestCheck(t *testing.T) {
	good, _ := Of(head(), []api.Packet{of(5, 2, 2, 3), of(2, 0, 0, 1)})
	split := api.Log{Head: head(), Parts: []api.Packet{of(5, 0, 0, 1), of(5, 1, 0, 1)}}
	for i, c := range []struct {
		l   api.Log
		err api.Errno
	}{
		{good, api.OK}, {api.Log{}, api.ErrShort}, {split, api.ErrForm},
		{api.Log{Head: head(), Parts: []api.Packet{good.Parts[1], good.Parts[0]}}, api.ErrForm},
		{api.Log{Head: head(), Parts: []api.Packet{{}}}, api.ErrShort},
		{api.Log{Head: head(), Parts: []api.Packet{of(5, 2, 1, 3)}}, api.ErrOrder},
		{api.Log{Head: head()}, api.OK},
	} {
		if err := Check(c.l); err != c.err {
			t.Error(i, err)
		}
		if c.err == api.OK {
			continue
		}
		if _, ok := Get(c.l, api.Id{Thread: 5}); ok || len(Gaps(c.l)) != 0 || len(Ids(c.l)) != 0 {
			t.Error(i)
		}
	}
}

func TestExamples(t *testing.T) {
	l, _ := Of(head(), []api.Packet{of(2, 3, 3, 1), of(5, 0, 0, 1), of(5, 3, 2, 2)})
	if g := Gaps(l); !slices.Equal(g, []api.Gap{{Thread: 5, Serial: 1, Count: 2}, {Thread: 2, Serial: 0, Count: 3}}) {
		t.Error(g)
	}
	if ids := Ids(l); !slices.Equal(ids, []api.Id{{Thread: 5, Serial: 0}, {Thread: 5, Serial: 3}, {Thread: 5, Serial: 4}, {Thread: 2, Serial: 3}}) {
		t.Error(ids)
	}
	for _, id := range Ids(l) {
		if e, ok := Get(l, id); !ok || e.At != id.Serial {
			t.Error(id, e)
		}
	}
	for _, id := range []api.Id{{Thread: 5, Serial: 1}, {Thread: 5, Serial: 5}, {Thread: 5, Serial: -1}, {Thread: 2, Serial: 2}, {Thread: 1, Serial: 0}, {Thread: 5, Serial: math.MinInt}} {
		if e, ok := Get(l, id); ok || !event.Same(e, api.Event{}) {
			t.Error(id)
		}
	}
}

// TestDivision divides and interleaves the same events in two ways, and merges them in several steps.
func TestDivision(t *testing.T) {
	r := rand.New(rand.NewSource(1))
	for range 200 {
		type run struct{ thread, serial, lost, n int }
		var runs []run
		next := map[int]int{}
		for range 1 + r.Intn(6) {
			id, lost, n := []int{5, 2}[r.Intn(2)], r.Intn(3)*r.Intn(2), 1+r.Intn(1500)*r.Intn(2)
			runs = append(runs, run{id, next[id] + lost, lost, n})
			next[id] += lost + n
		}
		divided := func() []api.Packet {
			var l []api.Packet
			for _, x := range runs {
				for x.n > 0 {
					n := min(1+r.Intn(1000), x.n)
					l = append(l, of(x.thread, x.serial, x.lost, n))
					x.serial, x.lost, x.n = x.serial+n, 0, x.n-n
				}
			}
			if r.Intn(2) == 0 {
				slices.SortStableFunc(l, func(a, b api.Packet) int { return a.Thread - b.Thread })
			}
			return l
		}
		a, err := Of(head(), divided())
		l := divided()
		b, other := Of(head(), l)
		if err != api.OK || other != api.OK || !Same(a, b) || Check(a) != api.OK {
			t.Fatal(err, other)
		}
		cut := r.Intn(len(l) + 1)
		first, _ := Of(head(), l[:cut])
		snap := api.Snap{A: 1, B: 0}
		merged, err := Merge(first, []api.Snap{snap}, l[cut:])
		want := a
		want.Head.Snaps = []api.Snap{snap}
		if err != api.OK || !Same(merged, want) || Same(merged, a) {
			t.Fatal("merged", err)
		}
		checkAccounting(t, a, next)
	}
}

// checkAccounting checks that the serials of events and gaps are all numbers up to the last event.
func checkAccounting(t *testing.T, l api.Log, next map[int]int) {
	seen := map[api.Id]bool{}
	ids := Ids(l)
	for _, g := range Gaps(l) {
		for i := range g.Count {
			ids = append(ids, api.Id{Thread: g.Thread, Serial: g.Serial + i})
		}
	}
	for _, id := range ids {
		if seen[id] || id.Serial < 0 || id.Serial >= next[id.Thread] {
			t.Fatal(id)
		}
		seen[id] = true
	}
	if len(seen) != next[5]+next[2] {
		t.Fatal(len(seen), next)
	}
}

func TestMergeErrors(t *testing.T) {
	a, _ := Of(head(), []api.Packet{of(5, 0, 0, 2)})
	for i, c := range []struct {
		snaps []api.Snap
		l     []api.Packet
		err   api.Errno
	}{{make([]api.Snap, 201), []api.Packet{{}}, api.ErrLong}, {[]api.Snap{{}}, nil, api.ErrArg}, {nil, []api.Packet{of(5, 0, 0, 2)}, api.ErrOrder}, {nil, []api.Packet{of(5, 2, 0, 2)}, api.OK}} {
		if l, err := Merge(a, c.snaps, c.l); err != c.err || err != api.OK && !Same(l, api.Log{}) {
			t.Error(i, err)
		}
	}
	if len(a.Parts[0].Events) != 2 {
		t.Error("the argument was changed")
	}
}

func TestSame(t *testing.T) {
	a, _ := Of(head(), []api.Packet{of(5, 0, 0, 2)})
	for i, change := range []func(l *api.Log){
		func(l *api.Log) { l.Head.Threads = l.Head.Threads[:1] },
		func(l *api.Log) { l.Head.Domains = l.Head.Domains[:1] },
		func(l *api.Log) { l.Head.Snaps = []api.Snap{{}} },
		func(l *api.Log) { l.Parts = nil },
		func(l *api.Log) { l.Parts = []api.Packet{of(5, 0, 0, 3)} },
	} {
		b := a
		change(&b)
		if Same(a, b) || Same(b, a) || !Same(b, b) {
			t.Error(i)
		}
	}
	empty := a
	empty.Head.Snaps = []api.Snap{}
	if !Same(a, empty) {
		t.Error("nil and empty")
	}
}
