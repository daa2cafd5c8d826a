package audit

import (
	"math/rand"
	"slices"
	"testing"

	"tracebook/api"
	"tracebook/disk"
	"tracebook/file"
	"tracebook/flame"
	"tracebook/live"
	"tracebook/log"
	"tracebook/order"
	"tracebook/parse"
)

func head() api.Head {
	return api.Head{Threads: []api.Thread{{Id: 1, Name: "a"}, {Id: 2, Name: "b", Domain: 1}}, Domains: []api.Domain{{}, {Id: 1}}, Snaps: []api.Snap{{A: 1, AtA: 3, AtB: api.Interval{Lo: 3, Hi: 9}}}}
}

// of returns a packet of n events; the reading of an event is its serial.
func of(thread, serial, lost, n int) api.Packet {
	p := api.Packet{Thread: thread, Serial: serial, Lost: lost}
	for i := range n {
		p.Events = append(p.Events, api.Event{At: serial + i, Kind: api.KEnd})
	}
	return p
}

func written(n int) []api.Event { return of(1, 0, 0, n).Events }

func logOf(t *testing.T, l ...api.Packet) api.Log {
	t.Helper()
	x, err := log.Of(head(), l)
	if err != api.OK {
		t.Fatal(err)
	}
	return x
}

func TestAccount(t *testing.T) {
	l := logOf(t, of(1, 2, 2, 3), of(2, 0, 0, 4), of(1, 6, 1, 2))
	if events, lost, err := Account(l, 1); events != 5 || lost != 3 || err != api.OK {
		t.Error(events, lost, err)
	}
	if events, lost, err := Account(logOf(t, of(1, 2, 2, 3)), 2); events != 0 || lost != 0 || err != api.OK {
		t.Error(events, lost, err)
	}
	if events, lost, err := Account(l, 3); events != 0 || lost != 0 || err != api.ErrNone {
		t.Error(events, lost, err)
	}
	if _, _, err := Account(api.Log{}, 1); err != api.ErrShort {
		t.Error(err)
	}
}

func TestFaithful(t *testing.T) {
	l := logOf(t, of(1, 2, 2, 3), of(1, 6, 1, 2))
	other := written(9)
	other[3].At = 9
	missing := written(9)
	missing[1].At, missing[5].At = 77, 77 // these are in gaps
	both := logOf(t, of(1, 0, 0, 2), of(2, 0, 0, 3))
	for i, c := range []struct {
		l       api.Log
		thread  int
		written []api.Event
		want    bool
	}{{both, 2, written(3), true}, {both, 2, written(2), false}, {l, 1, written(8), true}, {l, 1, written(20), true}, {l, 1, written(7), false}, {l, 1, nil, false}, {l, 1, other, false}, {l, 1, missing, true}, {l, 2, nil, true}, {l, 3, nil, false}, {api.Log{}, 1, nil, false}} {
		if Faithful(c.l, c.thread, c.written) != c.want {
			t.Error(i)
		}
	}
}

func TestOrdered(t *testing.T) {
	r := rand.New(rand.NewSource(1))
	accepted := 0
	for range 300 {
		var packets []api.Packet
		for id := 1; id <= 2; id++ {
			p := of(id, r.Intn(2)*r.Intn(3), 0, r.Intn(6))
			p.Lost = p.Serial
			for i := range p.Events {
				if r.Intn(3) == 0 {
					p.Events[i] = api.Event{At: p.Events[i].At, Kind: []api.Kind{api.KSend, api.KRecv}[r.Intn(2)], N: r.Intn(3)}
				}
			}
			if len(p.Events) > 0 {
				packets = append(packets, p)
			}
		}
		l := logOf(t, packets...)
		_, err := order.Of(l)
		if Ordered(l) != err {
			t.Fatal(l, Ordered(l), err)
		}
		if err == api.OK {
			accepted++
		}
	}
	if accepted < 50 || Ordered(api.Log{}) != api.ErrShort {
		t.Error(accepted)
	}
}

func query(t *testing.T, s string) api.Query {
	q, _, err := parse.Query(s)
	if err != api.OK {
		t.Fatal(err)
	}
	return q
}

func TestViews(t *testing.T) {
	v, _ := live.New(head())
	for _, s := range []string{"from threads | sort id desc", "from states | group state: count() as n"} {
		v, _ = live.Watch(v, query(t, s))
	}
	if err := Views(v); err != api.ErrState {
		t.Error("never flushed", err)
	}
	_, flushed, _ := live.Flush(v)
	if err := Views(flushed); err != api.OK {
		t.Error(err)
	}
	fed, _ := live.Feed(flushed, nil, []api.Packet{of(1, 0, 0, 3)})
	if err := Views(fed); err != api.ErrState {
		t.Error("fed", err)
	}
	_, flushed, _ = live.Flush(fed)
	if err := Views(flushed); err != api.OK {
		t.Error(err)
	}
	changed := flushed
	changed.Views = slices.Clone(flushed.Views)
	changed.Views[0].Result.Rows = changed.Views[0].Result.Rows[:1]
	if err := Views(changed); err != api.ErrState {
		t.Error("changed", err)
	}
	slices.Reverse(changed.Views[1].Result.Rows)
	bad := flushed
	bad.Log.Head.Threads = nil
	if err := Views(bad); err != api.ErrShort {
		t.Error(err)
	}
	late, _ := live.Feed(flushed, nil, []api.Packet{{Thread: 1, Serial: 3, Events: []api.Event{{At: api.MaxTime, Kind: api.KEnd}}}})
	if err := Views(late); err != api.ErrRange {
		t.Error(err)
	}
}

func TestSums(t *testing.T) {
	r := rand.New(rand.NewSource(2))
	random := func() []api.Node {
		var l []api.Sample
		for range r.Intn(9) {
			x := api.Sample{Weight: 1 + r.Intn(20)}
			for range 1 + r.Intn(3) {
				x.Stack = append(x.Stack, string(rune('a'+r.Intn(3))))
			}
			l = append(l, x)
		}
		g, _ := flame.OfSamples(l)
		return g
	}
	for range 500 {
		if a, b := random(), random(); Sums(a, b) != api.OK {
			t.Fatal(a, b, Sums(a, b))
		}
	}
	good, bad := random(), []api.Node{{}}
	if Sums(bad, nil) != api.ErrName || Sums(good, bad) != api.ErrName {
		t.Error("errors of explain")
	}
	// The least common multiple of these counts is greater than MaxInt, so that the sum is not found.
	var a, b []api.Node
	for i, n := range []int{47, 53, 59, 61, 67, 71, 73, 79, 83} {
		name := string(rune('a' + i))
		a = append(a, api.Node{Parent: -1, Name: name, Self: 1, Total: 1, Count: n})
		b = append(b, api.Node{Parent: -1, Name: name, Self: 1, Total: 1, Count: n + 1})
	}
	if err := Sums(a, b); err != api.ErrForm {
		t.Error(err)
	}
}

func TestFile(t *testing.T) {
	d, _ := disk.New(10000)
	if n, err := File(d); n != 0 || err != api.ErrForm {
		t.Error(n, err)
	}
	d, _ = file.Create(d, head())
	if n, err := File(d); n != 0 || err != api.OK {
		t.Error(n, err)
	}
	d, _ = file.Append(d, nil, []api.Packet{of(1, 2, 2, 3), of(2, 0, 0, 4)})
	if n, err := File(d); n != 7 || err != api.OK {
		t.Error(n, err)
	}
	torn, down := d, d
	torn.Data, torn.Durable = torn.Data[:len(torn.Data)-1], 0
	down.Down = true
	for i, c := range []struct {
		d   api.Disk
		err api.Errno
	}{{torn, api.ErrForm}, {down, api.ErrDown}, {api.Disk{Down: true}, api.ErrRange}} {
		if n, err := File(c.d); n != 0 || err != c.err {
			t.Error(i, n, err)
		}
	}
}
