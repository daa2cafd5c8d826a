package live

import (
	"math/rand"
	"slices"
	"testing"

	"tracebook/api"
	"tracebook/delta"
	"tracebook/log"
	"tracebook/naive"
	"tracebook/parse"
	"tracebook/table"
	"tracebook/trace"
)

func head() api.Head {
	return api.Head{Threads: []api.Thread{{Id: 1, Name: "a"}, {Id: 2, Name: "b", Domain: 1}}, Domains: []api.Domain{{}, {Id: 1, Ppm: 100}}}
}

func query(t *testing.T, s string) api.Query {
	t.Helper()
	q, _, err := parse.Query(s)
	if err != api.OK {
		t.Fatal(s, err)
	}
	return q
}

func started(t *testing.T, queries ...string) api.Live {
	t.Helper()
	v, err := New(head())
	for _, s := range queries {
		if err != api.OK {
			t.Fatal(err)
		}
		v, err = Watch(v, query(t, s))
	}
	if err != api.OK {
		t.Fatal(err)
	}
	return v
}

func of(thread, serial int, l ...api.Event) api.Packet {
	return api.Packet{Thread: thread, Serial: serial, Events: l}
}

func slice(from, to int) []api.Event {
	return []api.Event{{At: from, Kind: api.KBegin, Name: "f"}, {At: to, Kind: api.KEnd}}
}

func TestExample(t *testing.T) {
	v := started(t, "from slices | select name as name")
	changes, v, err := Flush(v)
	if len(changes) != 1 || len(changes[0]) != 0 || err != api.OK {
		t.Error(changes, err)
	}
	v, err = Feed(v, nil, []api.Packet{of(1, 0, slice(2, 5)...)})
	if err != api.OK || len(v.Views[0].Result.Rows) != 0 {
		t.Error(v, err)
	}
	changes, v, err = Flush(v)
	if len(changes) != 1 || len(changes[0]) != 1 || changes[0][0].N != 1 || changes[0][0].Row[0].S != "f" || err != api.OK {
		t.Error(changes, err)
	}
	changes, _, err = Flush(v)
	if len(changes[0]) != 0 || err != api.OK {
		t.Error(changes, err)
	}
	if _, err := New(api.Head{}); err != api.ErrShort {
		t.Error(err)
	}
}

func same(a, b api.Live) bool {
	return log.Same(a.Log, b.Log) && slices.EqualFunc(a.Views, b.Views, func(x, y api.View) bool { return table.Same(x.Result, y.Result) })
}

func TestErrors(t *testing.T) {
	v := started(t, "from slices", "from threads | limit 1")
	bad := v
	bad.Log.Head.Threads = nil
	if _, err := Feed(v, []api.Snap{{}}, []api.Packet{{}}); err != api.ErrArg {
		t.Error(err)
	}
	if _, err := Feed(v, nil, []api.Packet{of(1, 1, slice(1, 2)...)}); err != api.ErrOrder {
		t.Error(err)
	}
	if _, err := Watch(v, query(t, "from z")); err != api.ErrTable {
		t.Error(err)
	}
	full := v
	full.Views = slices.Repeat(v.Views[:1], 8)
	if Check(full) != api.OK {
		t.Error(Check(full))
	}
	if w, err := Watch(full, query(t, "from z")); err != api.ErrLong || len(w.Views) > 0 {
		t.Error(err)
	}
	// An event of the thread 2 has no time as long as its clock is not linked.
	unlinked, err := Feed(v, nil, []api.Packet{of(2, 0, slice(1, 50)...)})
	if err != api.OK {
		t.Error(err)
	}
	changes, w, err := Flush(unlinked)
	if err != api.ErrClock || len(changes) > 0 || len(w.Views) > 0 {
		t.Error(err)
	}
	if tr, err := Trace(unlinked); err != api.ErrClock || !trace.Same(tr, api.Trace{}) {
		t.Error(err)
	}
	linked, err := Feed(unlinked, []api.Snap{{A: 1, AtA: 1, AtB: api.Interval{Lo: 5, Hi: 5}}}, nil)
	if changes, _, flushed := Flush(linked); err != api.OK || flushed != api.OK || len(changes[0]) != 1 {
		t.Error(err, flushed)
	}
	for i, f := range []func(api.Live) api.Errno{
		Check,
		func(v api.Live) api.Errno { w, err := Feed(v, nil, nil); return nothing(w, err) },
		func(v api.Live) api.Errno { w, err := Watch(v, api.Query{}); return nothing(w, err) },
		func(v api.Live) api.Errno { _, w, err := Flush(v); return nothing(w, err) },
		func(v api.Live) api.Errno { _, err := Trace(v); return err },
	} {
		if err := f(bad); err != api.ErrShort {
			t.Error(i, err)
		}
	}
}

// nothing returns an error if the result with it is zero.
func nothing(v api.Live, err api.Errno) api.Errno {
	if !same(v, api.Live{}) {
		return api.OK
	}
	return err
}

func TestCheck(t *testing.T) {
	row := func(n int) []api.Value { return []api.Value{{Kind: api.VInt, N: n}} }
	view := func() api.View {
		q := api.Query{From: "threads", Steps: []api.QStep{{Op: api.QSelect, Items: []api.Item{{E: api.Expr{Op: api.EField, Name: "id"}, As: "id"}}}}}
		return api.View{Query: q, Result: api.Table{Cols: []api.Column{{Name: "id", Type: api.VInt}}, Rows: [][]api.Value{row(1), row(1), row(2)}}}
	}
	for i, c := range []struct {
		change func(v *api.Live)
		err    api.Errno
	}{
		{func(v *api.Live) {}, api.OK}, {func(v *api.Live) { v.Log.Head.Domains = nil; v.Views = make([]api.View, 9) }, api.ErrShort}, {func(v *api.Live) { v.Views = make([]api.View, 9) }, api.ErrLong},
		{func(v *api.Live) { v.Views[0].Query.From = "z"; v.Views[0].Result.Cols = nil }, api.ErrTable}, {func(v *api.Live) { v.Views[0].Result.Cols = nil }, api.ErrForm}, {func(v *api.Live) { v.Views[0].Result.Rows[0][0].Kind = api.VText }, api.ErrType},
		{func(v *api.Live) { v.Views[0].Result.Cols[0].Name = "x" }, api.ErrForm}, {func(v *api.Live) { v.Views[0].Result.Rows[0] = row(5) }, api.ErrForm}, {func(v *api.Live) { v.Views[0].Result.Rows = nil }, api.OK},
	} {
		v := started(t)
		v.Views = []api.View{view()}
		c.change(&v)
		if err := Check(v); err != c.err {
			t.Error(i, err)
		}
	}
}

func randomPackets(r *rand.Rand) []api.Packet {
	at, serial := 0, 0
	var l []api.Packet
	for range r.Intn(5) {
		p := api.Packet{Thread: 1, Serial: serial + r.Intn(2)*r.Intn(3)}
		p.Lost = p.Serial - serial
		for range 1 + r.Intn(4) {
			at += r.Intn(4)
			p.Events = append(p.Events, []api.Event{{At: at, Kind: api.KBegin, Name: "f"}, {At: at, Kind: api.KEnd}, {At: at, Kind: api.KCount, Name: "c", N: r.Intn(3)}, {At: at, Kind: api.KRun, N: 1}}[r.Intn(4)])
		}
		serial = p.Serial + len(p.Events)
		l = append(l, p)
	}
	return l
}

var views = []string{"from slices | where open", "from states | group state: count() as n", "from counters | sort value desc | limit 2", "from slices | overlap losses | select thread as thread, from as from | limit 3", "from threads"}

// TestOffline compares live results with an offline analysis, and follows the changes.
func TestOffline(t *testing.T) {
	r := rand.New(rand.NewSource(1))
	for range 200 {
		v := started(t)
		results := make([]api.Table, len(views))
		for i, s := range views[:3] {
			if s != "" {
				v, _ = Watch(v, query(t, s))
				results[i] = api.Table{Cols: v.Views[i].Result.Cols}
			}
		}
		packets := randomPackets(r)
		for len(packets) > 0 {
			n := r.Intn(len(packets) + 1)
			fed, err := Feed(v, nil, packets[:n])
			if err != api.OK {
				t.Fatal(err)
			}
			v, packets = fed, packets[n:]
			if _, err := Feed(v, nil, []api.Packet{{}}); err == api.OK {
				t.Fatal("an error was expected")
			}
			if r.Intn(2) == 0 {
				v = checkFlush(t, v, results)
			}
			if len(v.Views) == 3 && r.Intn(3) == 0 {
				v, _ = Watch(v, query(t, views[4]))
				results[3] = api.Table{Cols: v.Views[3].Result.Cols}
			}
		}
		checkFlush(t, v, results)
	}
}

// checkFlush flushes, and applies the changes to the results before.
func checkFlush(t *testing.T, v api.Live, results []api.Table) api.Live {
	changes, after, err := Flush(v)
	if err != api.OK || Check(after) != api.OK || len(changes) != len(v.Views) {
		t.Fatal(err, Check(after))
	}
	tr, _ := Trace(after)
	want, err := trace.Of(v.Log)
	d, _ := table.Of(want)
	if err != api.OK || !trace.Same(tr, want) {
		t.Fatal(tr, want)
	}
	for i, x := range after.Views {
		results[i], err = delta.Apply(results[i], changes[i])
		if err != api.OK || !table.Same(results[i], x.Result) {
			t.Fatal("changes", changes[i], results[i], x.Result, err)
		}
		offline, _ := naive.Run(d, x.Query)
		if l, err := delta.Diff(offline, x.Result); len(l) > 0 || err != api.OK {
			t.Fatal("offline", x.Query, offline, x.Result)
		}
	}
	return after
}
