package chrome

import (
	"math/rand"
	"slices"
	"strings"
	"testing"

	"tracebook/api"
	"tracebook/event"
	"tracebook/json"
	"tracebook/log"
)

// objects has an object of each kind, as Export writes it, with its event.
var objects = []struct {
	s string
	e api.Event
}{
	{`{"ph":"B","tid":3,"name":"a","ts":5}`, api.Event{At: 5, Kind: api.KBegin, Name: "a"}},
	{`{"ph":"E","tid":3,"ts":5}`, api.Event{At: 5, Kind: api.KEnd}},
	{`{"ph":"i","tid":3,"name":"a","ts":5}`, api.Event{At: 5, Kind: api.KMark, Name: "a"}},
	{`{"ph":"C","tid":3,"name":"a","ts":5,"value":-7}`, api.Event{At: 5, Kind: api.KCount, Name: "a", N: -7}},
	{`{"ph":"P","tid":3,"ts":5,"stack":["a","b"],"weight":2}`, api.Event{At: 5, Kind: api.KSample, N: 2, Stack: []string{"a", "b"}}},
	{`{"ph":"P","tid":3,"ts":5,"stack":[],"weight":2}`, api.Event{At: 5, Kind: api.KSample, N: 2}},
	{`{"ph":"s","tid":3,"ts":5,"id":8}`, api.Event{At: 5, Kind: api.KSend, N: 8}},
	{`{"ph":"f","tid":3,"ts":5,"id":8}`, api.Event{At: 5, Kind: api.KRecv, N: 8}},
	{`{"ph":"R","tid":3,"ts":5,"cpu":8}`, api.Event{At: 5, Kind: api.KRun, N: 8}},
	{`{"ph":"S","tid":3,"ts":5,"state":1}`, api.Event{At: 5, Kind: api.KStop, N: 1}},
	{`{"ph":"S","tid":3,"ts":5,"state":2,"on":0}`, api.Event{At: 5, Kind: api.KStop, N: 2}},
	{`{"ph":"S","tid":3,"ts":5,"state":2,"on":9}`, api.Event{At: 5, Kind: api.KStop, N: 2, M: 9}},
	{`{"ph":"W","tid":3,"ts":5,"wakes":9}`, api.Event{At: 5, Kind: api.KWake, N: 9}},
	{`{"ph":"N","tid":3,"ts":5,"id":1,"size":64,"stack":["a"]}`, api.Event{At: 5, Kind: api.KAlloc, N: 1, M: 64, Stack: []string{"a"}}},
	{`{"ph":"D","tid":3,"ts":5,"id":1}`, api.Event{At: 5, Kind: api.KFree, N: 1}},
}

func parse(t *testing.T, s string) api.Json {
	j, _, err := json.Parse(s)
	if err != api.OK {
		t.Fatal(s, err)
	}
	return j
}

func TestEvent(t *testing.T) {
	for _, o := range objects {
		j := parse(t, o.s)
		if thread, e, err := Event(j); thread != 3 || !event.Same(e, o.e) || err != api.OK {
			t.Error(o.s, thread, e, err)
		}
		if got, _ := json.Print(eventObject(3, o.e)); got != o.s {
			t.Error(got, o.s)
		}
		reversed := api.Json{Op: api.JObject, Keys: slices.Clone(j.Keys), Kids: slices.Clone(j.Kids)}
		slices.Reverse(reversed.Keys)
		slices.Reverse(reversed.Kids)
		if _, e, err := Event(reversed); !event.Same(e, o.e) || err != api.OK {
			t.Error("in another order", o.s, err)
		}
		for i := range j.Keys {
			missing := api.Json{Op: api.JObject, Keys: slices.Delete(slices.Clone(j.Keys), i, i+1), Kids: slices.Delete(slices.Clone(j.Kids), i, i+1)}
			other := api.Json{Op: api.JObject, Keys: j.Keys, Kids: slices.Clone(j.Kids)}
			other.Kids[i] = api.Json{Op: api.JNull}
			for _, bad := range []api.Json{missing, other} {
				if thread, e, err := Event(bad); thread != 0 || !event.Same(e, api.Event{}) || err != api.ErrForm {
					t.Error(o.s, j.Keys[i], err)
				}
			}
		}
		further := api.Json{Op: api.JObject, Keys: append(slices.Clip(j.Keys), "x"), Kids: append(slices.Clip(j.Kids), api.Json{Op: api.JNull})}
		if _, _, err := Event(further); err != api.ErrForm {
			t.Error("a further key", o.s, err)
		}
	}
}

func TestThreads(t *testing.T) {
	for _, id := range []int{0, api.MaxInt} {
		if got, _, err := Event(eventObject(id, api.Event{Kind: api.KEnd})); got != id || err != api.OK {
			t.Error(id, got, err)
		}
	}
}

// A text of MaxText bytes is exported.
func TestLongest(t *testing.T) {
	l := api.Log{Head: api.Head{Threads: []api.Thread{{Id: 3, Name: "y"}}, Domains: []api.Domain{{}}}, Parts: []api.Packet{{Thread: 3}}}
	add := func(n int) {
		l.Parts[0].Events = append(l.Parts[0].Events, api.Event{Kind: api.KMark, Name: strings.Repeat("x", n)})
	}
	mark := len(`,{"ph":"i","tid":3,"name":"","ts":0}`)
	rest := api.MaxText - len(`[{"ph":"M","tid":3,"name":"y"}]`)
	for ; rest >= 2*(mark+39); rest -= mark + 39 {
		add(39)
	}
	add(rest/2 - mark)
	add(rest - rest/2 - mark)
	if s, err := Export(l); len(s) != api.MaxText || err != api.OK {
		t.Error(len(s), err)
	}
	l.Parts[0].Events[0].Name += "x"
	if s, err := Export(l); s != "" || err != api.ErrLong {
		t.Error(len(s), err)
	}
}

func TestEventErrors(t *testing.T) {
	for s, want := range map[string]api.Errno{
		`1`: api.ErrForm, `[]`: api.ErrForm, `{}`: api.ErrForm, `null`: api.ErrForm,
		`{"ph":"M","tid":3,"name":"main"}`: api.ErrForm, `{"ph":"x","tid":3,"ts":5}`: api.ErrForm, `{"ph":"","tid":3,"ts":5}`: api.ErrForm,
		`{"ph":"E","tid":-1,"ts":5}`:                            api.ErrForm,
		`{"ph":"E","tid":3,"ts":9,"name":"a"}`:                  api.ErrForm,
		`{"ph":"S","tid":3,"ts":9,"state":1,"on":0}`:            api.ErrForm,
		`{"ph":"S","tid":3,"ts":9,"state":2}`:                   api.ErrForm,
		`{"ph":"S","tid":3,"ts":9,"state":4}`:                   api.ErrRange,
		`{"ph":"E","tid":3,"ts":-1}`:                            api.ErrRange,
		`{"ph":"B","tid":3,"ts":1,"name":""}`:                   api.ErrName,
		`{"ph":"P","tid":3,"ts":5,"stack":["a",1],"weight":2}`:  api.ErrForm,
		`{"ph":"P","tid":3,"ts":5,"stack":["a",""],"weight":2}`: api.ErrName,
		`{"ph":"P","tid":3,"ts":5,"stack":["a"],"weight":0}`:    api.ErrRange,
	} {
		if _, _, err := Event(parse(t, s)); err != want {
			t.Error(s, err)
		}
	}
	if _, _, err := Event(api.Json{Op: api.JObject, Keys: []string{"a", "a"}, Kids: make([]api.Json, 2)}); err != api.ErrTwice {
		t.Error(err)
	}
}

func TestImport(t *testing.T) {
	l, err := Import(`[{"ph":"M","tid":3,"name":"main"},{"ph":"B","tid":3,"name":"a","ts":5},{"ph":"E","tid":3,"ts":9}]`)
	if err != api.OK || len(l.Head.Threads) != 1 || l.Head.Threads[0] != (api.Thread{Id: 3, Name: "main"}) || len(l.Parts) != 1 || len(l.Parts[0].Events) != 2 {
		t.Error(l, err)
	}
	l, err = Import(` [{"ph":"E","tid":8,"ts":9},{"ph":"M","tid":2,"name":"x"},{"ph":"E","tid":5,"ts":1},{"ph":"M","tid":5,"name":"y"},{"ph":"E","tid":8,"ts":9}] `)
	if err != api.OK || !slices.Equal(l.Head.Threads, []api.Thread{{Id: 8, Name: "t8"}, {Id: 2, Name: "x"}, {Id: 5, Name: "y"}}) || !slices.Equal(l.Head.Domains, []api.Domain{{}}) || len(l.Head.Snaps) != 0 || len(log.Gaps(l)) != 0 || log.Check(l) != api.OK || len(l.Parts) != 2 {
		t.Error(l, err)
	}
	for s, want := range map[string]api.Errno{
		"[": api.ErrForm, "{}": api.ErrForm, "[]": api.ErrShort, "[1000000000000001]": api.ErrRange, strings.Repeat(" ", api.MaxText+1): api.ErrLong,
		`[{"ph":"E","tid":3,"ts":9,"name":"a"}]`: api.ErrForm, `[1]`: api.ErrForm, `[{"tid":1}]`: api.ErrForm,
		`[{"ph":"M","tid":3}]`: api.ErrForm, `[{"ph":"M","tid":-3,"name":"a"}]`: api.ErrForm, `[{"ph":"M","tid":3,"name":"a","ts":1}]`: api.ErrForm, `[{"ph":"M","tid":3,"name":1}]`: api.ErrForm,
		`[{"ph":"M","tid":3,"name":"a b"}]`:                                        api.ErrName,
		`[{"ph":"M","tid":3,"name":"a"},{"ph":"M","tid":3,"name":""}]`:             api.ErrName,
		`[{"ph":"M","tid":3,"name":"a"},{"ph":"M","tid":3,"name":"a"},1]`:          api.ErrTwice,
		`[{"ph":"E","tid":3,"ts":9},{"ph":"E","tid":3,"ts":8}]`:                    api.ErrOrder,
		`[{"ph":"E","tid":3,"ts":9},{"ph":"E","tid":4,"ts":8}]`:                    api.OK,
		`[{"ph":"E","tid":3,"ts":9},{"ph":"E","tid":3,"ts":8},{"ph":"i","tid":1}]`: api.ErrForm,
	} {
		if l, err := Import(s); err != want || err != api.OK && !log.Same(l, api.Log{}) {
			t.Error(s, err)
		}
	}
	if l, err := Import("[" + strings.Repeat(`{"ph":"E","tid":3,"ts":9},`, 2099) + `{"ph":"E","tid":3,"ts":9}]`); err != api.OK || len(l.Parts) != 3 {
		t.Error(err)
	}
}

func TestExport(t *testing.T) {
	h := api.Head{Threads: []api.Thread{{Id: 4, Name: "x"}, {Id: 3, Name: "y"}}, Domains: []api.Domain{{}}}
	l, _ := log.Of(h, []api.Packet{{Thread: 3, Events: []api.Event{{At: 1, Kind: api.KEnd}}}})
	if s, err := Export(l); s != `[{"ph":"M","tid":4,"name":"x"},{"ph":"M","tid":3,"name":"y"},{"ph":"E","tid":3,"ts":1}]` || err != api.OK {
		t.Error(s, err)
	}
	clocks, snaps, lost, thread := l, l, l, l
	clocks.Head.Domains = []api.Domain{{}, {Id: 1}}
	snaps.Head.Domains = clocks.Head.Domains
	snaps.Head.Snaps = []api.Snap{{A: 1}}
	lost.Parts = []api.Packet{{Thread: 3, Serial: 1, Lost: 1, Events: l.Parts[0].Events}}
	thread.Head.Threads = []api.Thread{{Id: 3, Name: "y", Domain: 1}}
	thread.Head.Domains = clocks.Head.Domains
	long := l
	long.Parts = []api.Packet{{Thread: 3}}
	for range 1000 {
		long.Parts[0].Events = append(long.Parts[0].Events, api.Event{At: 1, Kind: api.KMark, Name: strings.Repeat("x", 40)})
	}
	for i, c := range []struct {
		l   api.Log
		err api.Errno
	}{{api.Log{}, api.ErrShort}, {clocks, api.ErrClock}, {snaps, api.ErrClock}, {thread, api.ErrClock}, {lost, api.ErrArg}, {long, api.ErrLong}} {
		if s, err := Export(c.l); s != "" || err != c.err {
			t.Error(i, err)
		}
	}
	lost.Head = snaps.Head
	if _, err := Export(lost); err != api.ErrClock {
		t.Error(err)
	}
}

func TestRoundTrip(t *testing.T) {
	r := rand.New(rand.NewSource(1))
	for range 300 {
		h := api.Head{Domains: []api.Domain{{}}}
		var packets []api.Packet
		for id := range 1 + r.Intn(3) {
			h.Threads = append(h.Threads, api.Thread{Id: 7 - id, Name: "n" + string(rune('a'+id))})
			p := api.Packet{Thread: 7 - id}
			for range r.Intn(8) {
				p.Events = append(p.Events, objects[r.Intn(len(objects))].e)
			}
			if len(p.Events) > 0 {
				packets = append(packets, p)
			}
		}
		l, err := log.Of(h, packets)
		if err != api.OK {
			t.Fatal(err)
		}
		s, err := Export(l)
		if err != api.OK {
			t.Fatal(err)
		}
		if got, err := Import(s); err != api.OK || !log.Same(got, l) {
			t.Fatal(s, err)
		}
	}
}
