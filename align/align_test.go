package align

import (
	"math/rand"
	"slices"
	"testing"

	"tracebook/api"
	"tracebook/bound"
	"tracebook/causal"
	"tracebook/event"
	"tracebook/log"
)

func send(at, n int) api.Event { return api.Event{At: at, Kind: api.KSend, N: n} }
func recv(at, n int) api.Event { return api.Event{At: at, Kind: api.KRecv, N: n} }
func end(at int) api.Event     { return api.Event{At: at, Kind: api.KEnd} }

func snap(a, at, b, lo, hi int) api.Snap {
	return api.Snap{A: a, AtA: at, B: b, AtB: api.Interval{Lo: lo, Hi: hi}}
}

// of returns the log of threads with these domains and events.
func of(t *testing.T, ppm int, snaps []api.Snap, domains []int, threads ...[]api.Event) api.Log {
	t.Helper()
	h := api.Head{Domains: []api.Domain{{}, {Id: 1, Ppm: ppm}, {Id: 2, Ppm: 50}}, Snaps: snaps}
	var packets []api.Packet
	for i, d := range domains {
		h.Threads = append(h.Threads, api.Thread{Id: i + 1, Name: "t", Domain: d})
		if len(threads[i]) > 0 {
			packets = append(packets, api.Packet{Thread: i + 1, Events: threads[i]})
		}
	}
	l, err := log.Of(h, packets)
	if err != api.OK {
		t.Fatal(err)
	}
	return l
}

func TestExamples(t *testing.T) {
	one := []api.Snap{snap(1, 1000, 0, 5000, 5010)}
	l := of(t, 100, one, []int{1}, []api.Event{end(1001000)})
	for _, f := range []func(api.Log) ([]api.Timed, api.Errno){Raw, Tight} {
		if got, err := f(l); err != api.OK || len(got) != 1 || got[0].When != (api.Interval{Lo: 1004900, Hi: 1005110}) || got[0].Id != (api.Id{Thread: 1}) || !Solid(got) {
			t.Error(got, err)
		}
	}
	// A send at 10 of the reference; the receipt has the raw bounds 5 to 20.
	late := []api.Snap{snap(1, 3, 0, 5, 20)}
	l = of(t, 0, late, []int{0, 1}, []api.Event{send(10, 7)}, []api.Event{recv(3, 7)})
	raw, _ := Raw(l)
	tight, err := Tight(l)
	if raw[1].When != (api.Interval{Lo: 5, Hi: 20}) || err != api.OK || tight[1].When != (api.Interval{Lo: 10, Hi: 20}) || tight[0].When != (api.Interval{Lo: 10, Hi: 10}) {
		t.Error(raw, tight, err)
	}
	l = of(t, 0, []api.Snap{snap(1, 0, 0, 0, 8)}, []int{0, 1}, []api.Event{send(10, 7)}, []api.Event{recv(1, 7)})
	raw, err = Raw(l)
	if err != api.OK || raw[1].When != (api.Interval{Lo: 1, Hi: 9}) {
		t.Error(raw, err)
	}
	if tight, err := Tight(l); err != api.ErrCause || len(tight) != 0 {
		t.Error(tight, err)
	}
}

func TestErrors(t *testing.T) {
	contradiction := []api.Snap{snap(1, 0, 0, 5, 5), snap(1, 10, 0, 50, 50)}
	for i, c := range []struct {
		l   api.Log
		err api.Errno
	}{
		{api.Log{}, api.ErrShort},
		{of(t, 0, nil, []int{0, 1}, []api.Event{end(1)}, nil), api.OK},
		{of(t, 0, nil, []int{0, 1}, []api.Event{end(1)}, []api.Event{end(1)}), api.ErrClock},
		{of(t, 0, contradiction, []int{0}, []api.Event{end(1)}), api.ErrClock},
		{of(t, 0, contradiction, []int{0}, nil), api.OK},
		{of(t, 0, contradiction, []int{0}, []api.Event{recv(1, 7), send(2, 7)}), api.ErrCause},
		{of(t, 0, nil, []int{1}, []api.Event{send(1, 7), send(2, 7)}), api.ErrTwice},
	} {
		if l, err := Raw(c.l); err != c.err || err != api.OK && len(l) > 0 {
			t.Error(i, err)
		}
		if l, err := Tight(c.l); err != c.err || err != api.OK && len(l) > 0 {
			t.Error(i, err)
		}
	}
	if l, err := Raw(of(t, 0, nil, []int{0}, nil)); len(l) != 0 || err != api.OK {
		t.Error(l, err)
	}
}

func randomLog(t *testing.T, r *rand.Rand) api.Log {
	domains := []int{r.Intn(3), r.Intn(3), r.Intn(3)}
	var snaps []api.Snap
	for _, d := range []int{1, 2} {
		for range 1 + r.Intn(2) {
			now := r.Intn(60)
			snaps = append(snaps, snap(d, now, 0, max(0, now-r.Intn(20)), now+r.Intn(20)))
		}
	}
	flow := 0
	var threads [][]api.Event
	for range domains {
		at := r.Intn(30)
		l := make([]api.Event, r.Intn(5))
		for i := range l {
			at += r.Intn(10)
			l[i] = end(at)
			switch r.Intn(3) {
			case 0:
				l[i] = send(at, flow)
				flow++
			case 1:
				l[i] = recv(at, r.Intn(6))
			}
		}
		threads = append(threads, l)
	}
	return of(t, 100*r.Intn(2), snaps, domains, threads...)
}

// tightByDefinition computes tight bounds with causal.Before.
func tightByDefinition(l api.Log, raw []api.Timed) ([]api.Timed, bool) {
	tight := slices.Clone(raw)
	ok := true
	for i := range tight {
		for j := range raw {
			if before, _ := causal.Before(l, raw[j].Id, raw[i].Id); before {
				tight[i].When.Lo = max(tight[i].When.Lo, raw[j].When.Lo)
				tight[j].When.Hi = min(tight[j].When.Hi, raw[i].When.Hi)
			}
		}
	}
	for _, x := range tight {
		ok = ok && x.When.Lo <= x.When.Hi
	}
	return tight, ok
}

func same(a, b api.Timed) bool {
	return a.Id == b.Id && a.When == b.When && event.Same(a.Event, b.Event)
}

func TestDefinition(t *testing.T) {
	r := rand.New(rand.NewSource(1))
	accepted := 0
	for range 1500 {
		l := randomLog(t, r)
		raw, err := Raw(l)
		tight, tightErr := Tight(l)
		if err != api.OK {
			if tightErr != err {
				t.Fatal(err, tightErr)
			}
			continue
		}
		checkRaw(t, l, raw)
		want, ok := tightByDefinition(l, raw)
		if !ok {
			if tightErr != api.ErrCause {
				t.Fatal(l, tightErr)
			}
			continue
		}
		accepted++
		if tightErr != api.OK || !slices.EqualFunc(tight, want, same) || !Solid(tight) || !Solid(raw) {
			t.Fatal(l, tight, want, tightErr)
		}
		checkNarrower(t, r, l, tight)
	}
	if accepted < 300 {
		t.Error("few logs", accepted)
	}
}

func checkRaw(t *testing.T, l api.Log, raw []api.Timed) {
	ids := log.Ids(l)
	if len(ids) != len(raw) {
		t.Fatal(len(raw))
	}
	for i, x := range raw {
		e, _ := log.Get(l, ids[i])
		k := slices.IndexFunc(l.Head.Threads, func(t api.Thread) bool { return t.Id == ids[i].Thread })
		domain := l.Head.Threads[k].Domain
		when, err := bound.Of(l.Head.Domains, l.Head.Snaps, domain, e.At)
		if x.Id != ids[i] || !event.Same(x.Event, e) || x.When != when || err != api.OK {
			t.Fatal(x, when, err)
		}
		if domain == 0 && x.When != (api.Interval{Lo: e.At, Hi: e.At}) {
			t.Fatal("reference", x)
		}
	}
}

// checkNarrower checks that a further snapshot does not widen bounds.
func checkNarrower(t *testing.T, r *rand.Rand, l api.Log, tight []api.Timed) {
	now := r.Intn(60)
	more, err := log.Merge(l, []api.Snap{snap(1, now, 0, max(0, now-r.Intn(20)), now+r.Intn(20))}, nil)
	if err != api.OK {
		t.Fatal(err)
	}
	narrow, err := Tight(more)
	for i, x := range narrow {
		if err == api.OK && (x.When.Lo < tight[i].When.Lo || x.When.Hi > tight[i].When.Hi) {
			t.Fatal(x, tight[i])
		}
	}
}

func TestSolid(t *testing.T) {
	good := api.Timed{When: api.Interval{Lo: 3, Hi: 3}}
	if !Solid(nil) || !Solid([]api.Timed{good}) || Solid([]api.Timed{good, {When: api.Interval{Lo: 4, Hi: 3}}}) || Solid([]api.Timed{{When: api.Interval{Hi: api.MaxInt + 1}}}) {
		t.Error("Solid")
	}
}
