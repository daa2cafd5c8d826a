package causal

import (
	"math/rand"
	"slices"
	"testing"
	"time"

	"tracebook/api"
	"tracebook/log"
)

func send(at, n int) api.Event { return api.Event{At: at, Kind: api.KSend, N: n} }
func recv(at, n int) api.Event { return api.Event{At: at, Kind: api.KRecv, N: n} }
func end(at int) api.Event     { return api.Event{At: at, Kind: api.KEnd} }

func head(domains ...int) api.Head {
	h := api.Head{Domains: []api.Domain{{}, {Id: 1}}}
	for i, d := range domains {
		h.Threads = append(h.Threads, api.Thread{Id: 9 - i, Name: "t", Domain: d})
	}
	return h
}

func of(h api.Head, threads ...[]api.Event) api.Log {
	l := api.Log{Head: h}
	for i, events := range threads {
		if len(events) > 0 {
			l.Parts = append(l.Parts, api.Packet{Thread: h.Threads[i].Id, Events: events})
		}
	}
	return l
}

func id(thread, serial int) api.Id { return api.Id{Thread: thread, Serial: serial} }

// relation computes the transitive closure of the direct causes by their definition.
func relation(l api.Log) (map[[2]api.Id]bool, bool) {
	domains := map[int]int{}
	for _, t := range l.Head.Threads {
		domains[t.Id] = t.Domain
	}
	ids := log.Ids(l)
	before := map[[2]api.Id]bool{}
	for i, a := range ids {
		x, _ := log.Get(l, a)
		for j, b := range ids {
			y, _ := log.Get(l, b)
			next := j == i+1 && a.Thread == b.Thread
			flow := x.Kind == api.KSend && y.Kind == api.KRecv && x.N == y.N
			clock := a.Thread != b.Thread && domains[a.Thread] == domains[b.Thread] && y.At > x.At
			before[[2]api.Id{a, b}] = next || flow || clock
		}
	}
	for _, b := range ids {
		for _, a := range ids {
			for _, c := range ids {
				if before[[2]api.Id{a, b}] && before[[2]api.Id{b, c}] {
					before[[2]api.Id{a, c}] = true
				}
			}
		}
	}
	for _, a := range ids {
		if before[[2]api.Id{a, a}] {
			return before, false
		}
	}
	return before, true
}

func randomLog(r *rand.Rand) api.Log {
	h := head([][]int{{0, 0, 1}, {0, 1, 1}, {0, 0, 0}, {0, 1, 0}}[r.Intn(4)]...)
	var packets []api.Packet
	flow := 0
	for i := range 3 {
		p := api.Packet{Thread: h.Threads[i].Id, Events: make([]api.Event, 1+r.Intn(4))}
		at := r.Intn(4)
		for j := range p.Events {
			at += r.Intn(4)
			p.Events[j] = end(at)
			switch r.Intn(3) {
			case 0:
				p.Events[j] = send(at, flow)
				flow++
			case 1:
				p.Events[j] = recv(at, r.Intn(6))
			}
		}
		if r.Intn(4) == 0 {
			p.Lost, p.Serial = 2, 2
		}
		packets = append(packets, p)
	}
	l, _ := log.Of(h, packets)
	return l
}

func TestDefinition(t *testing.T) {
	r := rand.New(rand.NewSource(1))
	accepted := 0
	for range 1500 {
		l := randomLog(r)
		want, ok := relation(l)
		if err := Check(l); ok != (err == api.OK) || !ok && err != api.ErrCause {
			t.Fatal(l, ok, err)
		}
		checkEdges(t, l)
		ids := log.Ids(l)
		if !ok {
			if b, err := Before(l, ids[0], id(0, 99)); b || err != api.ErrCause {
				t.Fatal(err)
			}
			if _, err := Vector(l, id(0, 99)); err != api.ErrCause {
				t.Fatal(err)
			}
			continue
		}
		accepted++
		for i, b := range ids {
			vector, err := Vector(l, b)
			if err != api.OK || len(vector) != 3 {
				t.Fatal(vector, err)
			}
			for _, a := range ids {
				got, err := Before(l, a, b)
				inVector := a != b && vector[slices.IndexFunc(l.Head.Threads, func(t api.Thread) bool { return t.Id == a.Thread })] > a.Serial
				if got != want[[2]api.Id{a, b}] || err != api.OK || inVector != got {
					t.Fatal(l, a, b, got, vector)
				}
			}
			if i > 0 && ids[i-1].Thread == b.Thread {
				last, _ := Vector(l, ids[i-1])
				for k := range last {
					if last[k] > vector[k] {
						t.Fatal("a number decreases")
					}
				}
			}
		}
	}
	if accepted < 200 {
		t.Error("few logs", accepted)
	}
}

func checkEdges(t *testing.T, l api.Log) {
	var want []api.Edge
	ids := log.Ids(l)
	for i, a := range ids {
		x, _ := log.Get(l, a)
		for j, b := range ids {
			y, _ := log.Get(l, b)
			if j == i+1 && a.Thread == b.Thread || x.Kind == api.KSend && y.Kind == api.KRecv && x.N == y.N {
				want = append(want, api.Edge{From: a, To: b})
			}
		}
	}
	if got, err := Edges(l); err != api.OK || !slices.Equal(got, want) {
		t.Fatal(got, want, err)
	}
}

func TestExamples(t *testing.T) {
	for i, c := range []struct {
		l   api.Log
		err api.Errno
	}{
		{of(head(0, 0), []api.Event{send(10, 7)}, []api.Event{recv(5, 7)}), api.ErrCause},
		{of(head(0, 1), []api.Event{send(10, 7)}, []api.Event{recv(5, 7)}), api.OK},
		{of(head(0, 0), []api.Event{send(10, 7)}, []api.Event{recv(10, 7)}), api.OK},
		{of(head(0), []api.Event{recv(5, 7), send(5, 7)}), api.ErrCause},
		{of(head(0), []api.Event{send(5, 7), recv(5, 7)}), api.OK},
		{of(head(0, 1), []api.Event{send(5, 7)}, []api.Event{send(5, 7)}), api.ErrTwice},
		{api.Log{}, api.ErrShort},
		{of(head(0)), api.OK},
	} {
		if err := Check(c.l); err != c.err {
			t.Error(i, err)
		}
		_, err := Edges(c.l)
		if c.err == api.ErrCause && err != api.OK || c.err != api.ErrCause && err != c.err {
			t.Error(i, err)
		}
	}
	l := of(head(0), []api.Event{send(5, 7), recv(5, 7)})
	if edges, _ := Edges(l); len(edges) != 1 {
		t.Error("an edge by both rules", edges)
	}
	for _, pair := range [][2]api.Id{{id(9, 0), id(9, 2)}, {id(8, 0), id(9, 0)}, {id(9, -1), id(9, 0)}} {
		if b, err := Before(l, pair[0], pair[1]); b || err != api.ErrNone {
			t.Error(pair, err)
		}
	}
	if v, err := Vector(l, id(9, 2)); len(v) != 0 || err != api.ErrNone {
		t.Error(v, err)
	}
	if v, err := Vector(of(head(0, 1), nil, []api.Event{end(3)}), id(8, 0)); !slices.Equal(v, []int{0, 1}) || err != api.OK {
		t.Error(v, err)
	}
}

// A log with as many threads and events as there can be is examined in a short time.
func TestLarge(t *testing.T) {
	h := api.Head{Domains: []api.Domain{{}}}
	var packets []api.Packet
	for i := range 64 {
		h.Threads = append(h.Threads, api.Thread{Id: i, Name: "t"})
		p := api.Packet{Thread: i}
		for j := range 312 {
			p.Events = append(p.Events, end(64*j+i))
		}
		packets = append(packets, p)
	}
	l, err := log.Of(h, packets)
	start := time.Now()
	if v, other := Vector(l, id(63, 311)); err != api.OK || other != api.OK || v[0] != 312 {
		t.Error(err, other)
	}
	if time.Since(start) > 20*time.Second {
		t.Error("slow")
	}
}
