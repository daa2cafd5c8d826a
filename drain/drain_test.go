package drain

import (
	"math"
	"math/rand"
	"slices"
	"testing"

	"tracebook/api"
	"tracebook/event"
	"tracebook/packet"
)

func threads(ids ...int) []api.Thread {
	var l []api.Thread
	for _, id := range ids {
		l = append(l, api.Thread{Id: id, Name: "t"})
	}
	return l
}

// of returns a packet of n events that begin at a reading.
func of(thread, serial, lost, at, n int) api.Packet {
	p := api.Packet{Thread: thread, Serial: serial, Lost: lost}
	for i := range n {
		p.Events = append(p.Events, api.Event{At: at + i, Kind: api.KEnd})
	}
	return p
}

func equal(a, b api.Service) bool {
	return slices.Equal(a.Threads, b.Threads) && slices.Equal(a.Next, b.Next) && slices.EqualFunc(a.Queue, b.Queue, packet.Same)
}

func TestNew(t *testing.T) {
	var many []int
	for i := range 65 {
		many = append(many, i)
	}
	for i, c := range []struct {
		l   []api.Thread
		err api.Errno
	}{{nil, api.ErrShort}, {threads(many...), api.ErrLong}, {threads(many[:64]...), api.OK}, {threads(1, 2, 1), api.ErrTwice}, {threads(1, -2, 1), api.ErrRange}, {append(threads(1, 1), api.Thread{Id: -1}), api.ErrTwice}, {[]api.Thread{{}}, api.ErrName}} {
		s, err := New(c.l)
		if err != c.err || err != api.OK && !equal(s, api.Service{}) {
			t.Error(i, s, err)
		}
		if check := Check(api.Service{Threads: c.l, Next: make([]int, len(c.l))}); check != c.err {
			t.Error(i, check)
		}
		if err == api.OK && (Check(s) != api.OK || len(s.Next) != len(c.l) || len(s.Queue) != 0) {
			t.Error(i, s)
		}
	}
}

func TestCheck(t *testing.T) {
	for i, c := range []struct {
		s   api.Service
		err api.Errno
	}{
		{api.Service{Threads: threads(1, 2), Next: []int{0}}, api.ErrForm},
		{api.Service{Threads: threads(1), Next: []int{-1}}, api.ErrForm},
		{api.Service{Threads: threads(1), Next: []int{api.MaxInt + 1}}, api.ErrForm},
		{api.Service{Threads: threads(1), Next: []int{api.MaxInt}}, api.OK},
		{api.Service{Threads: threads(1), Next: []int{2}, Queue: []api.Packet{of(1, 0, 0, 0, 2)}}, api.OK},
		{api.Service{Threads: threads(1), Next: []int{3}, Queue: []api.Packet{of(1, 0, 0, 0, 2)}}, api.ErrForm},
		{api.Service{Threads: threads(1), Next: []int{2}, Queue: []api.Packet{of(2, 0, 0, 0, 2)}}, api.ErrForm},
		{api.Service{Threads: threads(1), Next: []int{0}, Queue: []api.Packet{of(1, 0, 0, 0, 0)}}, api.ErrForm},
		{api.Service{Threads: threads(1, 2), Next: []int{7, 3}, Queue: []api.Packet{of(1, 2, 0, 0, 1), of(2, 1, 1, 0, 2), of(1, 5, 2, 0, 2)}}, api.OK},
		{api.Service{Threads: threads(1, 2), Next: []int{7, 3}, Queue: []api.Packet{of(1, 2, 0, 0, 1), of(2, 1, 1, 0, 2), of(1, 5, 1, 0, 2)}}, api.ErrForm},
		{api.Service{Threads: threads(1, 1), Next: []int{-1}}, api.ErrTwice},
	} {
		if err := Check(c.s); err != c.err {
			t.Error(i, err)
		}
		if c.err == api.OK {
			continue
		}
		s, err := Collect(c.s, api.Packet{})
		if err != c.err || !equal(s, c.s) {
			t.Error(i, err)
		}
		l, s := Flush(c.s)
		if n, err := Expect(c.s, 1); len(l) != 0 || !equal(s, c.s) || n != 0 || err != c.err {
			t.Error(i, err)
		}
	}
}

func collect(t *testing.T, s api.Service, l ...api.Packet) api.Service {
	t.Helper()
	for _, p := range l {
		next, err := Collect(s, p)
		if err != api.OK {
			t.Fatal(p, err)
		}
		s = next
	}
	return s
}

func TestCollectErrors(t *testing.T) {
	s, _ := New(threads(1, 2))
	s = collect(t, s, of(1, 3, 3, 0, 2))
	for i, c := range []struct {
		p   api.Packet
		err api.Errno
	}{
		{api.Packet{Thread: 3}, api.ErrShort}, {of(3, 0, 0, 0, 1), api.ErrNone},
		{of(1, 3, 3, 0, 2), api.ErrTwice}, {of(1, 4, 0, 0, 2), api.ErrTwice},
		{of(1, 6, 0, 0, 2), api.ErrOrder}, {of(1, 6, 2, 0, 2), api.ErrOrder}, {of(2, 1, 0, 0, 2), api.ErrOrder},
		{of(1, 7, 2, 0, 2), api.OK}, {of(1, 5, 0, 0, 2), api.OK}, {of(2, 0, 0, 0, 2), api.OK},
	} {
		after, err := Collect(s, c.p)
		if err != c.err || err != api.OK && !equal(after, s) {
			t.Error(i, err)
		}
		if n, _ := Expect(after, c.p.Thread); err == api.OK && n != end(c.p) {
			t.Error(i, n)
		}
		if _, again := Collect(after, c.p); err == api.OK && again != api.ErrTwice {
			t.Error(i, again)
		}
	}
	if n, err := Expect(s, 3); n != 0 || err != api.ErrNone {
		t.Error(n, err)
	}
	if _, err := Expect(s, math.MinInt); err != api.ErrNone {
		t.Error(err)
	}
}

func TestFull(t *testing.T) {
	s, _ := New(threads(1))
	for i := range 20 {
		if i == 19 {
			if after, err := Collect(s, of(1, 19000, 0, 0, 1000)); err != api.OK || Check(after) != api.OK {
				t.Error(err)
			}
			s = collect(t, s, of(1, 19000, 0, 0, 1))
			if _, err := Collect(s, of(1, 19001, 0, 0, 1000)); err != api.ErrFull {
				t.Error(err)
			}
			return
		}
		s = collect(t, s, of(1, 1000*i, 0, 0, 1000))
	}
}

func TestExamples(t *testing.T) {
	s, _ := New(threads(1, 2))
	s = collect(t, s, of(2, 0, 0, 5, 2), of(1, 0, 0, 0, 1), of(2, 2, 0, 9, 1))
	l, after := Flush(s)
	if len(l) != 2 || l[0].Thread != 1 || len(l[1].Events) != 3 || len(after.Queue) != 0 {
		t.Error(l)
	}
	if n, err := Expect(after, 2); n != 3 || err != api.OK {
		t.Error(n, err)
	}
	if _, err := Collect(after, of(2, 2, 0, 9, 1)); err != api.ErrTwice {
		t.Error(err)
	}
	after = collect(t, after, of(2, 5, 2, 9, 1))
	if l, _ := Flush(after); len(l) != 1 || l[0].Lost != 2 {
		t.Error(l)
	}
	decreasing := collect(t, s, of(2, 3, 0, 1, 1))
	if l, _ := Flush(decreasing); len(l) != 3 {
		t.Error(l)
	}
}

// TestFlush follows the events of three threads through flushes, with two ways to interleave the threads.
func TestFlush(t *testing.T) {
	r := rand.New(rand.NewSource(1))
	for range 300 {
		s, _ := New(threads(5, 3, 9))
		for range 3 {
			var l []api.Packet
			next := map[int]int{}
			for _, id := range []int{5, 3, 9} {
				next[id], _ = Expect(s, id)
			}
			for range r.Intn(8) {
				id := []int{5, 3, 9}[r.Intn(3)]
				lost := r.Intn(2) * r.Intn(3)
				p := of(id, next[id]+lost, lost, r.Intn(3), 1+r.Intn(3)*r.Intn(300))
				next[id] = end(p)
				l = append(l, p)
			}
			after := collect(t, s, l...)
			packets, empty := Flush(after)
			checkFlush(t, l, packets)
			slices.SortStableFunc(l, func(a, b api.Packet) int { return a.Thread - b.Thread })
			if other, _ := Flush(collect(t, s, l...)); !slices.EqualFunc(other, packets, packet.Same) {
				t.Fatal("the order matters")
			}
			if Check(after) != api.OK || Check(empty) != api.OK || !slices.Equal(empty.Next, after.Next) {
				t.Fatal("Check")
			}
			s = empty
		}
	}
}

// checkFlush compares the events of each thread, and how many were lost.
func checkFlush(t *testing.T, l, packets []api.Packet) {
	type numbered struct {
		thread, serial int
	}
	events := map[numbered]api.Event{}
	lost := 0
	for _, p := range l {
		lost += p.Lost
		for i, e := range p.Events {
			events[numbered{p.Thread, p.Serial + i}] = e
		}
	}
	for i, p := range packets {
		lost -= p.Lost
		for j, e := range p.Events {
			key := numbered{p.Thread, p.Serial + j}
			if want, ok := events[key]; !ok || !event.Same(e, want) {
				t.Fatal("event", key)
			}
			delete(events, key)
		}
		if i == 0 {
			continue
		}
		if _, ok := packet.Join(packets[i-1], p); ok || packets[i-1].Thread == p.Thread && p.Serial != end(packets[i-1])+p.Lost {
			t.Fatal("adjacent packets")
		}
	}
	if lost != 0 || len(events) != 0 {
		t.Fatal(lost, len(events))
	}
}
