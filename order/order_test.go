package order

import (
	"math"
	"math/rand"
	"slices"
	"testing"

	"tracebook/align"
	"tracebook/api"
	"tracebook/causal"
	"tracebook/event"
	"tracebook/interval"
	"tracebook/log"
)

func send(at, n int) api.Event { return api.Event{At: at, Kind: api.KSend, N: n} }
func recv(at, n int) api.Event { return api.Event{At: at, Kind: api.KRecv, N: n} }
func end(at int) api.Event     { return api.Event{At: at, Kind: api.KEnd} }

func of(t *testing.T, snaps []api.Snap, domains []int, threads ...[]api.Event) api.Log {
	t.Helper()
	h := api.Head{Domains: []api.Domain{{}, {Id: 1, Ppm: 100}, {Id: 2}}, Snaps: snaps}
	var packets []api.Packet
	for i, d := range domains {
		h.Threads = append(h.Threads, api.Thread{Id: 9 - i, Name: "t", Domain: d})
		if len(threads[i]) > 0 {
			packets = append(packets, api.Packet{Thread: 9 - i, Events: threads[i]})
		}
	}
	l, err := log.Of(h, packets)
	if err != api.OK {
		t.Fatal(err)
	}
	return l
}

func readings(o []api.Timed) []int {
	var l []int
	for _, x := range o {
		l = append(l, x.Event.At)
	}
	return l
}

func TestExamples(t *testing.T) {
	o, err := Of(of(t, nil, []int{0, 0}, []api.Event{end(3), end(5)}, []api.Event{end(4)}))
	if err != api.OK || !slices.Equal(readings(o), []int{3, 4, 5}) {
		t.Error(o, err)
	}
	o, err = Of(of(t, nil, []int{0, 0}, []api.Event{recv(10, 7)}, []api.Event{send(10, 7)}))
	if err != api.OK || len(o) != 2 || o[0].Event.Kind != api.KSend {
		t.Error(o, err)
	}
	o, _ = Of(of(t, nil, []int{0, 0}, []api.Event{end(10), end(10)}, []api.Event{send(10, 7)}))
	if o[0].Id.Thread != 9 || o[1].Id != (api.Id{Thread: 9, Serial: 1}) || o[2].Id.Thread != 8 {
		t.Error(o)
	}
	empty := of(t, nil, []int{0}, nil)
	if o, err := Of(empty); len(o) != 0 || err != api.OK || !Check(empty, nil) || Last(nil) != 0 {
		t.Error(o, err)
	}
	if o, err := Of(api.Log{}); len(o) != 0 || err != api.ErrShort || Check(api.Log{}, nil) {
		t.Error(o, err)
	}
	if o, err := Of(of(t, nil, []int{1}, []api.Event{end(10)})); len(o) != 0 || err != api.ErrClock {
		t.Error(o, err)
	}
}

func TestAtLast(t *testing.T) {
	timed := func(thread, serial, lo int) api.Timed {
		return api.Timed{Id: api.Id{Thread: thread, Serial: serial}, When: api.Interval{Lo: lo}}
	}
	o := []api.Timed{timed(1, 0, -5), timed(2, 0, -3), timed(1, 0, -9)}
	if i, ok := At(o, api.Id{Thread: 2}); i != 1 || !ok {
		t.Error(i, ok)
	}
	if i, ok := At(o, api.Id{Thread: 1}); i != 0 || !ok {
		t.Error(i, ok)
	}
	if i, ok := At(o, api.Id{Thread: 1, Serial: 1}); i != 0 || ok {
		t.Error(i, ok)
	}
	if Last(o) != -3 || Last(append(o, timed(1, 1, math.MaxInt))) != math.MaxInt || Last(o[:1]) != -5 {
		t.Error(Last(o))
	}
}

func randomLog(t *testing.T, r *rand.Rand) api.Log {
	domains := []int{r.Intn(3), r.Intn(3), r.Intn(3)}
	var snaps []api.Snap
	for _, d := range []int{1, 2} {
		now := r.Intn(60)
		snaps = append(snaps, api.Snap{A: d, AtA: now, B: 0, AtB: api.Interval{Lo: max(0, now-r.Intn(20)), Hi: now + r.Intn(20)}})
	}
	flow := 0
	var threads [][]api.Event
	for range domains {
		at := r.Intn(30)
		l := make([]api.Event, r.Intn(5))
		for i := range l {
			at += r.Intn(10)
			l[i] = end(at)
			switch r.Intn(3) {
			case 0:
				l[i] = send(at, flow)
				flow++
			case 1:
				l[i] = recv(at, r.Intn(6))
			}
		}
		threads = append(threads, l)
	}
	return of(t, snaps, domains, threads...)
}

// orderByDefinition builds the derived order step by step.
func orderByDefinition(l api.Log, tight []api.Timed) []api.Timed {
	rest := slices.Clone(tight)
	var o []api.Timed
	for len(rest) > 0 {
		best := -1
		for i, x := range rest {
			free := !slices.ContainsFunc(rest, func(y api.Timed) bool {
				before, _ := causal.Before(l, y.Id, x.Id)
				return before
			})
			// rest is in the order of the log, so that the first one is the one to take among equal ones
			if free && (best < 0 || x.When.Lo < rest[best].When.Lo) {
				best = i
			}
		}
		o = append(o, rest[best])
		rest = slices.Delete(rest, best, best+1)
	}
	return o
}

// checkByDefinition says whether an order of the events of a log has no contradiction.
func checkByDefinition(l api.Log, o []api.Timed) bool {
	for i, x := range o {
		for _, y := range o[:i] {
			before, _ := causal.Before(l, x.Id, y.Id)
			if before || interval.Before(x.When, y.When) {
				return false
			}
		}
	}
	return true
}

func same(a, b api.Timed) bool {
	return a.Id == b.Id && a.When == b.When && event.Same(a.Event, b.Event)
}

func TestDefinition(t *testing.T) {
	r := rand.New(rand.NewSource(1))
	accepted := 0
	for range 1500 {
		l := randomLog(t, r)
		o, err := Of(l)
		tight, tightErr := align.Tight(l)
		if err != tightErr || err != api.OK && (len(o) > 0 || Check(l, o)) {
			t.Fatal(err, tightErr)
		}
		if err != api.OK {
			continue
		}
		accepted++
		if !slices.EqualFunc(o, orderByDefinition(l, tight), same) || !Check(l, o) {
			t.Fatal(l, o)
		}
		for i := 1; i < len(o); i++ {
			if o[i].When.Lo < o[i-1].When.Lo {
				t.Fatal("the lower end decreases", o)
			}
		}
		checkChanged(t, r, l, o)
	}
	if accepted < 300 {
		t.Error("few logs", accepted)
	}
}

// checkChanged examines other orders, and lists that are not the events of the log.
func checkChanged(t *testing.T, r *rand.Rand, l api.Log, o []api.Timed) {
	if len(o) < 2 {
		return
	}
	for range 4 {
		other := slices.Clone(o)
		i, j := r.Intn(len(o)), r.Intn(len(o))
		other[i], other[j] = other[j], other[i]
		if Check(l, other) != checkByDefinition(l, other) {
			t.Fatal(l, other)
		}
	}
	wide, renamed, twice := slices.Clone(o), slices.Clone(o), slices.Clone(o)
	wide[0].When.Lo--
	renamed[1].Event.At++
	twice[1] = twice[0]
	unknown := slices.Clone(o)
	unknown[0].Id.Serial += 100
	for i, bad := range [][]api.Timed{wide, renamed, twice, unknown, o[1:], append(slices.Clip(o), o[0]), nil} {
		if Check(l, bad) {
			t.Fatal(i)
		}
	}
}

func TestReference(t *testing.T) {
	r := rand.New(rand.NewSource(2))
	for range 100 {
		var threads [][]api.Event
		for range 3 {
			l := make([]api.Event, r.Intn(20))
			for i := range l {
				l[i] = end(i*3 + r.Intn(3))
			}
			threads = append(threads, l)
		}
		o, err := Of(of(t, nil, []int{0, 0, 0}, threads...))
		if err != api.OK || !slices.IsSorted(readings(o)) {
			t.Fatal(readings(o), err)
		}
		next := map[int]int{}
		for _, x := range o {
			if x.Id.Serial != next[x.Id.Thread] {
				t.Fatal("serials", o)
			}
			next[x.Id.Thread]++
		}
	}
}
