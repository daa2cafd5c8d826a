package producer

import (
	"math"
	"math/rand"
	"slices"
	"strings"
	"testing"

	"tracebook/api"
	"tracebook/event"
)

func mark(at int) api.Event { return api.Event{At: at, Kind: api.KMark, Name: "a"} }

func thread() api.Thread { return api.Thread{Id: 7, Name: "t"} }

func marks(t *testing.T, p api.Producer, n int) api.Producer {
	for i := range n {
		next, err := Write(p, mark(i+1))
		if err != api.OK {
			t.Fatal(i, err)
		}
		p = next
	}
	return p
}

func TestThread(t *testing.T) {
	for _, c := range []struct {
		t   api.Thread
		err api.Errno
	}{{thread(), api.OK}, {api.Thread{Id: api.MaxInt, Name: "a", Domain: 7}, api.OK}, {api.Thread{Id: -1}, api.ErrRange}, {api.Thread{Id: api.MaxInt + 1, Name: "a"}, api.ErrRange}, {api.Thread{Name: "a", Domain: 8}, api.ErrRange}, {api.Thread{Domain: -1}, api.ErrRange}, {api.Thread{}, api.ErrName}, {api.Thread{Name: "a b"}, api.ErrName}} {
		if err := Thread(c.t); err != c.err {
			t.Error(c, err)
		}
	}
}

func TestNew(t *testing.T) {
	p, err := New(thread(), 16, api.Stall)
	if err != api.OK || Check(p) != api.OK || p.Thread != thread() || p.Last != 0 || p.Sent != 0 || len(p.Names)+len(p.Stacks) != 0 || len(p.Ring.Data) != 16 || Lost(p) != 0 {
		t.Error(p, err)
	}
	for _, c := range []struct {
		t    api.Thread
		size int
		p    api.Policy
		err  api.Errno
	}{{api.Thread{Id: -1}, 0, 0, api.ErrRange}, {api.Thread{}, 0, 0, api.ErrName}, {thread(), 15, 0, api.ErrRange}, {thread(), 16, 0, api.ErrArg}} {
		if p, err := New(c.t, c.size, c.p); err != c.err || p.Thread != (api.Thread{}) || p.Ring.Data != nil {
			t.Error(c, err)
		}
	}
}

func TestExamples(t *testing.T) {
	p, _ := New(thread(), 16, api.Overwrite)
	p = marks(t, p, 5)
	if Lost(p) != 1 {
		t.Error(Lost(p))
	}
	l, p := Drain(p)
	if len(l) != 1 || l[0].Thread != 7 || l[0].Serial != 1 || l[0].Lost != 1 || len(l[0].Events) != 4 || !event.Same(l[0].Events[0], mark(2)) {
		t.Error(l)
	}
	if again, q := Drain(p); len(again) != 0 || Lost(q) != 0 || q.Sent != 5 {
		t.Error(again)
	}
	s, _ := New(thread(), 16, api.Stall)
	s = marks(t, s, 4)
	if q, err := Write(s, mark(5)); err != api.ErrFull || q.Ring.Data != nil || q.Thread != (api.Thread{}) {
		t.Error(err)
	}
	if l, _ := Drain(s); len(l) != 1 || l[0].Lost != 0 || len(l[0].Events) != 4 {
		t.Error(l)
	}
}

func TestDivision(t *testing.T) {
	p, _ := New(thread(), api.MaxRing, api.Stall)
	for i := range 2100 {
		p.Ring.Data = append([]byte{}, p.Ring.Data...)
		p, _ = Write(p, api.Event{At: i / 100, Kind: api.KEnd})
	}
	l, p := Drain(p)
	if len(l) != 3 || len(l[0].Events) != 1000 || len(l[1].Events) != 1000 || len(l[2].Events) != 100 || l[1].Serial != 1000 || l[2].Serial != 2000 || Check(p) != api.OK {
		t.Error(len(l))
	}
}

// TestAccounting follows every event through writes and drains.
func TestAccounting(t *testing.T) {
	r := rand.New(rand.NewSource(1))
	for round := range 200 {
		policy := api.Policy(1 + round%2)
		p, _ := New(thread(), 16+r.Intn(60), policy)
		var written []api.Event
		expected, at := 0, 0
		for range 80 {
			at += r.Intn(3)
			e := api.Event{At: at, Kind: api.KSample, N: 1 + r.Intn(5), Stack: []string{"a", "b", "c"}[:r.Intn(4)]}
			before := slices.Clone(p.Ring.Data)
			q, err := Write(p, e)
			if err != api.OK && (policy == api.Overwrite || err != api.ErrFull) || !slices.Equal(before, p.Ring.Data) {
				t.Fatal(err)
			}
			if err == api.OK {
				p = q
				written = append(written, e)
			}
			if Check(p) != api.OK || p.Ring.Next != len(written) || Lost(p) != p.Ring.First-p.Sent || policy == api.Stall && Lost(p) > 0 {
				t.Fatal(Check(p))
			}
			if r.Intn(20) > 0 {
				continue
			}
			lost := Lost(p)
			l, after := Drain(p)
			for i, packet := range l {
				if packet.Thread != 7 || packet.Serial != expected+packet.Lost || i > 0 && packet.Lost > 0 || i == 0 && packet.Lost != lost {
					t.Fatal(packet)
				}
				for j, e := range packet.Events {
					if !event.Same(e, written[packet.Serial+j]) {
						t.Fatal(e)
					}
				}
				expected = packet.Serial + len(packet.Events)
			}
			p = after
			if expected != len(written) || Check(p) != api.OK || Lost(p) != 0 || p.Sent != p.Ring.Next {
				t.Fatal(expected, len(written))
			}
		}
	}
}

func TestWriteErrors(t *testing.T) {
	p, _ := New(thread(), 100, api.Stall)
	p = marks(t, p, 3)
	bad := p
	bad.Last = -1
	for i, c := range []struct {
		p   api.Producer
		e   api.Event
		err api.Errno
	}{
		{bad, api.Event{}, api.ErrRange},
		{p, api.Event{At: 1}, api.ErrArg},
		{p, mark(2), api.ErrOrder},
		{p, api.Event{At: 2, Kind: api.KMark, Name: "new"}, api.ErrOrder},
		{p, mark(3), api.OK},
	} {
		if q, err := Write(c.p, c.e); err != c.err || err != api.OK && q.Ring.Data != nil {
			t.Error(i, err)
		}
	}
}

func TestFullTable(t *testing.T) {
	p, _ := New(thread(), 100, api.Overwrite)
	for i := range 1000 {
		p.Names = append(p.Names, "n"+strings.Repeat("x", i/100)+strings.Repeat("y", i/10%10)+strings.Repeat("z", i%10))
	}
	if Check(p) != api.OK {
		t.Fatal(Check(p))
	}
	if _, err := Write(p, mark(1)); err != api.ErrFull {
		t.Error(err)
	}
	if q, err := Write(p, api.Event{Kind: api.KMark, Name: "nz"}); err != api.OK || q.Last != 0 {
		t.Error(err)
	}
}

func TestCheck(t *testing.T) {
	p, _ := New(thread(), 16, api.Overwrite)
	good := marks(t, p, 5)
	for i, c := range []struct {
		change func(p *api.Producer)
		err    api.Errno
	}{
		{func(p *api.Producer) {}, api.OK},
		{func(p *api.Producer) { p.Sent = 1; p.Last = api.MaxTime }, api.OK},
		{func(p *api.Producer) { p.Thread.Id = -1; p.Names = []string{""} }, api.ErrRange},
		{func(p *api.Producer) { p.Thread.Name = ""; p.Names = []string{"b", "b"} }, api.ErrName},
		{func(p *api.Producer) { p.Names = []string{"a", "a"}; p.Ring.Policy = 0 }, api.ErrTwice},
		{func(p *api.Producer) { p.Ring.Policy = 0; p.Sent = -1 }, api.ErrArg},
		{func(p *api.Producer) { p.Sent = -1 }, api.ErrRange},
		{func(p *api.Producer) { p.Sent = 2 }, api.ErrRange},
		{func(p *api.Producer) { p.Last = -1 }, api.ErrRange},
		{func(p *api.Producer) { p.Last = api.MaxTime + 1 }, api.ErrRange},
		{func(p *api.Producer) { p.Last = math.MaxInt; p.Names = nil }, api.ErrRange},
		{func(p *api.Producer) { p.Last = 4 }, api.ErrForm},
		{func(p *api.Producer) { p.Names = nil }, api.ErrForm},
		{func(p *api.Producer) { p.Ring.Data[6] = 8 }, api.ErrForm},
		{func(p *api.Producer) { p.Ring.Data[5] = 4 }, api.ErrForm},
	} {
		p := good
		p.Ring.Data = slices.Clone(good.Ring.Data)
		c.change(&p)
		if err := Check(p); err != c.err {
			t.Error(i, err)
		}
		if c.err == api.OK {
			continue
		}
		q, err := Write(p, mark(9))
		l, r := Drain(p)
		if err != c.err || q.Ring.Data != nil || len(l) != 0 || r.Ring.First != p.Ring.First || r.Sent != p.Sent || Lost(p) != 0 {
			t.Error(i, err)
		}
	}
}

// A ring buffer that was made by hand can be empty although events were lost.
func TestEmptyByHand(t *testing.T) {
	p, _ := New(thread(), 16, api.Overwrite)
	p.Ring.First, p.Ring.Next, p.Sent = 5, 5, 2
	if Lost(p) != 3 {
		t.Error(Lost(p))
	}
	if l, q := Drain(p); len(l) != 0 || q.Sent != 5 || Lost(q) != 0 {
		t.Error(l, q)
	}
}
