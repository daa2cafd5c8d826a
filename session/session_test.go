package session

import (
	"bytes"
	"math/rand"
	"slices"
	"testing"

	"tracebook/api"
	"tracebook/disk"
	"tracebook/event"
	"tracebook/file"
	"tracebook/log"
	"tracebook/naive"
	"tracebook/packet"
	"tracebook/parse"
	"tracebook/table"
	"tracebook/trace"
)

func head() api.Head {
	return api.Head{Threads: []api.Thread{{Id: 1, Name: "a"}, {Id: 2, Name: "b", Domain: 1}}, Domains: []api.Domain{{}, {Id: 1, Ppm: 100}}}
}

func snap(at int) api.Snap { return api.Snap{A: 1, AtA: at, AtB: api.Interval{Lo: at, Hi: at + 5}} }

func mark(at int) api.Event { return api.Event{At: at, Kind: api.KMark, Name: "a"} }

func started(t *testing.T, ring int, p api.Policy) api.Session {
	t.Helper()
	s, err := New(head(), ring, p, 100000)
	if err != api.OK || Check(s) != api.OK {
		t.Fatal(err, Check(s))
	}
	return s
}

func sameProducer(a, b api.Producer) bool {
	return a.Thread == b.Thread && a.Last == b.Last && a.Sent == b.Sent && slices.Equal(a.Names, b.Names) && slices.Equal(a.Stacks, b.Stacks) && a.Ring.Policy == b.Ring.Policy && a.Ring.First == b.Ring.First && a.Ring.Next == b.Ring.Next && a.Ring.Start == b.Ring.Start && a.Ring.End == b.Ring.End && bytes.Equal(a.Ring.Data, b.Ring.Data)
}

func sameDisk(a, b api.Disk) bool {
	return a.Size == b.Size && bytes.Equal(a.Data, b.Data) && a.Durable == b.Durable && a.Left == b.Left && a.Down == b.Down
}

func same(a, b api.Session) bool {
	return slices.Equal(a.Head.Threads, b.Head.Threads) && slices.Equal(a.Head.Domains, b.Head.Domains) && slices.Equal(a.Head.Snaps, b.Head.Snaps) &&
		slices.EqualFunc(a.Producers, b.Producers, sameProducer) && slices.Equal(a.Service.Next, b.Service.Next) && slices.EqualFunc(a.Service.Queue, b.Service.Queue, packet.Same) && sameDisk(a.Disk, b.Disk) && slices.Equal(a.Snaps, b.Snaps)
}

func TestExamples(t *testing.T) {
	s := started(t, 16, api.Overwrite)
	for i := range 5 {
		s, _ = Write(s, 1, mark(i+1))
	}
	s, err := Flush(s)
	l, _ := Log(s)
	if g := log.Gaps(l); err != api.OK || len(g) != 1 || g[0].Count != 1 || len(log.Ids(l)) != 4 {
		t.Error(l, err)
	}
	s = started(t, 16, api.Stall)
	for i := range 4 {
		s, _ = Write(s, 1, mark(i+1))
	}
	if x, err := Write(s, 1, mark(5)); err != api.ErrFull || !same(x, api.Session{}) {
		t.Error(err)
	}
	s, _ = Flush(s)
	if _, err := Write(s, 1, mark(5)); err != api.OK {
		t.Error(err)
	}
}

func TestNew(t *testing.T) {
	bad := head()
	bad.Threads[1].Domain = 7
	for i, c := range []struct {
		h    api.Head
		ring int
		p    api.Policy
		size int
		err  api.Errno
	}{
		{api.Head{}, 0, 0, 0, api.ErrRange}, {api.Head{}, 0, 0, 5, api.ErrShort}, {bad, 0, 0, 500, api.ErrNone}, {head(), 0, 0, 5, api.ErrFull}, {head(), 15, 0, 500, api.ErrRange}, {head(), 16, 0, 500, api.ErrArg}, {head(), 16, api.Stall, 500, api.OK},
	} {
		s, err := New(c.h, c.ring, c.p, c.size)
		if err != c.err || err != api.OK && !same(s, api.Session{}) {
			t.Error(i, err)
		}
	}
	h := head()
	h.Snaps = []api.Snap{snap(3)}
	s, err := New(h, 16, api.Stall, 500)
	if err != api.OK || Check(s) != api.OK || len(s.Head.Snaps) != 1 || len(s.Snaps) != 0 {
		t.Error(s, err)
	}
}

func TestCheck(t *testing.T) {
	s := started(t, 100, api.Overwrite)
	s, _ = Write(s, 1, mark(5))
	s, _ = Snap(s, snap(3))
	s, _ = Flush(s)
	s, _ = Write(s, 1, mark(6))
	s, _ = Snap(s, snap(4))
	for i, c := range []struct {
		change func(s *api.Session)
		err    api.Errno
	}{
		{func(s *api.Session) {}, api.OK}, {func(s *api.Session) { s.Head.Threads = nil; s.Snaps[0].B = 1 }, api.ErrShort}, {func(s *api.Session) { s.Snaps[0].B = 1; s.Producers = nil }, api.ErrArg}, {func(s *api.Session) { s.Snaps = slices.Repeat(s.Snaps, 200) }, api.ErrLong},
		{func(s *api.Session) { s.Producers = s.Producers[:1]; s.Service.Threads = nil }, api.ErrForm}, {func(s *api.Session) { s.Producers[0].Last = -1; s.Producers[1].Thread.Id = 3 }, api.ErrRange}, {func(s *api.Session) { s.Producers[0].Thread.Id = 3; s.Producers[1].Last = -1 }, api.ErrForm}, {func(s *api.Session) { s.Producers[0], s.Producers[1] = s.Producers[1], s.Producers[0] }, api.ErrForm},
		{func(s *api.Session) { s.Service.Threads = nil }, api.ErrShort}, {func(s *api.Session) { s.Service.Next[0] = -1 }, api.ErrForm}, {func(s *api.Session) { s.Service.Next[0] = 2 }, api.ErrForm}, {func(s *api.Session) { slices.Reverse(s.Service.Threads); slices.Reverse(s.Service.Next) }, api.ErrForm},
		{func(s *api.Session) { s.Service.Queue = []api.Packet{{Thread: 1, Events: []api.Event{mark(5)}}} }, api.ErrForm}, {func(s *api.Session) { s.Producers[0].Sent = 0 }, api.ErrForm}, {func(s *api.Session) { s.Producers[0].Sent, s.Service.Next[0] = 0, 0 }, api.ErrForm},
		{func(s *api.Session) { s.Disk.Left = -2; s.Disk.Data = nil }, api.ErrRange}, {func(s *api.Session) { s.Disk.Data, s.Disk.Durable = nil, 0 }, api.ErrForm}, {func(s *api.Session) { s.Disk.Data = append(s.Disk.Data, 1) }, api.ErrForm}, {func(s *api.Session) { s.Head.Snaps = nil }, api.ErrForm}, {func(s *api.Session) { s.Head.Domains[1].Ppm = 5 }, api.ErrForm}, {func(s *api.Session) { s.Disk.Down = true; s.Disk.Data, s.Disk.Durable = nil, 0 }, api.OK},
	} {
		x := s
		x.Head.Threads, x.Head.Domains, x.Snaps, x.Producers = slices.Clone(s.Head.Threads), slices.Clone(s.Head.Domains), slices.Clone(s.Snaps), slices.Clone(s.Producers)
		x.Service.Threads, x.Service.Next = slices.Clone(s.Service.Threads), slices.Clone(s.Service.Next)
		x.Disk.Data = slices.Clip(s.Disk.Data)
		c.change(&x)
		if err := Check(x); err != c.err {
			t.Error(i, err)
		}
		if c.err == api.OK {
			continue
		}
		w, writeErr := Write(x, 9, api.Event{})
		y, snapErr := Snap(x, api.Snap{})
		f, flushErr := Flush(x)
		z, crashErr := Crash(x, 0)
		_, logErr := Log(x)
		for j, err := range []api.Errno{writeErr, snapErr, flushErr, crashErr, logErr} {
			if err != c.err {
				t.Error(i, j, err)
			}
		}
		if !same(w, api.Session{}) || !same(y, api.Session{}) || !same(f, api.Session{}) || !same(z, api.Session{}) {
			t.Error(i)
		}
	}
}

func TestErrors(t *testing.T) {
	s := started(t, 100, api.Overwrite)
	if _, err := Write(s, 9, api.Event{}); err != api.ErrNone {
		t.Error(err)
	}
	if _, err := Write(s, 1, api.Event{}); err != api.ErrArg {
		t.Error(err)
	}
	if _, err := Snap(s, api.Snap{}); err != api.ErrArg {
		t.Error(err)
	}
	same1, err := Flush(s)
	if err != api.OK || !same(same1, s) {
		t.Error("nothing was recorded", err)
	}
	down := s
	down.Disk.Down = true
	_, writeErr := Write(down, 9, api.Event{})
	_, snapErr := Snap(down, api.Snap{})
	_, logErr := Log(down)
	flushed, flushErr := Flush(down)
	if writeErr != api.ErrDown || snapErr != api.ErrDown || logErr != api.ErrDown || flushErr != api.ErrDown || !same(flushed, down) {
		t.Error(writeErr, snapErr, logErr, flushErr)
	}
	small, _ := New(head(), 1000, api.Stall, len(s.Disk.Data)+10)
	small, _ = Write(small, 1, mark(1))
	if x, err := Flush(small); err != api.ErrFull || !same(x, api.Session{}) {
		t.Error(err)
	}
	for text, want := range map[string]api.Errno{"from": api.ErrSyntax, "from z": api.ErrTable, "from threads | limit 20001": api.ErrRange, "from threads": api.OK} {
		if _, err := Query(s, text); err != want {
			t.Error(text, err)
		}
		if _, err := Query(down, text); want == api.ErrSyntax && err != want || want == api.OK && err != api.ErrDown {
			t.Error(text, err)
		}
	}
	s, _ = Write(s, 2, mark(1))
	s, _ = Flush(s)
	if _, err := Query(s, "from z"); err != api.ErrClock {
		t.Error(err)
	}
}

func TestManyEvents(t *testing.T) {
	h := head()
	s, _ := New(h, api.MaxRing, api.Overwrite, api.MaxDisk)
	// Rings that are filled by hand, because a session checks itself at each call.
	for i := range s.Producers {
		p := &s.Producers[i]
		for n := range 11000 {
			frame := []byte{4, 4, byte(n / 11000)}
			copy(p.Ring.Data[p.Ring.End:], frame)
			p.Ring.End += len(frame)
			p.Ring.Next++
		}
	}
	if Check(s) != api.OK {
		t.Fatal(Check(s))
	}
	if x, err := Flush(s); err != api.ErrFull || !same(x, api.Session{}) {
		t.Error(err)
	}
}

// TestModel runs sessions with losses of power, and follows what must be in the log.
func TestModel(t *testing.T) {
	r := rand.New(rand.NewSource(1))
	for round := range 60 {
		policy := api.Policy(1 + round%2)
		s := started(t, 16+r.Intn(60), policy)
		recorded := map[int][]api.Event{} // what Write recorded, or its loss with the power
		at := map[int]int{}               // readings
		written := map[int]int{}          // how many of recorded are acknowledged
		unsure := map[int]int{}           // how many a flush that failed would have written
		for range 80 {
			id := 1 + r.Intn(2)
			switch r.Intn(12) {
			case 0:
				s = flushed(t, s, recorded, written, unsure)
			case 1:
				if !s.Disk.Down {
					d, _ := disk.Arm(s.Disk, r.Intn(150))
					s.Disk = d
				}
			case 2:
				s = crashed(t, r, s, recorded, at, written, unsure)
			case 3:
				if next, err := Snap(s, snap(r.Intn(9))); err == api.OK {
					s = next
				}
			default:
				at[id] += r.Intn(3)
				next, err := Write(s, id, mark(at[id]))
				if err == api.OK {
					s = next
					recorded[id] = append(recorded[id], mark(at[id]))
				} else if err != api.ErrDown && (policy != api.Stall || err != api.ErrFull) {
					t.Fatal(err)
				}
			}
			if Check(s) != api.OK {
				t.Fatal(Check(s))
			}
		}
		s = crashed(t, r, s, recorded, at, written, unsure)
		checkLog(t, s, recorded, written, policy)
	}
}

func flushed(t *testing.T, s api.Session, recorded map[int][]api.Event, written, unsure map[int]int) api.Session {
	next, err := Flush(s)
	clear(unsure)
	switch {
	case err == api.OK:
		for id, l := range recorded {
			written[id] = len(l)
		}
		checkLog(t, next, recorded, written, next.Producers[0].Ring.Policy)
	case err == api.ErrDown:
		if !next.Disk.Down {
			t.Fatal("not down")
		}
		changed := next
		changed.Disk = s.Disk
		if !same(changed, s) {
			t.Fatal("only the disk changes")
		}
		for id, l := range recorded {
			unsure[id] = len(l)
		}
	default:
		t.Fatal(err)
	}
	return next
}

func crashed(t *testing.T, r *rand.Rand, s api.Session, recorded map[int][]api.Event, at, written, unsure map[int]int) api.Session {
	before := slices.Clone(s.Disk.Data)
	_, _, complete := file.Read(before)
	next, err := Crash(s, r.Intn(200)-20)
	if err != api.OK || next.Disk.Down || next.Disk.Left != -1 || len(next.Snaps) > 0 {
		t.Fatal(err)
	}
	if len(next.Disk.Data) > complete {
		t.Fatal("more than was written")
	}
	grown := false
	for id := 1; id <= 2; id++ {
		grown = grown || next.Producers[id-1].Sent > written[id]
	}
	for id := 1; id <= 2; id++ {
		want := written[id]
		if grown {
			want = max(want, unsure[id])
		}
		p := next.Producers[id-1]
		// Only what is in the file counts; the last event of a thread can have been lost in its ring buffer only if later ones are there.
		if p.Sent != want || p.Ring.Next != want || p.Ring.First != want || len(p.Names) > 0 || p.Ring.End != 0 || len(p.Ring.Data) != len(s.Producers[id-1].Ring.Data) {
			t.Fatal("thread", id, p.Sent, want)
		}
		recorded[id] = recorded[id][:want]
		written[id] = want
		at[id] = p.Last
		if want > 0 && p.Last != recorded[id][want-1].At {
			t.Fatal("Last", p.Last)
		}
	}
	clear(unsure)
	return next
}

// checkLog checks that events and gaps are what was recorded.
func checkLog(t *testing.T, s api.Session, recorded map[int][]api.Event, written map[int]int, policy api.Policy) {
	l, err := Log(s)
	if err != api.OK {
		t.Fatal(err)
	}
	seen := map[int]int{}
	for _, g := range log.Gaps(l) {
		seen[g.Thread] += g.Count
		if policy == api.Stall {
			t.Fatal("a gap", g)
		}
	}
	for _, p := range l.Parts {
		seen[p.Thread] += len(p.Events)
		for i, e := range p.Events {
			if !event.Same(e, recorded[p.Thread][p.Serial+i]) {
				t.Fatal(p, i)
			}
		}
	}
	for id := 1; id <= 2; id++ {
		if seen[id] != written[id] {
			t.Fatal("thread", id, seen[id], written[id])
		}
	}
}

func TestQuery(t *testing.T) {
	s := started(t, 1000, api.Overwrite)
	for i, e := range []api.Event{{At: 1, Kind: api.KBegin, Name: "f"}, {At: 2, Kind: api.KBegin, Name: "g"}, {At: 5, Kind: api.KEnd}, {At: 9, Kind: api.KEnd}} {
		next, err := Write(s, 1, e)
		if err != api.OK {
			t.Fatal(i, err)
		}
		s = next
	}
	s, _ = Flush(s)
	l, _ := Log(s)
	tr, _ := trace.Of(l)
	d, _ := table.Of(tr)
	for _, text := range []string{"from slices | group name: count() as n, sum(self) as own | sort own desc", "from states", "from slices | where to - from < 5 | select name as name"} {
		q, _, _ := parse.Query(text)
		want, _ := naive.Run(d, q)
		if got, err := Query(s, text); err != api.OK || !table.Same(got, want) || len(got.Rows) == 0 {
			t.Error(text, got, err)
		}
	}
}

func TestCrashErrors(t *testing.T) {
	s := started(t, 100, api.Overwrite)
	s.Disk.Down = true
	lost := s
	lost.Disk.Data, lost.Disk.Durable = nil, 0
	if x, err := Crash(lost, 5); err != api.ErrForm || !same(x, api.Session{}) {
		t.Error(err)
	}
	other := s
	h := head()
	h.Threads = h.Threads[:1]
	d, _ := disk.New(1000)
	other.Disk, _ = file.Create(d, h)
	other.Disk.Down = true
	if x, err := Crash(other, 5); err != api.ErrForm || !same(x, api.Session{}) {
		t.Error(err)
	}
	if x, err := Crash(s, -1); err != api.OK || x.Disk.Down {
		t.Error(err)
	}
}
