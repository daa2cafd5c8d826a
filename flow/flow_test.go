package flow

import (
	"math"
	"math/rand"
	"slices"
	"testing"

	"tracebook/api"
)

func ev(thread, serial, at int, k api.Kind, n int) api.Timed {
	return api.Timed{Id: api.Id{Thread: thread, Serial: serial}, Event: api.Event{Kind: k, N: n}, When: api.Interval{Lo: at, Hi: at + 5}}
}

func id(thread, serial int) api.Id { return api.Id{Thread: thread, Serial: serial} }

func TestExamples(t *testing.T) {
	o := []api.Timed{ev(1, 0, 10, api.KSend, 7), ev(2, 0, 12, api.KRecv, 7), ev(3, 4, 15, api.KRecv, 7)}
	l := Of(o)
	want := []api.Flow{{Id: 7, From: id(1, 0), To: id(2, 0), Send: 10, Recv: 12}, {Id: 7, From: id(1, 0), To: id(3, 4), Send: 10, Recv: 15}}
	if !slices.Equal(l, want) || len(Open(o)) != 0 || Check(l) != api.OK {
		t.Error(l, Open(o))
	}
	if b := Between(l, 1, 3); !slices.Equal(b, want[1:]) {
		t.Error(b)
	}
	if len(Between(l, 3, 1)) != 0 || len(Between(nil, 1, 3)) != 0 {
		t.Error("Between")
	}
	early := []api.Timed{ev(1, 0, 1, api.KRecv, 8), ev(2, 0, 2, api.KSend, 8)}
	if len(Of(early)) != 0 || !slices.Equal(Open(early), []int{8}) {
		t.Error(Of(early), Open(early))
	}
	clamped := Of([]api.Timed{ev(1, 0, -9, api.KSend, -3), ev(1, 1, math.MaxInt-5, api.KRecv, -3)})
	if len(clamped) != 1 || clamped[0].Send != 0 || clamped[0].Recv != api.MaxTime {
		t.Error(clamped)
	}
	again := []api.Timed{ev(1, 0, 1, api.KSend, 8), ev(1, 1, 2, api.KRecv, 8), ev(1, 2, 3, api.KSend, 8), ev(1, 3, 4, api.KSend, 3)}
	if !slices.Equal(Open(again), []int{3, 8}) {
		t.Error(Open(again))
	}
}

func TestDefinition(t *testing.T) {
	r := rand.New(rand.NewSource(1))
	for range 3000 {
		var o []api.Timed
		at := 0
		for i := range r.Intn(15) {
			at += r.Intn(3)
			o = append(o, ev(r.Intn(3), i, at, []api.Kind{api.KSend, api.KRecv, api.KFree}[r.Intn(3)], r.Intn(4)))
		}
		var want []api.Flow
		begun := map[int]bool{} // indices of sends with a flow
		lastSend := map[int]int{}
		for i, x := range o {
			if x.Event.Kind == api.KSend {
				lastSend[x.Event.N] = i
			}
			if x.Event.Kind != api.KRecv {
				continue
			}
			for j := i - 1; j >= 0; j-- {
				if s := o[j]; s.Event.Kind == api.KSend && s.Event.N == x.Event.N {
					want = append(want, api.Flow{Id: x.Event.N, From: s.Id, To: x.Id, Send: s.When.Lo, Recv: x.When.Lo})
					begun[j] = true
					break
				}
			}
		}
		l := Of(o)
		if !slices.Equal(l, want) || Check(l) != api.OK {
			t.Fatal(o, l, want)
		}
		n := r.Intn(len(o) + 1)
		if first := Of(o[:n]); !slices.Equal(first, l[:len(first)]) {
			t.Fatal("first events", first, l)
		}
		var open []int
		for n, i := range lastSend {
			if !begun[i] {
				open = append(open, n)
			}
		}
		slices.Sort(open)
		if !slices.Equal(Open(o), open) {
			t.Fatal(o, Open(o), open)
		}
	}
}

func TestCheck(t *testing.T) {
	good := api.Flow{Id: 1, From: id(1, 2), To: id(3, 4), Send: 5, Recv: 6}
	for i, c := range []struct {
		change func(f *api.Flow)
		err    api.Errno
	}{
		{func(f *api.Flow) {}, api.OK}, {func(f *api.Flow) { f.Send = 6 }, api.OK}, {func(f *api.Flow) { f.Recv = api.MaxTime; f.Id = api.MaxInt }, api.OK},
		{func(f *api.Flow) { f.Id = -1; f.Send = 9 }, api.ErrRange}, {func(f *api.Flow) { f.Id = api.MaxInt + 1 }, api.ErrRange},
		{func(f *api.Flow) { f.From.Thread = -1 }, api.ErrRange}, {func(f *api.Flow) { f.From.Serial = -1 }, api.ErrRange}, {func(f *api.Flow) { f.To.Thread = api.MaxInt + 1 }, api.ErrRange}, {func(f *api.Flow) { f.To.Serial = math.MinInt }, api.ErrRange},
		{func(f *api.Flow) { f.Send = -1 }, api.ErrRange}, {func(f *api.Flow) { f.Recv = api.MaxTime + 1 }, api.ErrRange}, {func(f *api.Flow) { f.Recv = -1 }, api.ErrRange}, {func(f *api.Flow) { f.Send = api.MaxTime + 1 }, api.ErrRange},
		{func(f *api.Flow) { f.Send = 7 }, api.ErrOrder}, {func(f *api.Flow) { f.Send, f.Recv = 4, 5 }, api.ErrOrder},
	} {
		f := good
		c.change(&f)
		if err := Check([]api.Flow{good, f}); err != c.err {
			t.Error(i, err)
		}
	}
	if Check(nil) != api.OK {
		t.Error("no flows")
	}
}
