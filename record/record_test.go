package record

import (
	"fmt"
	"math/rand"
	"slices"
	"strings"
	"testing"

	"tracebook/api"
	"tracebook/codec"
	"tracebook/event"
	"tracebook/intern"
)

func ints(n ...int) []byte {
	var b []byte
	for _, n := range n {
		b = codec.PutInt(b, n)
	}
	return b
}

func randomEvent(r *rand.Rand, at int) api.Event {
	name := string(rune('a' + r.Intn(4)))
	stack := slices.Repeat([]string{name, "f"}, r.Intn(3))
	n := r.Intn(api.MaxInt)
	switch k := api.Kind(1 + r.Intn(12)); k {
	case api.KBegin, api.KMark:
		return api.Event{At: at, Kind: k, Name: name}
	case api.KCount:
		return api.Event{At: at, Kind: k, Name: name, N: n - api.MaxInt/2}
	case api.KSample:
		return api.Event{At: at, Kind: k, N: 1 + r.Intn(api.MaxTime), Stack: stack}
	case api.KSend, api.KRecv, api.KWake, api.KFree:
		return api.Event{At: at, Kind: k, N: n}
	case api.KRun:
		return api.Event{At: at, Kind: k, N: r.Intn(64)}
	case api.KStop:
		e := api.Event{At: at, Kind: k, N: r.Intn(4)}
		if e.N == api.Blocked {
			e.M = n
		}
		return e
	case api.KAlloc:
		return api.Event{At: at, Kind: k, N: n, M: 1 + r.Intn(api.MaxTime), Stack: stack}
	}
	return api.Event{At: at, Kind: api.KEnd}
}

func TestEncodeExamples(t *testing.T) {
	for _, c := range []struct {
		e      api.Event
		b      []byte
		names  string
		stacks [][2]int
	}{
		{api.Event{At: 5, Kind: api.KMark, Name: "a"}, []byte{6, 10, 0}, "a", nil},
		{api.Event{Kind: api.KEnd}, []byte{4, 0}, "", nil},
		{api.Event{At: 1, Kind: api.KSample, N: 3, Stack: []string{"main", "f"}}, []byte{10, 2, 6, 2}, "main f", [][2]int{{-1, 0}, {0, 1}}},
		{api.Event{At: 1, Kind: api.KSample, N: 3}, []byte{10, 2, 6, 1}, "", nil},
		{api.Event{At: 1, Kind: api.KCount, Name: "c", N: -2}, ints(4, 1, 0, -2), "c", nil},
		{api.Event{At: 1, Kind: api.KStop, N: 2, M: 7}, ints(9, 1, 2, 7), "", nil},
		{api.Event{At: 1, Kind: api.KStop, N: 1}, ints(9, 1, 1, 0), "", nil},
		{api.Event{At: 1, Kind: api.KAlloc, N: 5, M: 9, Stack: []string{"f"}}, ints(11, 1, 5, 9, 0), "f", [][2]int{{-1, 0}}},
	} {
		b, names, stacks, err := Encode(nil, nil, c.e)
		if !slices.Equal(b, c.b) || strings.Join(names, " ") != c.names || !slices.Equal(stacks, c.stacks) || err != api.OK || Size(nil, nil, c.e) != len(c.b) {
			t.Error(c.e, b, names, stacks, err)
		}
	}
	e := api.Event{At: api.MaxTime, Kind: api.KAlloc, N: api.MaxInt, M: api.MaxTime, Stack: []string{"f"}}
	if n := Size(nil, nil, e); n == 0 || n > 50 {
		t.Error(n)
	}
}

func TestEncodeErrors(t *testing.T) {
	var many []string
	var manyStacks [][2]int
	for i := range 1000 {
		many = append(many, fmt.Sprint("n", i))
		manyStacks = append(manyStacks, [2]int{-1, i})
	}
	mark := api.Event{Kind: api.KMark, Name: "new"}
	for i, c := range []struct {
		names  []string
		stacks [][2]int
		e      api.Event
		err    api.Errno
	}{
		{[]string{""}, nil, api.Event{}, api.ErrArg},
		{nil, [][2]int{{-1, 0}}, mark, api.ErrArg},
		{nil, nil, api.Event{At: -1}, api.ErrRange},
		{nil, nil, api.Event{Kind: api.KMark}, api.ErrName},
		{many, nil, mark, api.ErrFull},
		{many, manyStacks, api.Event{Kind: api.KSample, N: 1, Stack: []string{"n0", "n1"}}, api.ErrFull},
		{many, nil, api.Event{Kind: api.KSample, N: 1, Stack: []string{"new"}}, api.ErrFull},
	} {
		b, names, stacks, err := Encode(c.names, c.stacks, c.e)
		if len(b) != 0 || len(names) != 0 || len(stacks) != 0 || err != c.err || Size(c.names, c.stacks, c.e) != 0 {
			t.Error(i, b, err)
		}
	}
}

func TestDecodeErrors(t *testing.T) {
	one, pair := []string{"a"}, [][2]int{{-1, 0}}
	for i, c := range []struct {
		names  []string
		stacks [][2]int
		b      []byte
		err    api.Errno
	}{
		{[]string{"a", "a"}, nil, nil, api.ErrArg},
		{nil, nil, nil, api.ErrShort},
		{nil, nil, []byte{128, 0}, api.ErrForm},
		{nil, nil, ints(13), api.ErrShort},
		{nil, nil, []byte{26, 128, 0}, api.ErrForm},
		{nil, nil, []byte{26, 0}, api.ErrForm},
		{nil, nil, ints(0, 0), api.ErrForm},
		{nil, nil, ints(-1, 0), api.ErrForm},
		{nil, nil, ints(2, -1), api.ErrForm},
		{nil, nil, ints(2, api.MaxTime+1), api.ErrForm},
		{nil, nil, ints(4, 0, 5), api.ErrShort},
		{nil, nil, append(ints(4, 0, 5), 128, 0), api.ErrForm},
		{nil, nil, []byte{6, 10, 0}, api.ErrRange},
		{one, nil, ints(3, 5, -1), api.ErrRange},
		{one, nil, ints(3, 5, 1), api.ErrRange},
		{one, nil, ints(4, -5, 1, api.MaxInt+1), api.ErrRange},
		{one, nil, ints(4, 5, 0, api.MaxInt+1), api.ErrForm},
		{one, pair, ints(5, 0, 0, 1), api.ErrRange},
		{one, pair, ints(5, 0, 0, -2), api.ErrRange},
		{one, pair, ints(5, 0, 0, 0), api.ErrForm},
		{one, pair, ints(5, 0, 1, 0), api.OK},
		{nil, nil, []byte{18, 0, 0, 2}, api.ErrForm},
		{nil, nil, ints(8, 0, 64), api.ErrForm},
	} {
		e, n, err := Decode(c.names, c.stacks, c.b)
		if err != c.err || err != api.OK && (n != 0 || !event.Same(e, api.Event{})) {
			t.Error(i, e, n, err)
		}
	}
	if e, n, err := Decode(one, nil, []byte{6, 10, 0, 9}); !event.Same(e, api.Event{At: 5, Kind: api.KMark, Name: "a"}) || n != 3 || err != api.OK {
		t.Error(e, n, err)
	}
}

func TestSequences(t *testing.T) {
	r := rand.New(rand.NewSource(1))
	for range 100 {
		var names []string
		var stacks [][2]int
		var all []byte
		var events []api.Event
		for i := range 30 {
			e := randomEvent(r, i)
			b, n, s, err := Encode(names, stacks, e)
			if err != api.OK || intern.Check(n, s) != api.OK || len(b) > 50 || Size(names, stacks, e) != len(b) {
				t.Fatal(e, err)
			}
			if got, used, err := Decode(n, s, slices.Concat(b, []byte{255})); !event.Same(got, e) || used != len(b) || err != api.OK {
				t.Fatal(e, got, used, err)
			}
			for cut := range b {
				if _, _, err := Decode(n, s, b[:cut]); err != api.ErrShort {
					t.Fatal(e, cut, err)
				}
			}
			names, stacks, all, events = n, s, append(all, b...), append(events, e)
		}
		for _, e := range events {
			got, used, err := Decode(names, stacks, all)
			if err != api.OK || !event.Same(got, e) {
				t.Fatal(e, got, err)
			}
			all = all[used:]
		}
	}
}

// Every record that Decode accepts is the one that Encode returns.
func TestCanonical(t *testing.T) {
	r := rand.New(rand.NewSource(2))
	names, stacks := []string{"a", "b", "c"}, [][2]int{{-1, 0}, {0, 1}, {-1, 2}, {2, 2}}
	accepted := 0
	for range 50000 {
		b := ints(1+r.Intn(13), r.Intn(5)-1, r.Intn(6)-1, r.Intn(6)-1, r.Intn(6)-1)
		e, n, err := Decode(names, stacks, b)
		if err != api.OK {
			continue
		}
		accepted++
		again, m, s, err := Encode(names, stacks, e)
		if !slices.Equal(again, b[:n]) || !slices.Equal(m, names) || !slices.Equal(s, stacks) || err != api.OK {
			t.Fatal(b, e, again)
		}
	}
	if accepted == 0 {
		t.Error("nothing was accepted")
	}
}
