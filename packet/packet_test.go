package packet

import (
	"math"
	"math/rand"
	"slices"
	"strconv"
	"testing"

	"tracebook/api"
	"tracebook/codec"
)

func mark(at int, name string) api.Event { return api.Event{At: at, Kind: api.KMark, Name: name} }

func ends(n int) []api.Event { return slices.Repeat([]api.Event{{At: 3, Kind: api.KEnd}}, n) }

func ints(n ...int) []byte {
	var b []byte
	for _, n := range n {
		b = codec.PutInt(b, n)
	}
	return b
}

var example = api.Packet{Thread: 7, Serial: 1, Lost: 1, Events: []api.Event{{At: 5, Kind: api.KMark, Name: "a"}}}

func TestCheck(t *testing.T) {
	for i, c := range []struct {
		p   api.Packet
		err api.Errno
	}{
		{example, api.OK},
		{api.Packet{Thread: -1}, api.ErrRange}, {api.Packet{Thread: api.MaxInt + 1, Events: ends(1)}, api.ErrRange},
		{api.Packet{Serial: -1}, api.ErrRange}, {api.Packet{Lost: -1}, api.ErrRange}, {api.Packet{Serial: math.MaxInt, Lost: math.MaxInt}, api.ErrRange},
		{api.Packet{Serial: 1, Lost: 2}, api.ErrRange}, {api.Packet{Serial: 1, Lost: 2, Events: ends(1)}, api.ErrRange},
		{api.Packet{Serial: api.MaxInt, Events: ends(1)}, api.ErrRange}, {api.Packet{Serial: api.MaxInt - 1, Events: ends(1)}, api.OK},
		{api.Packet{}, api.ErrShort}, {api.Packet{Serial: api.MaxInt}, api.ErrShort},
		{api.Packet{Events: ends(1000)}, api.OK}, {api.Packet{Events: append(ends(1000), api.Event{})}, api.ErrLong},
		{api.Packet{Events: []api.Event{{}}}, api.ErrArg}, {api.Packet{Events: []api.Event{mark(2, "a"), mark(1, "a")}}, api.ErrOrder},
	} {
		if err := Check(c.p); err != c.err {
			t.Error(i, err)
		}
		if b, err := Encode(c.p); err != c.err || (len(b) > 0) != (err == api.OK) {
			t.Error(i, err)
		}
	}
}

func TestSame(t *testing.T) {
	if !Same(example, example) || !Same(api.Packet{}, api.Packet{Events: []api.Event{}}) {
		t.Error("equal")
	}
	for _, p := range []api.Packet{{}, {Thread: 6, Serial: 1, Lost: 1, Events: example.Events}, {Thread: 7, Lost: 1, Events: example.Events}, {Thread: 7, Serial: 1, Events: example.Events}, {Thread: 7, Serial: 1, Lost: 1, Events: []api.Event{mark(5, "b")}}, {Thread: 7, Serial: 1, Lost: 1}} {
		if Same(p, example) || Same(example, p) {
			t.Error(p)
		}
	}
}

func TestExample(t *testing.T) {
	want := []byte{14, 2, 2, 2, 2, 97, 0, 2, 6, 10, 0}
	b, err := Encode(example)
	if !slices.Equal(b, want) || err != api.OK {
		t.Error(b, err)
	}
	if p, n, err := Decode(append(want, 1, 2, 3)); !Same(p, example) || n != 11 || err != api.OK {
		t.Error(p, n, err)
	}
}

func TestFull(t *testing.T) {
	var events []api.Event
	for i := range 1000 {
		events = append(events, api.Event{Kind: api.KSample, N: 1, Stack: []string{"a", "n" + strconv.Itoa(i)}})
	}
	if _, err := Encode(api.Packet{Events: events}); err != api.ErrFull {
		t.Error(err)
	}
	if b, err := Encode(api.Packet{Events: events[:999]}); err != api.OK {
		t.Error(err)
	} else if p, n, err := Decode(b); n != len(b) || err != api.OK || len(p.Events) != 999 {
		t.Error(n, err)
	}
}

func TestDecodeErrors(t *testing.T) {
	text := func(b []byte, s string) []byte { return codec.PutText(b, s) }
	with := func(b []byte, n ...int) []byte { return append(b, ints(n...)...) }
	for i, c := range []struct {
		b   []byte
		err api.Errno
	}{
		{nil, api.ErrShort}, {[]byte{128, 0}, api.ErrForm},
		{ints(0, 0), api.ErrShort}, {ints(0, 0, 0, -1), api.ErrForm}, {ints(0, 0, 0, 1001), api.ErrLong},
		{text(ints(0, 0, 0, 1), string(make([]byte, 41))), api.ErrLong},
		{ints(0, 0, 0, 1, -1), api.ErrForm}, {ints(0, 0, 0, 1, 4), api.ErrShort},
		{text(ints(0, 0, 0, 1), " "), api.ErrShort},
		{with(text(ints(0, 0, 0, 1), " "), -1), api.ErrForm},
		{with(text(ints(0, 0, 0, 1), " "), 1001), api.ErrLong},
		{with(text(ints(0, 0, 0, 1), " "), 0), api.ErrName},
		{with(text(text(ints(0, 0, 0, 2), "a"), "a"), 0), api.ErrTwice},
		{ints(0, 0, 0, 0, 1, 0, 0), api.ErrRange}, {ints(0, 0, 0, 0, 1, 0), api.ErrShort},
		{ints(0, 0, 0, 0, 0, -1), api.ErrForm}, {ints(0, 0, 0, 0, 0, 1001), api.ErrLong},
		{ints(0, 0, 0, 0, 0, 0), api.ErrShort}, {ints(-1, 0, 0, 0, 0, 0), api.ErrRange},
		{ints(0, 0, 0, 0, 0, 1, 3, 0, 0), api.ErrRange}, {ints(0, 0, 0, 0, 0, 1, 13, 0), api.ErrForm},
		{ints(-1, 0, 0, 0, 0, 1, 2, 0), api.ErrRange}, {ints(0, 0, 1, 0, 0, 1, 2, 0), api.ErrRange},
		{ints(0, 0, 0, 0, 0, 2, 2, 5, 2, 4), api.ErrOrder},
		{ints(0, 0, 0, 0, 0, 2, 2, 5, 2, 5), api.OK},
		{[]byte{14, 2, 2, 2, 2, 97, 0, 2, 4, 10}, api.ErrForm},
		{with(text(text(ints(0, 0, 0, 2), "a"), "b"), 0, 2, 3, 0, 1, 3, 0, 0), api.ErrForm},
		{with(text(text(ints(0, 0, 0, 2), "a"), "b"), 0, 2, 3, 0, 0, 3, 0, 1), api.OK},
		{with(text(ints(0, 0, 0, 1), "a"), 1, -1, 0, 1, 3, 0, 0), api.ErrForm},
	} {
		p, n, err := Decode(c.b)
		if err != c.err || err != api.OK && (n != 0 || !Same(p, api.Packet{})) || err == api.OK && n != len(c.b) {
			t.Error(i, p, n, err)
		}
	}
}

func random(r *rand.Rand) api.Packet {
	p := api.Packet{Thread: r.Intn(5), Serial: r.Intn(5), Events: make([]api.Event, 1+r.Intn(6))}
	p.Lost = r.Intn(p.Serial + 1)
	at := 0
	for i := range p.Events {
		at += r.Intn(3)
		p.Events[i] = mark(at, string(rune('a'+r.Intn(3))))
		if r.Intn(2) == 0 {
			p.Events[i] = api.Event{At: at, Kind: api.KAlloc, N: r.Intn(9), M: 1 + r.Intn(9), Stack: []string{"x", "y", "x"}[:r.Intn(4)]}
		}
	}
	return p
}

func TestRoundTrip(t *testing.T) {
	r := rand.New(rand.NewSource(1))
	for range 2000 {
		p := random(r)
		b, err := Encode(p)
		if err != api.OK {
			t.Fatal(err)
		}
		if got, n, err := Decode(append(b, 255, 0)); !Same(got, p) || n != len(b) || err != api.OK {
			t.Fatal(p, got, n, err)
		}
		cut := r.Intn(len(b))
		if _, _, err := Decode(b[:cut]); err != api.ErrShort {
			t.Fatal(p, cut, err)
		}
		b[r.Intn(len(b))] += byte(1 + r.Intn(3))
		if got, n, err := Decode(b); err == api.OK {
			if again, err := Encode(got); !slices.Equal(again, b[:n]) || err != api.OK {
				t.Fatal(b, again)
			}
		}
	}
}

func TestJoinSplit(t *testing.T) {
	r := rand.New(rand.NewSource(2))
	for range 2000 {
		p := random(r)
		for n := -1; n <= len(p.Events)+1; n++ {
			a, b, ok := Split(p, n)
			if ok != (n >= 1 && n < len(p.Events)) || !ok && (!Same(a, api.Packet{}) || !Same(b, api.Packet{})) {
				t.Fatal(p, n, ok)
			}
			if !ok {
				continue
			}
			if len(a.Events) != n || a.Serial != p.Serial || a.Lost != p.Lost || b.Lost != 0 || b.Serial != p.Serial+n || b.Thread != p.Thread || Check(a) != api.OK || Check(b) != api.OK {
				t.Fatal(a, b)
			}
			if joined, ok := Join(a, b); !ok || !Same(joined, p) {
				t.Fatal(joined)
			}
		}
	}
	if _, _, ok := Split(api.Packet{Serial: -1, Events: ends(3)}, 1); ok {
		t.Error("split a packet that is not valid")
	}
}

func TestJoin(t *testing.T) {
	a := api.Packet{Thread: 1, Serial: 1, Lost: 1, Events: ends(1)}
	b := api.Packet{Thread: 1, Serial: 2, Events: ends(2)}
	if p, ok := Join(a, b); !ok || !Same(p, api.Packet{Thread: 1, Serial: 1, Lost: 1, Events: ends(3)}) {
		t.Error(p, ok)
	}
	for i, c := range [][2]api.Packet{
		{{Thread: 1, Serial: 1, Lost: 2, Events: ends(1)}, b},
		{a, {Thread: 1, Serial: 2}},
		{a, {Thread: 2, Serial: 2, Events: ends(1)}},
		{a, {Thread: 1, Serial: 2, Lost: 1, Events: ends(1)}},
		{a, {Thread: 1, Serial: 3, Events: ends(1)}},
		{a, {Thread: 1, Serial: 1, Events: ends(1)}},
		{a, {Thread: 1, Serial: 2, Events: []api.Event{mark(2, "a")}}},
		{a, {Thread: 1, Serial: 2, Events: ends(1000)}},
	} {
		if p, ok := Join(c[0], c[1]); ok || !Same(p, api.Packet{}) {
			t.Error(i, p)
		}
	}
	if _, ok := Join(a, api.Packet{Thread: 1, Serial: 2, Events: ends(999)}); !ok {
		t.Error("1000 events")
	}
}
