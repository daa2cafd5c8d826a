package file

import (
	"bytes"
	"math/rand"
	"slices"
	"strconv"
	"testing"

	"tracebook/api"
	"tracebook/codec"
	"tracebook/disk"
	"tracebook/packet"
)

func head() api.Head {
	return api.Head{
		Threads: []api.Thread{{Id: 1, Name: "a"}, {Id: 2, Name: "b", Domain: 1}},
		Domains: []api.Domain{{}, {Id: 1, Ppm: 100}},
		Snaps:   []api.Snap{snap(1)},
	}
}

func snap(at int) api.Snap {
	return api.Snap{A: 1, AtA: at, B: 0, AtB: api.Interval{Lo: 5, Hi: 9}}
}

func of(thread, serial, lost, at, n int) api.Packet {
	p := api.Packet{Thread: thread, Serial: serial, Lost: lost}
	for i := range n {
		p.Events = append(p.Events, api.Event{At: at + i, Kind: api.KMark, Name: "m"})
	}
	return p
}

func sameHead(a, b api.Head) bool {
	return slices.Equal(a.Threads, b.Threads) && slices.Equal(a.Domains, b.Domains) && slices.Equal(a.Snaps, b.Snaps)
}

func empty(size int) api.Disk {
	d, _ := disk.New(size)
	return d
}

func created(t *testing.T) api.Disk {
	d, err := Create(empty(100000), head())
	if err != api.OK {
		t.Fatal(err)
	}
	return d
}

func TestHead(t *testing.T) {
	many := api.Head{Domains: []api.Domain{{}}}
	for i := range 65 {
		many.Threads = append(many.Threads, api.Thread{Id: i, Name: "t"})
	}
	for i, c := range []struct {
		change func(h *api.Head)
		err    api.Errno
	}{
		{func(h *api.Head) {}, api.OK},
		{func(h *api.Head) { *h = api.Head{} }, api.ErrShort},
		{func(h *api.Head) { *h = many }, api.ErrLong}, {func(h *api.Head) { *h = many; h.Threads = many.Threads[:64] }, api.OK},
		{func(h *api.Head) { h.Threads[0].Id = -1 }, api.ErrRange},
		{func(h *api.Head) { h.Threads[1].Name = "" }, api.ErrName},
		{func(h *api.Head) { h.Threads[1].Id = 1; h.Domains = nil }, api.ErrTwice},
		{func(h *api.Head) { h.Domains = nil }, api.ErrShort},
		{func(h *api.Head) { h.Domains[0].Ppm = 1 }, api.ErrForm},
		{func(h *api.Head) { h.Snaps[0].B = 3; h.Threads[0].Domain = 5 }, api.ErrNone},
		{func(h *api.Head) { h.Snaps[0].B = 1; h.Threads[0].Domain = 5 }, api.ErrArg},
		{func(h *api.Head) { h.Threads[0].Domain = 5 }, api.ErrNone},
	} {
		h := head()
		c.change(&h)
		if err := Head(h); err != c.err {
			t.Error(i, err)
		}
		d, err := Create(empty(1000), h)
		if err != c.err || err != api.OK && d.Size != 0 {
			t.Error(i, err)
		}
	}
}

func TestChunk(t *testing.T) {
	for _, b := range [][]byte{nil, {1, 2, 3}, make([]byte, 300)} {
		for _, kind := range []byte{'F', 'H', 0, 255} {
			want := append([]byte{kind}, codec.PutInt(nil, len(b))...)
			want = append(want, codec.PutInt(nil, codec.Sum(append([]byte{kind}, b...)))...)
			if got := Chunk(kind, b); !bytes.Equal(got, append(want, b...)) {
				t.Error(got)
			}
		}
	}
	if b := Chunk('F', nil); b[0] != 70 || b[1] != 0 {
		t.Error(b)
	}
}

// headChunk is the chunk H of a head, byte by byte.
func headChunk() []byte {
	b := codec.PutText(codec.PutInt(codec.PutInt(nil, 2), 1), "a")
	b = codec.PutText(codec.PutInt(codec.PutInt(b, 0), 2), "b")
	for _, n := range []int{1, 2, 0, 0, 1, 100, 1, 1, 1, 0, 5, 9} {
		b = codec.PutInt(b, n)
	}
	return Chunk('H', b)
}

func snapChunk(at int) []byte {
	var b []byte
	for _, n := range []int{1, at, 0, 5, 9} {
		b = codec.PutInt(b, n)
	}
	return Chunk('S', b)
}

func packetChunk(p api.Packet) []byte {
	b, _ := packet.Encode(p)
	return Chunk('P', b)
}

func TestBytes(t *testing.T) {
	d := created(t)
	if !bytes.Equal(d.Data, headChunk()) || d.Durable != len(d.Data) {
		t.Error(d.Data)
	}
	d, err := Append(d, []api.Snap{snap(2), snap(3)}, []api.Packet{of(2, 0, 0, 1, 2), of(1, 1, 1, 0, 1)})
	want := slices.Concat(headChunk(), snapChunk(2), snapChunk(3), packetChunk(of(2, 0, 0, 1, 2)), packetChunk(of(1, 1, 1, 0, 1)), Chunk('F', nil))
	if err != api.OK || !bytes.Equal(d.Data, want) || d.Durable != len(want) {
		t.Error(err)
	}
	same, err := Append(d, nil, nil)
	if err != api.OK || !bytes.Equal(same.Data, want) {
		t.Error(err)
	}
}

func TestCreateErrors(t *testing.T) {
	size := len(headChunk())
	armed := func(n int) api.Disk {
		d, _ := disk.Arm(empty(1000), n)
		return d
	}
	down := empty(1000)
	down.Down = true
	for i, c := range []struct {
		d     api.Disk
		h     api.Head
		err   api.Errno
		bytes int
	}{
		{api.Disk{}, api.Head{}, api.ErrRange, 0},
		{api.Disk{Size: 5, Data: []byte{1}, Left: -1, Down: true}, api.Head{}, api.ErrState, 0},
		{empty(5), api.Head{}, api.ErrShort, 0},
		{down, api.Head{}, api.ErrShort, 0},
		{down, head(), api.ErrDown, 0},
		{empty(size - 1), head(), api.ErrFull, 0},
		{armed(3), head(), api.ErrDown, 3},
		{armed(size), head(), api.ErrDown, size},
		{armed(size + 1), head(), api.OK, size},
		{empty(size), head(), api.OK, size},
	} {
		d, err := Create(c.d, c.h)
		if err != c.err || len(d.Data) != c.bytes || d.Down != (err == api.ErrDown) || err == api.ErrDown && d.Size != c.d.Size {
			t.Error(i, d, err)
		}
	}
}

func TestAppendErrors(t *testing.T) {
	d := created(t)
	d, _ = Append(d, nil, []api.Packet{of(1, 0, 0, 10, 2)})
	torn := d
	torn.Data = torn.Data[:len(torn.Data)-1]
	torn.Durable--
	down := d
	down.Down = true
	downTorn := torn
	downTorn.Down = true
	big := of(1, 2, 0, 11, 1)
	big.Events = nil
	for i := range 1000 {
		big.Events = append(big.Events, api.Event{At: 11, Kind: api.KSample, N: 1, Stack: []string{"n" + strconv.Itoa(i), "x", "y"}})
	}
	for i, c := range []struct {
		d     api.Disk
		snaps []api.Snap
		l     []api.Packet
		err   api.Errno
	}{
		{api.Disk{}, nil, nil, api.ErrRange},
		{down, nil, nil, api.ErrDown}, {downTorn, nil, nil, api.ErrDown},
		{empty(10), nil, nil, api.ErrState}, {torn, []api.Snap{{}}, nil, api.ErrState},
		{d, []api.Snap{{}}, []api.Packet{{}}, api.ErrArg}, {d, make([]api.Snap, 200), nil, api.ErrLong},
		{d, nil, []api.Packet{{Thread: 9}}, api.ErrShort},
		{d, nil, []api.Packet{of(9, 0, 0, 0, 1)}, api.ErrNone},
		{d, nil, []api.Packet{of(1, 1, 0, 20, 1)}, api.ErrOrder}, {d, nil, []api.Packet{of(1, 3, 0, 20, 1)}, api.ErrOrder},
		{d, nil, []api.Packet{of(1, 2, 0, 10, 1)}, api.ErrOrder}, {d, nil, []api.Packet{of(1, 2, 0, 11, 1)}, api.OK},
		{d, nil, []api.Packet{of(2, 1, 1, 0, 3), of(1, 5, 3, 11, 1), of(2, 4, 0, 2, 1)}, api.OK},
		{d, nil, []api.Packet{of(2, 1, 1, 0, 3), of(1, 5, 3, 11, 1), of(2, 4, 0, 1, 1)}, api.ErrOrder},
		{d, nil, []api.Packet{big, {}}, api.ErrFull},
	} {
		after, err := Append(c.d, c.snaps, c.l)
		if err != c.err || err == api.ErrDown && (!after.Down || len(after.Data) != len(c.d.Data)) || err != api.OK && err != api.ErrDown && after.Size != 0 {
			t.Error(i, err)
		}
	}
}

func TestManyEvents(t *testing.T) {
	d, _ := Create(empty(api.MaxDisk), head())
	var l []api.Packet
	for i := range 20 {
		l = append(l, of(1, 1000*i, 0, 1000*i, 1000))
	}
	full, err := Append(d, nil, l)
	if err != api.OK {
		t.Fatal(err)
	}
	if _, err := Append(full, nil, []api.Packet{of(1, 20000, 0, 30000, 1)}); err != api.ErrLong {
		t.Error(err)
	}
	if _, err := Append(d, nil, append(l, of(2, 0, 0, 0, 1))); err != api.ErrLong {
		t.Error(err)
	}
	more := slices.Concat(full.Data, packetChunk(of(2, 0, 0, 0, 1)), Chunk('F', nil))
	if _, _, n := Read(more); n != len(full.Data) {
		t.Error("too many events", n)
	}
}

func TestNoRoom(t *testing.T) {
	chunks := slices.Concat(packetChunk(of(1, 0, 0, 0, 1)), Chunk('F', nil))
	size := len(headChunk()) + len(chunks)
	for _, short := range []int{0, 1} {
		d, _ := Create(empty(size-short), head())
		after, err := Append(d, nil, []api.Packet{of(1, 0, 0, 0, 1)})
		if short == 1 && (err != api.ErrFull || after.Size != 0) || short == 0 && err != api.OK {
			t.Error(short, err)
		}
	}
}

func TestReadRejects(t *testing.T) {
	h, p, s, f := headChunk(), packetChunk(of(1, 0, 0, 0, 1)), snapChunk(2), Chunk('F', nil)
	long := codec.PutInt(nil, 5)
	for i, c := range []struct {
		b    []byte
		used int
	}{
		{nil, 0}, {f, 0}, {h[:len(h)-1], 0}, {h, len(h)},
		{slices.Concat(h, f), len(h)},
		{slices.Concat(h, p), len(h)},
		{slices.Concat(h, p, f), len(h) + len(p) + len(f)},
		{slices.Concat(h, s, p, f), len(h) + len(s) + len(p) + len(f)},
		{slices.Concat(h, s, f, p, f), len(h) + len(s) + 2*len(f) + len(p)},
		{slices.Concat(h, p, s, f), len(h)},
		{slices.Concat(h, h, p, f), len(h)},
		{slices.Concat(h, p, p, f), len(h)},
		{slices.Concat(h, p, f, p, f), len(h) + len(p) + len(f)},
		{slices.Concat(h, p, Chunk('F', []byte{0})), len(h)},
		{slices.Concat(h, Chunk('X', nil), p, f), len(h)},
		{slices.Concat(h, Chunk('S', append(ints(1, 2, 0, 5, 9), 0)), f), len(h)},
		{slices.Concat(h, Chunk('S', ints(1, 2, 0, 5)), f), len(h)},
		{slices.Concat(h, Chunk('S', ints(1, 2, 0, 5, 4)), f), len(h)},
		{slices.Concat(h, Chunk('P', append(packetBody(), 0)), f), len(h)},
		{slices.Concat(h, packetChunk(of(3, 0, 0, 0, 1)), f), len(h)},
		{slices.Concat(h, packetChunk(of(1, 1, 0, 0, 1)), f), len(h)},
		{slices.Concat(h, []byte{'F'}, long), len(h)},
		{slices.Concat(h, p, []byte{'F'}, codec.PutInt(nil, -1), codec.PutInt(nil, codec.Sum([]byte{'F'}))), len(h)},
		{Chunk('H', append(headBytes(head()), 0)), 0},
		{Chunk('H', headBytes(api.Head{})), 0},
		{Chunk('H', ints(-1)), 0}, {Chunk('H', ints(1000000000)), 0},
	} {
		got, l, used := Read(c.b)
		if used != c.used || used == 0 && (!sameHead(got, api.Head{}) || len(l) > 0) {
			t.Error(i, used, c.used)
		}
	}
}

func packetBody() []byte {
	b, _ := packet.Encode(of(1, 0, 0, 0, 1))
	return b
}

func TestTooManySnaps(t *testing.T) {
	d := created(t)
	for range 199 {
		d.Data = append(d.Data, slices.Concat(snapChunk(2), Chunk('F', nil))...)
	}
	if h, _, used := Read(d.Data); used != len(d.Data) || len(h.Snaps) != 200 {
		t.Error(len(h.Snaps))
	}
	more := append(slices.Clip(d.Data), slices.Concat(snapChunk(2), Chunk('F', nil))...)
	if h, _, used := Read(more); used != len(d.Data) || len(h.Snaps) != 200 {
		t.Error(len(h.Snaps))
	}
}

// flush is what a call of Append adds.
type flush struct {
	snaps []api.Snap
	l     []api.Packet
}

func randomFlushes(r *rand.Rand) []flush {
	var l []flush
	next, at := map[int]int{}, map[int]int{}
	for range r.Intn(4) {
		f := flush{}
		for range r.Intn(3) {
			f.snaps = append(f.snaps, snap(r.Intn(9)))
		}
		for range r.Intn(4) {
			id, lost, n := 1+r.Intn(2), r.Intn(3), 1+r.Intn(3)
			f.l = append(f.l, of(id, next[id]+lost, lost, at[id], n))
			next[id] += lost + n
			at[id] += n - 1
		}
		l = append(l, f)
	}
	return l
}

func TestContents(t *testing.T) {
	r := rand.New(rand.NewSource(1))
	for range 100 {
		d := created(t)
		ends := []int{len(d.Data)}
		h := head()
		var l []api.Packet
		for _, f := range randomFlushes(r) {
			after, err := Append(d, f.snaps, f.l)
			if err != api.OK {
				t.Fatal(err)
			}
			d = after
			ends = append(ends, len(d.Data))
			h.Snaps, l = append(h.Snaps, f.snaps...), append(l, f.l...)
		}
		got, packets, used := Read(d.Data)
		if used != len(d.Data) || !sameHead(got, h) || !slices.EqualFunc(packets, l, packet.Same) {
			t.Fatal(used, got, packets)
		}
		for n := range d.Data {
			want := 0
			for _, end := range ends {
				if end <= n {
					want = end
				}
			}
			if _, _, used := Read(d.Data[:n]); used != want {
				t.Fatal(n, used, want)
			}
		}
		changed := slices.Clone(d.Data)
		changed[r.Intn(len(changed))] ^= 1 << r.Intn(8)
		if _, _, used := Read(changed); used >= len(d.Data) {
			t.Fatal("a changed byte")
		}
	}
}

// TestPower lets the power go at every moment of an Append.
func TestPower(t *testing.T) {
	d := created(t)
	d, _ = Append(d, nil, []api.Packet{of(1, 0, 0, 0, 2)})
	l := []api.Packet{of(2, 0, 0, 0, 2), of(1, 2, 0, 1, 1)}
	whole, _ := Append(d, []api.Snap{snap(4)}, l)
	size := len(whole.Data) - len(d.Data)
	for n := range size + 2 {
		armed, _ := disk.Arm(d, n)
		after, err := Append(armed, []api.Snap{snap(4)}, l)
		if (err == api.OK) != (n > size) || err != api.OK && err != api.ErrDown {
			t.Fatal(n, err)
		}
		if again, err := Open(after); after.Down && (err != api.ErrDown || len(again.Data) != len(after.Data)) {
			t.Fatal(n, err)
		}
		for keep := range size + 1 {
			opened, openErr := Open(disk.Crash(after, keep))
			data := opened.Data
			if openErr != api.OK || opened.Durable != len(data) || !bytes.Equal(data, d.Data) && !bytes.Equal(data, whole.Data) || err == api.OK && !bytes.Equal(data, whole.Data) {
				t.Fatal(n, keep, openErr)
			}
		}
	}
}

func TestOpenErrors(t *testing.T) {
	d := created(t)
	bad := empty(100)
	bad.Data = []byte{1, 2}
	for i, c := range []struct {
		d   api.Disk
		err api.Errno
	}{{api.Disk{}, api.ErrRange}, {api.Disk{Size: 1, Down: true}, api.ErrDown}, {empty(5), api.ErrForm}, {bad, api.ErrForm}, {d, api.OK}} {
		after, err := Open(c.d)
		if err != c.err || err == api.ErrDown != after.Down || err != api.OK && err != api.ErrDown && after.Size != 0 {
			t.Error(i, err)
		}
	}
	d, _ = disk.Append(d, []byte{1, 2, 3})
	armed, _ := disk.Arm(d, 0)
	after, err := Open(armed)
	if err != api.ErrDown || !after.Down || len(after.Data) != len(d.Data)-3 {
		t.Error(err)
	}
}
