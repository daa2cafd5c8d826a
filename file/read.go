package file

import (
	"slices"

	"tracebook/api"
	"tracebook/clock"
	"tracebook/codec"
	"tracebook/packet"
)

// position is how far the file has got with a thread.
type position struct {
	next int // the number after the last event
	last int // the reading of the last event
}

// contents is what a valid file contains.
type contents struct {
	head    api.Head
	packets []api.Packet
	events  int
	threads map[int]position
}

// clone returns contents that can be changed without changing c.
func (c contents) clone() contents {
	threads := make(map[int]position, len(c.threads))
	for id, p := range c.threads {
		threads[id] = p
	}
	c.threads = threads
	c.packets = slices.Clip(c.packets)
	c.head.Snaps = slices.Clip(c.head.Snaps)
	return c
}

// add adds a packet that packet.Check accepts, if it follows; too many events are the caller's concern.
func (c *contents) add(p api.Packet) api.Errno {
	at, ok := c.threads[p.Thread]
	if !ok {
		return api.ErrNone
	}
	if p.Serial != at.next+p.Lost || p.Events[0].At < at.last {
		return api.ErrOrder
	}
	c.threads[p.Thread] = position{p.Serial + len(p.Events), p.Events[len(p.Events)-1].At}
	c.packets = append(c.packets, p)
	c.events += len(p.Events)
	return api.OK
}

// read returns the contents of the longest valid prefix. The prefixes that are valid files end
// after the head and after flushes, and each one but the head alone continues a shorter one.
func read(b []byte) (contents, int) {
	kind, body, used, ok := readChunk(b)
	if !ok || kind != kindHead {
		return contents{}, 0
	}
	head, ok := readHead(body)
	if !ok || Head(head) != api.OK {
		return contents{}, 0
	}
	c := contents{head: head, threads: map[int]position{}}
	for _, t := range head.Threads {
		c.threads[t.Id] = position{}
	}
	for {
		next, n, ok := readFlush(c, b[used:])
		if !ok {
			return c, used
		}
		c = next
		used += n
	}
}

// readChunk returns the kind and the bytes of the chunk at the beginning of b, and its size.
func readChunk(b []byte) (byte, []byte, int, bool) {
	if len(b) == 0 {
		return 0, nil, 0, false
	}
	r := reader{b: b, used: 1}
	length, sum := r.int(), r.int()
	if r.failed || length < 0 || length > len(b)-r.used {
		return 0, nil, 0, false
	}
	end := r.used + length
	body := b[r.used:end]
	if codec.Sum(slices.Concat(b[:1], body)) != sum {
		return 0, nil, 0, false
	}
	return b[0], body, end, true
}

// readFlush returns the contents after the flush at the beginning of b, and its size.
func readFlush(c contents, b []byte) (contents, int, bool) {
	c = c.clone()
	used, chunks, packets := 0, 0, false
	for {
		kind, body, n, ok := readChunk(b[used:])
		if !ok {
			return contents{}, 0, false
		}
		used += n
		switch kind {
		case kindSnap:
			ok = !packets && c.addSnap(body)
		case kindPacket:
			packets = true
			ok = c.addPacket(body)
		case kindFlush:
			valid := chunks > 0 && len(body) == 0 && c.events <= api.MaxEvents && clock.Check(c.head.Domains, c.head.Snaps) == api.OK
			return c, used, valid
		default:
			ok = false
		}
		if !ok {
			return contents{}, 0, false
		}
		chunks++
	}
}

// addSnap adds the snapshot of a chunk.
func (c *contents) addSnap(body []byte) bool {
	r := reader{b: body}
	c.head.Snaps = append(c.head.Snaps, r.snap())
	return r.done()
}

// addPacket adds the packet of a chunk.
func (c *contents) addPacket(body []byte) bool {
	p, n, err := packet.Decode(body)
	return err == api.OK && n == len(body) && c.add(p) == api.OK
}

// reader reads parts of a chunk one after the other; after a failure it returns zero values.
type reader struct {
	b      []byte
	used   int
	failed bool
}

// part counts the bytes of a part that was read, or its failure.
func (r *reader) part(n int, err api.Errno) {
	r.used += n
	r.failed = r.failed || err != api.OK
}

func (r *reader) int() int {
	if r.failed {
		return 0
	}
	n, size, err := codec.Int(r.b[r.used:])
	r.part(size, err)
	return n
}

func (r *reader) name() string {
	if r.failed {
		return ""
	}
	s, size, err := codec.Text(r.b[r.used:], api.MaxName)
	r.part(size, err)
	return s
}

// count reads a number of elements; a head with more than most is not valid.
func (r *reader) count(most int) int {
	n := r.int()
	if n < 0 || n > most {
		r.failed = true
		return 0
	}
	return n
}

func (r *reader) snap() api.Snap {
	return api.Snap{A: r.int(), AtA: r.int(), B: r.int(), AtB: api.Interval{Lo: r.int(), Hi: r.int()}}
}

// done reports whether everything was read without a failure.
func (r *reader) done() bool { return !r.failed && r.used == len(r.b) }

// readHead returns the head of a chunk, which Head need not accept.
func readHead(body []byte) (api.Head, bool) {
	r := reader{b: body}
	var h api.Head
	for range r.count(api.MaxThreads) {
		h.Threads = append(h.Threads, api.Thread{Id: r.int(), Name: r.name(), Domain: r.int()})
	}
	for range r.count(api.MaxDomains) {
		h.Domains = append(h.Domains, api.Domain{Id: r.int(), Ppm: r.int()})
	}
	for range r.count(api.MaxSnaps) {
		h.Snaps = append(h.Snaps, r.snap())
	}
	return h, r.done()
}
