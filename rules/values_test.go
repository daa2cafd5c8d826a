package rules

import (
	"math"
	"math/rand"
	"reflect"

	"tracebook/api"
	"tracebook/file"
	"tracebook/flame"
	"tracebook/live"
	"tracebook/log"
	"tracebook/order"
	"tracebook/parse"
	"tracebook/plan"
	"tracebook/record"
	"tracebook/session"
	"tracebook/table"
	"tracebook/trace"
)

// integers are numbers at and around the limits.
var integers = []int{0, 1, 2, 3, 4, 5, 7, 12, 16, 32, 63, 64, 100, 1000, -1, -2, -5, api.MaxTime, api.MaxTime - 1, api.MaxInt, -api.MaxInt, api.MaxInt + 1, api.MaxNum, math.MaxInt, math.MinInt, math.MaxInt - 1}

var texts = []string{"", "a", "b", "main", "t7", "from", "to", "k", "count", "sum", "min", "slice", "thread", "frame", "counter", "keep", "hide", "drop", "hidden-1", "slices", "states", "0x1018", " ", "\x00", "\xff", "and", "from slices | where open | limit 2", "1 0 switch 7 0 8", "5 mark a", "main;f 3\n", "obj 1 2 a\nroots 1\n", `[{"ph":"E","tid":3,"ts":9}]`, "thread 1 a 0\nopen 100 stall 1000\nev 1 3 mark x\nflush\norder\ncrash 0\ngaps", "a + (-2) * b", "{\"a\":[1,null,\"x\"]}"}

func pick[T any](r *rand.Rand, l []T) T { return l[r.Intn(len(l))] }

// head returns a head with two clocks.
func head() api.Head {
	return api.Head{Threads: []api.Thread{{Id: 1, Name: "a"}, {Id: 2, Name: "b", Domain: 1}}, Domains: []api.Domain{{}, {Id: 1, Ppm: 100}}, Snaps: []api.Snap{{A: 1, AtA: 3, AtB: api.Interval{Lo: 3, Hi: 9}}}}
}

func events() []api.Event {
	return []api.Event{{At: 1, Kind: api.KBegin, Name: "f"}, {At: 2, Kind: api.KRun, N: 1}, {At: 3, Kind: api.KSample, N: 4, Stack: []string{"m", "f"}}, {At: 4, Kind: api.KSend, N: 7}, {At: 5, Kind: api.KAlloc, N: 1, M: 10, Stack: []string{"m"}}, {At: 6, Kind: api.KCount, Name: "c", N: 5}, {At: 7, Kind: api.KStop, N: 2, M: 2}, {At: 9, Kind: api.KEnd}}
}

// valid returns valid values of the types of api, as the functions themselves make them.
func valid() []any {
	s, _ := session.New(head(), 200, api.Overwrite, 20000)
	for _, e := range events() {
		s, _ = session.Write(s, 1, e)
	}
	s, _ = session.Write(s, 2, api.Event{At: 20, Kind: api.KRecv, N: 7})
	recorded := s
	s, _ = session.Flush(s)
	l, _ := session.Log(s)
	o, _ := order.Of(l)
	t, _ := trace.Of(l)
	d, _ := table.Of(t)
	q, _, _ := parse.Query("from slices | where depth < 5 and 0 <= from | join states on thread")
	narrow, _, _ := parse.Query("from slices | select thread as thread, from as from, to as to | overlap losses on thread | group thread: count() as n | sort n desc | limit 3")
	p, _ := plan.Of(d, narrow)
	graph, _ := flame.OfSamples(t.Samples)
	v, _ := live.New(head())
	v, _ = live.Watch(v, q)
	v, _ = live.Feed(v, nil, l.Parts)
	_, v, _ = live.Flush(v)
	h, packets, _ := file.Read(s.Disk.Data)
	merged, _ := log.Of(h, packets)
	b, names, stacks, _ := record.Encode([]string{"a"}, nil, events()[2])
	heap := api.Heap{Objects: []api.Object{{Id: 1, Size: 3, Type: "t", Refs: []int{1, 2}}, {Id: 2, Size: 4, Type: "u"}}, Roots: []int{1}}
	module := api.Module{Name: "lib", Base: 4096, Size: 256, Symbols: []api.Symbol{{Name: "run"}}}
	json := api.Json{Op: api.JObject, Keys: []string{"a", "b"}, Kids: []api.Json{{Op: api.JNumber, N: 3}, {Op: api.JArray, Kids: []api.Json{{Op: api.JText, S: "x"}}}}}
	query := q.Steps[0].Cond
	return []any{s, recorded, l, merged, o, t, d, d[1].Table, q, narrow, p, graph, v, h, packets, packets[0], packets[0].Events, s.Producers[0], recorded.Producers[0], recorded.Producers[0].Ring, s.Service, s.Disk, s.Disk.Data, t.Threads, t.Slices, t.States, t.Flows, t.Samples, t.Steps, t.Blocks, h.Domains, h.Snaps, h.Snaps[0], b, names, stacks, heap, []api.Module{module}, json, query, q.Steps[0], q.Steps[1], []api.Rule{{What: "slice", Prefix: "f", Action: "hide"}, {What: "thread", Action: "drop"}}, events()[2], []api.Span{{From: 1, To: 5}, {From: 3, To: 9}}, api.Span{From: 1, To: 5}, api.Index{Order: []int{0, 1}, Most: []int{5, 9}}, d[1].Table.Rows, d[1].Table.Rows[0], d[1].Table.Cols, []api.Change{{Row: d[0].Table.Rows[0], N: 1}}, []api.Hop{{Thread: 1, State: 4, Span: api.Span{From: 1, To: 5}}}, []api.Part{{Path: []string{"m"}, Cause: "new", Value: api.Frac{N: 3, D: 2}}}, []api.Frac{{N: 1, D: 3}, {N: 1, D: 2}}, api.Frac{N: 1, D: 3}, api.Interval{Lo: 3, Hi: 9}, []api.Pair{{A: 0, B: 0}, {A: 1, B: 1}}, api.Id{Thread: 1, Serial: 2}, []api.Sort{{Col: "from", Desc: true}}, api.Packed{Type: api.VInt, N: 3, Bytes: []byte{1, 6, 2, 10}}, []api.Value{{Kind: api.VInt, N: 5}, {}}, api.Thread{Id: 1, Name: "a"}}
}

// copyOf returns a copy of a value that shares no memory with it.
func copyOf(v reflect.Value) reflect.Value {
	c := reflect.New(v.Type()).Elem()
	switch v.Kind() {
	case reflect.Slice:
		if v.IsNil() {
			return c
		}
		c.Set(reflect.MakeSlice(v.Type(), v.Len(), v.Len()))
		for i := range v.Len() {
			c.Index(i).Set(copyOf(v.Index(i)))
		}
	case reflect.Array:
		for i := range v.Len() {
			c.Index(i).Set(copyOf(v.Index(i)))
		}
	case reflect.Struct:
		for i := range v.NumField() {
			c.Field(i).Set(copyOf(v.Field(i)))
		}
	default:
		c.Set(v)
	}
	return c
}

// generate sets a value to a random one, which is hardly ever valid.
func generate(r *rand.Rand, v reflect.Value, depth int) {
	switch v.Kind() {
	case reflect.Int:
		v.SetInt(int64(pick(r, integers)))
		if v.Type() != reflect.TypeFor[int]() {
			v.SetInt(int64(r.Intn(18)))
		}
	case reflect.Uint8:
		v.SetUint(uint64(r.Intn(256)))
	case reflect.String:
		v.SetString(pick(r, texts))
	case reflect.Bool:
		v.SetBool(r.Intn(2) == 0)
	case reflect.Slice:
		n := r.Intn(4)
		if depth > 4 {
			n = 0
		}
		v.Set(reflect.MakeSlice(v.Type(), n, n+r.Intn(3)))
		for i := range n {
			generate(r, v.Index(i), depth+1)
		}
	case reflect.Array:
		for i := range v.Len() {
			generate(r, v.Index(i), depth+1)
		}
	case reflect.Struct:
		for i := range v.NumField() {
			generate(r, v.Field(i), depth+1)
		}
	}
}

// change changes one place of a value.
func change(r *rand.Rand, v reflect.Value) {
	switch v.Kind() {
	case reflect.Slice:
		n := v.Len()
		switch k := r.Intn(8); {
		case n == 0 || k == 0:
			generate(r, v, 3)
		case k == 1:
			v.Set(v.Slice(0, r.Intn(n)))
		case k == 2:
			v.Set(reflect.AppendSlice(copyOf(v), copyOf(v.Slice(r.Intn(n), n))))
		default:
			change(r, v.Index(r.Intn(n)))
		}
	case reflect.Array:
		change(r, v.Index(r.Intn(v.Len())))
	case reflect.Struct:
		change(r, v.Field(r.Intn(v.NumField())))
	default:
		generate(r, v, 0)
	}
}
