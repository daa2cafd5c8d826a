package table

import (
	"fmt"
	"math/rand"
	"slices"
	"strings"
	"testing"

	"tracebook/api"
)

func row(values ...any) []api.Value {
	var l []api.Value
	for _, v := range values {
		switch v := v.(type) {
		case int:
			l = append(l, integer(v))
		case string:
			l = append(l, text(v))
		case bool:
			l = append(l, boolean(v))
		default:
			l = append(l, api.Value{})
		}
	}
	return l
}

func tableOf(names string, rows ...[]api.Value) api.Table {
	return api.Table{Cols: columns(names), Rows: rows}
}

func TestCheck(t *testing.T) {
	var many []string
	for i := range 33 {
		many = append(many, fmt.Sprint("c", i))
	}
	for i, c := range []struct {
		t   api.Table
		err api.Errno
	}{
		{api.Table{}, api.OK}, {tableOf("k :s ?b", row(1, "a", true), row(nil, nil, nil)), api.OK}, {api.Table{Rows: make([][]api.Value, 3)}, api.OK},
		{tableOf(strings.Join(many, " ")), api.ErrLong}, {tableOf(strings.Join(many[1:], " ")), api.OK}, {api.Table{Cols: []api.Column{{}}, Rows: make([][]api.Value, api.MaxRows+1)}, api.ErrLong}, {api.Table{Rows: make([][]api.Value, api.MaxRows)}, api.OK},
		{api.Table{Cols: []api.Column{{Name: "k", Type: 9}, {Name: ""}}}, api.ErrType}, {api.Table{Cols: []api.Column{{Name: "", Type: 9}}}, api.ErrName}, {api.Table{Cols: []api.Column{{Name: "k"}}}, api.ErrType}, {tableOf("k k"), api.ErrTwice}, {tableOf("k :k", row(1)), api.ErrTwice},
		{tableOf("k", row("a")), api.ErrType}, {tableOf("k", row(1, 2)), api.ErrForm}, {tableOf("k", row()), api.ErrForm}, {tableOf("k", row(1), row("a"), row(1, 2)), api.ErrType}, {tableOf("k", row(1), row(1, 2), row("a")), api.ErrForm}, {tableOf("k", row(api.MaxInt+1)), api.ErrRange}, {tableOf(":k :l", row(strings.Repeat("x", 201), 1)), api.ErrLong},
	} {
		if err := Check(c.t); err != c.err {
			t.Error(i, err)
		}
		if s, err := Sorted(c.t, []api.Sort{{Col: "none"}}); c.err != api.OK && (err != c.err || !Same(s, api.Table{})) {
			t.Error(i, err)
		}
		if err := CheckAll([]api.Named{{Name: "a"}, {Name: "b", Table: c.t}}); err != c.err {
			t.Error(i, err)
		}
	}
}

func TestCheckAll(t *testing.T) {
	bad := tableOf("k k")
	var many []api.Named
	for i := range 33 {
		many = append(many, api.Named{Name: fmt.Sprint("t", i)})
	}
	for i, c := range []struct {
		d   []api.Named
		err api.Errno
	}{{nil, api.OK}, {many[:32], api.OK}, {many, api.ErrLong}, {[]api.Named{{Name: "", Table: api.Table{Cols: []api.Column{{}}}}}, api.ErrName}, {[]api.Named{{Name: "a"}, {Name: "a", Table: bad}}, api.ErrTwice}, {[]api.Named{{Name: "b", Table: tableOf("k", row("a"))}, {Name: "b"}}, api.ErrType}} {
		if err := CheckAll(c.d); err != c.err {
			t.Error(i, err)
		}
	}
}

func TestOf(t *testing.T) {
	tr := api.Trace{
		Span: api.Span{To: 10}, Threads: []api.Thread{{Id: 7, Name: "a"}},
		Slices:  []api.Slice{{Thread: 7, Parent: -1, Name: "x", Span: api.Span{To: 10}, Self: 6}, {Thread: 7, Parent: 0, Depth: 1, Name: "y", Span: api.Span{From: 2, To: 6}, Self: 4, Open: true}},
		States:  []api.State{{Thread: 7, State: 4, Span: api.Span{To: 3}, Cpu: 0, On: -1, By: -1}, {Thread: 7, State: 2, Span: api.Span{From: 3, To: 10}, Cpu: -1, On: 9, By: 8}},
		Flows:   []api.Flow{{Id: 1, From: api.Id{Thread: 7}, To: api.Id{Thread: 7, Serial: 5}, Send: 2, Recv: 9}},
		Samples: []api.Sample{{Thread: 7, At: 1, Weight: 2, Stack: []string{"m", "f"}}, {Thread: 7, At: 9, Weight: 1}},
		Steps:   []api.Step{{Name: "c", At: 9, Value: -1}},
		Blocks:  []api.Block{{Id: 1, Thread: 7, Size: 3, Span: api.Span{To: 4}}, {Id: 2, Thread: 7, Size: 3, Span: api.Span{To: 10}, Live: true}},
		Lost:    []api.Loss{{Thread: 7, Span: api.Span{To: 99}, Count: 5}},
	}
	d, err := Of(tr)
	want := []api.Named{
		{Name: "threads", Table: tableOf("id :name", row(7, "a"))},
		{Name: "slices", Table: tableOf("id thread parent depth :name from to self ?open", row(0, 7, nil, 0, "x", 0, 10, 6, false), row(1, 7, 0, 1, "y", 2, 6, 4, true))},
		{Name: "states", Table: tableOf("thread state from to cpu on by", row(7, 4, 0, 3, 0, nil, nil), row(7, 2, 3, 10, nil, 9, 8))},
		{Name: "flows", Table: tableOf("id source target from to", row(1, 7, 7, 2, 9))},
		{Name: "samples", Table: tableOf("at thread weight :leaf depth", row(1, 7, 2, "f", 2), row(9, 7, 1, nil, 0))},
		{Name: "counters", Table: tableOf(":name at value", row("c", 9, -1))},
		{Name: "blocks", Table: tableOf("id thread size from to ?live", row(1, 7, 3, 0, 4, false), row(2, 7, 3, 0, 10, true))},
		{Name: "losses", Table: tableOf("thread from to count", row(7, 0, 99, 5))},
	}
	if err != api.OK || len(d) != len(want) || CheckAll(d) != api.OK {
		t.Fatal(d, err)
	}
	for i, x := range want {
		if d[i].Name != x.Name || !Same(d[i].Table, x.Table) {
			t.Error(d[i])
		}
	}
	if d, err := Of(api.Trace{Threads: []api.Thread{{}}}); len(d) != 0 || err != api.ErrName {
		t.Error(d, err)
	}
	long := api.Trace{Span: api.Span{To: 10}, Threads: tr.Threads, Samples: slices.Repeat(tr.Samples[1:], api.MaxRows+1)}
	if d, err := Of(long); len(d) != 0 || err != api.ErrLong {
		t.Error(err)
	}
	long.Samples = long.Samples[1:]
	if d, err := Of(long); len(d) != 8 || err != api.OK {
		t.Error(err)
	}
	if d, err := Of(api.Trace{}); len(d) != 8 || err != api.OK || CheckAll(d) != api.OK {
		t.Error(err)
	}
}

func TestFind(t *testing.T) {
	d := []api.Named{{Name: "a", Table: tableOf("k")}, {Name: "b", Table: tableOf("l l k")}, {Name: "a", Table: tableOf("m")}}
	if x, ok := Find(d, "a"); !ok || !Same(x, tableOf("k")) {
		t.Error(x)
	}
	if x, ok := Find(d, "c"); ok || !Same(x, api.Table{}) {
		t.Error(x)
	}
	if Col(d[1].Table, "k") != 2 || Col(d[1].Table, "l") != 0 || Col(d[1].Table, "x") != -1 || Col(api.Table{}, "") != -1 {
		t.Error("Col")
	}
}

func TestOrder(t *testing.T) {
	// In increasing order, each different from the next one.
	l := append(row(nil, false, true, -5, 0, 5, "", "a", "a\x00", "ab", "b"), api.Value{Kind: 9})
	for i, a := range l {
		for j, b := range l {
			want := 0
			if i < j {
				want = -1
			} else if i > j {
				want = 1
			}
			if Order(a, b) != want {
				t.Error(a, b, Order(a, b))
			}
		}
	}
	if Order(api.Value{N: 5}, api.Value{S: "x"}) != 0 || Order(api.Value{Kind: 9, N: 1}, api.Value{Kind: 9}) != 0 || Order(api.Value{Kind: api.VText, S: "a", N: 3}, text("a")) != 0 {
		t.Error("other values of one kind are equal")
	}
}

func TestSorted(t *testing.T) {
	x := tableOf("k :s", row(1, "b"), row(2, "a"), row(1, "a"))
	for i, c := range []struct {
		l    []api.Sort
		want []int
	}{{nil, []int{0, 1, 2}}, {[]api.Sort{{Col: "k"}}, []int{0, 2, 1}}, {[]api.Sort{{Col: "k", Desc: true}, {Col: "s"}}, []int{1, 2, 0}}, {[]api.Sort{{Col: "s"}, {Col: "s", Desc: true}}, []int{1, 2, 0}}} {
		got, err := Sorted(x, c.l)
		want := api.Table{Cols: x.Cols}
		for _, i := range c.want {
			want.Rows = append(want.Rows, x.Rows[i])
		}
		if !Same(got, want) || err != api.OK {
			t.Error(i, got, err)
		}
	}
	if got, err := Sorted(x, []api.Sort{{Col: "k"}, {Col: "x"}}); !Same(got, api.Table{}) || err != api.ErrColumn {
		t.Error(err)
	}
	if !Same(x, tableOf("k :s", row(1, "b"), row(2, "a"), row(1, "a"))) {
		t.Error("the argument was changed")
	}
}

func TestSortedRandom(t *testing.T) {
	r := rand.New(rand.NewSource(1))
	for range 500 {
		x := tableOf("k :s n")
		for i := range r.Intn(12) {
			line := row(r.Intn(3), string(rune('a'+r.Intn(2))), i)
			if r.Intn(4) == 0 {
				line[r.Intn(2)] = api.Value{}
			}
			x.Rows = append(x.Rows, line)
		}
		desc := r.Intn(2) == 0
		got, err := Sorted(x, []api.Sort{{Col: "s", Desc: desc}, {Col: "k"}})
		if err != api.OK || len(got.Rows) != len(x.Rows) {
			t.Fatal(err)
		}
		for i := 1; i < len(got.Rows); i++ {
			a, b := got.Rows[i-1], got.Rows[i]
			first := Order(a[1], b[1])
			if desc {
				first = -first
			}
			if first > 0 || first == 0 && Order(a[0], b[0]) > 0 || first == 0 && Order(a[0], b[0]) == 0 && a[2].N > b[2].N {
				t.Fatal(got)
			}
		}
	}
}

func TestSame(t *testing.T) {
	x := tableOf("k :s", row(1, "b"), row(2, "a"))
	for i, y := range []api.Table{{}, tableOf("k :s", row(2, "a"), row(1, "b")), tableOf("k :s", row(1, "b")), tableOf("k s", row(1, "b"), row(2, "a")), tableOf("k :x", row(1, "b"), row(2, "a")), tableOf("k :s", row(1, "b"), row(2)), tableOf("k :s", row(1, "b"), row(2, "c"))} {
		if Same(x, y) || Same(y, x) || !Same(y, y) {
			t.Error(i)
		}
	}
}
