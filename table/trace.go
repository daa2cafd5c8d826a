package table

import (
	"strings"

	"tracebook/api"
	"tracebook/trace"
)

func integer(n int) api.Value { return api.Value{Kind: api.VInt, N: n} }

func text(s string) api.Value { return api.Value{Kind: api.VText, S: s} }

func boolean(b bool) api.Value {
	if b {
		return api.Value{Kind: api.VBool, N: 1}
	}
	return api.Value{Kind: api.VBool}
}

// optional returns an integer, or null for -1.
func optional(n int) api.Value {
	if n == -1 {
		return api.Value{}
	}
	return integer(n)
}

// leaf returns the last frame of a stack, or null.
func leaf(stack []string) api.Value {
	if len(stack) == 0 {
		return api.Value{}
	}
	return text(stack[len(stack)-1])
}

// columns returns the columns with names; a colon before a name stands for a text, a question mark for a boolean.
func columns(names string) []api.Column {
	var cols []api.Column
	for _, name := range strings.Fields(names) {
		switch name[0] {
		case ':':
			cols = append(cols, api.Column{Name: name[1:], Type: api.VText})
		case '?':
			cols = append(cols, api.Column{Name: name[1:], Type: api.VBool})
		default:
			cols = append(cols, api.Column{Name: name, Type: api.VInt})
		}
	}
	return cols
}

// of returns the table with a row for each element.
func of[T any](name, names string, l []T, row func(int, T) []api.Value) api.Named {
	t := api.Table{Cols: columns(names)}
	for i, x := range l {
		t.Rows = append(t.Rows, row(i, x))
	}
	return api.Named{Name: name, Table: t}
}

// Of returns the tables of a trace.
func Of(t api.Trace) ([]api.Named, api.Errno) {
	if err := trace.Check(t); err != api.OK {
		return nil, err
	}
	most := max(len(t.Slices), len(t.States), len(t.Flows), len(t.Samples), len(t.Steps), len(t.Blocks), len(t.Lost))
	if most > api.MaxRows {
		return nil, api.ErrLong
	}
	return []api.Named{
		of("threads", "id :name", t.Threads, func(_ int, x api.Thread) []api.Value {
			return []api.Value{integer(x.Id), text(x.Name)}
		}),
		of("slices", "id thread parent depth :name from to self ?open", t.Slices, func(i int, x api.Slice) []api.Value {
			return []api.Value{integer(i), integer(x.Thread), optional(x.Parent), integer(x.Depth), text(x.Name), integer(x.Span.From), integer(x.Span.To), integer(x.Self), boolean(x.Open)}
		}),
		of("states", "thread state from to cpu on by", t.States, func(_ int, x api.State) []api.Value {
			return []api.Value{integer(x.Thread), integer(x.State), integer(x.Span.From), integer(x.Span.To), optional(x.Cpu), optional(x.On), optional(x.By)}
		}),
		of("flows", "id source target from to", t.Flows, func(_ int, x api.Flow) []api.Value {
			return []api.Value{integer(x.Id), integer(x.From.Thread), integer(x.To.Thread), integer(x.Send), integer(x.Recv)}
		}),
		of("samples", "at thread weight :leaf depth", t.Samples, func(_ int, x api.Sample) []api.Value {
			return []api.Value{integer(x.At), integer(x.Thread), integer(x.Weight), leaf(x.Stack), integer(len(x.Stack))}
		}),
		of("counters", ":name at value", t.Steps, func(_ int, x api.Step) []api.Value {
			return []api.Value{text(x.Name), integer(x.At), integer(x.Value)}
		}),
		of("blocks", "id thread size from to ?live", t.Blocks, func(_ int, x api.Block) []api.Value {
			return []api.Value{integer(x.Id), integer(x.Thread), integer(x.Size), integer(x.Span.From), integer(x.Span.To), boolean(x.Live)}
		}),
		of("losses", "thread from to count", t.Lost, func(_ int, x api.Loss) []api.Value {
			return []api.Value{integer(x.Thread), integer(x.Span.From), integer(x.Span.To), integer(x.Count)}
		}),
	}, api.OK
}
