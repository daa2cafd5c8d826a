package exec

import (
	"cmp"
	"slices"
	"strconv"

	"tracebook/api"
	"tracebook/itree"
	"tracebook/table"
)

// matcher finds the rows of the second table of a step that agree with a row of the first one.
type matcher struct {
	first, second api.Table
	at, atSecond  []int // the columns in which rows have to agree
	further       []int // the columns of the second table that the result has
	groups        map[string][]int
}

// newMatcher groups the rows of the second table by their values; times are the columns of times of the step.
func newMatcher(d []api.Named, t api.Table, s api.QStep, times ...string) *matcher {
	other, _ := table.Find(d, s.Table)
	m := &matcher{first: t, second: other, groups: map[string][]int{}}
	for _, name := range s.Cols {
		m.at = append(m.at, table.Col(t, name))
		m.atSecond = append(m.atSecond, table.Col(other, name))
	}
	for i, c := range other.Cols {
		if !slices.Contains(s.Cols, c.Name) && !slices.Contains(times, c.Name) {
			m.further = append(m.further, i)
		}
	}
	for i, row := range other.Rows {
		if k, ok := key(row, m.atSecond); ok {
			m.groups[k] = append(m.groups[k], i)
		}
	}
	return m
}

// key returns a text that is the same for rows with equal values in columns; rows with nulls agree with none.
func key(row []api.Value, at []int) (string, bool) {
	var b []byte
	for _, i := range at {
		v := row[i]
		if v.Kind == api.VNull {
			return "", false
		}
		// All rows have the same types in these columns, so that the kind is left out.
		b = strconv.AppendInt(b, int64(v.N), 10)
		b = strconv.AppendQuote(b, v.S)
	}
	return string(b), true
}

// row returns a row of the first table, followed by the values of the second one that the result has.
func (m *matcher) row(x []api.Value, second int) []api.Value {
	row := make([]api.Value, 0, len(x)+len(m.further))
	row = append(row, x...)
	for _, i := range m.further {
		if second < 0 {
			row = append(row, api.Value{})
		} else {
			row = append(row, m.second.Rows[second][i])
		}
	}
	return row
}

// combine joins the rows of a table with those of another one that have equal values.
func (h hash) combine(d []api.Named, t api.Table, cols []api.Column) (api.Table, api.Errno) {
	m := newMatcher(d, t, h.step.step)
	result := api.Table{Cols: cols}
	for _, x := range t.Rows {
		k, ok := key(x, m.at)
		if !ok {
			continue
		}
		if len(result.Rows)+len(m.groups[k]) > api.MaxRows {
			return api.Table{}, api.ErrLong
		}
		for _, i := range m.groups[k] {
			result.Rows = append(result.Rows, m.row(x, i))
		}
	}
	return result, api.OK
}

// sorted are rows of a group by the time at which they begin, those of one time in their order.
type sorted struct{ froms, rows []int }

// sortedGroups returns the rows of each group that begin at some time.
func (m *matcher) sortedGroups() map[string]sorted {
	from := table.Col(m.second, "from")
	groups := map[string]sorted{}
	for k, rows := range m.groups {
		rows = slices.DeleteFunc(slices.Clone(rows), func(i int) bool { return m.second.Rows[i][from].Kind == api.VNull })
		slices.SortStableFunc(rows, func(i, j int) int { return cmp.Compare(m.second.Rows[i][from].N, m.second.Rows[j][from].N) })
		g := sorted{rows: rows}
		for _, i := range rows {
			g.froms = append(g.froms, m.second.Rows[i][from].N)
		}
		groups[k] = g
	}
	return groups
}

// last returns the last row that begins not after a time, or -1.
func (g sorted) last(at int) int {
	n, _ := slices.BinarySearch(g.froms, at+1)
	if n == 0 {
		return -1
	}
	return g.rows[n-1]
}

// combine adds to each row the nearest row of another table.
func (g merge) combine(d []api.Named, t api.Table, cols []api.Column) (api.Table, api.Errno) {
	m := newMatcher(d, t, g.step.step, "from")
	groups := m.sortedGroups()
	from := table.Col(t, "from")
	result := api.Table{Cols: cols}
	for _, x := range t.Rows {
		nearest := -1
		if k, ok := key(x, m.at); ok && x[from].Kind != api.VNull {
			nearest = groups[k].last(x[from].N)
		}
		result.Rows = append(result.Rows, m.row(x, nearest))
	}
	return result, api.OK
}

// indexed are the rows of a group that have spans, with the index of the spans.
type indexed struct {
	rows  []int
	spans []api.Span
	index api.Index
}

// spanOf returns the span of a row, if it has one.
func spanOf(row []api.Value, from, to int) (api.Span, bool) {
	s := api.Span{From: row[from].N, To: row[to].N}
	return s, row[from].Kind != api.VNull && row[to].Kind != api.VNull && s.From < s.To
}

// indexedGroups returns the indexes of all groups.
func (m *matcher) indexedGroups() map[string]indexed {
	from, to := table.Col(m.second, "from"), table.Col(m.second, "to")
	groups := map[string]indexed{}
	for k, rows := range m.groups {
		var g indexed
		for _, i := range rows {
			if s, ok := spanOf(m.second.Rows[i], from, to); ok {
				g.rows = append(g.rows, i)
				g.spans = append(g.spans, s)
			}
		}
		g.index = itree.Of(g.spans)
		groups[k] = g
	}
	return groups
}

// find appends the spans in a part of the index that overlap a span. Unlike itree.Overlap it does not check
// the index at each call, and it finds spans of any times, which need not be those of a trace.
func (g indexed) find(found []int, s api.Span, lo, hi int) []int {
	root := (lo + hi) / 2
	if lo >= hi || g.index.Most[root] <= s.From {
		return found
	}
	found = g.find(found, s, lo, root)
	i := g.index.Order[root]
	if g.spans[i].From >= s.To {
		return found
	}
	if s.From < g.spans[i].To {
		found = append(found, i)
	}
	return g.find(found, s, root+1, hi)
}

// combine combines the rows of a table with those of another one whose spans overlap.
func (g spans) combine(d []api.Named, t api.Table, cols []api.Column) (api.Table, api.Errno) {
	m := newMatcher(d, t, g.step.step, "from", "to")
	groups := m.indexedGroups()
	from, to := table.Col(t, "from"), table.Col(t, "to")
	result := api.Table{Cols: cols}
	for _, x := range t.Rows {
		k, ok := key(x, m.at)
		s, hasSpan := spanOf(x, from, to)
		if !ok || !hasSpan {
			continue
		}
		group := groups[k]
		found := group.find(nil, s, 0, len(group.rows))
		if len(result.Rows)+len(found) > api.MaxRows {
			return api.Table{}, api.ErrLong
		}
		slices.Sort(found)
		for _, i := range found {
			row := m.row(x, group.rows[i])
			row[from].N, row[to].N = max(s.From, group.spans[i].From), min(s.To, group.spans[i].To)
			result.Rows = append(result.Rows, row)
		}
	}
	return result, api.OK
}
