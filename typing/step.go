package typing

import (
	"slices"

	"tracebook/api"
	"tracebook/syntax"
	"tracebook/table"
)

// Step returns the columns after a step.
func Step(d []api.Named, cols []api.Column, s api.QStep) ([]api.Column, api.Errno) {
	if err := syntax.Step(s); err != api.OK {
		return nil, err
	}
	switch s.Op {
	case api.QWhere:
		return where(cols, s)
	case api.QSelect:
		return selected(cols, s)
	case api.QGroup:
		return group(cols, s)
	case api.QSort:
		for _, x := range s.Sorts {
			if find(cols, x.Col) < 0 {
				return nil, api.ErrColumn
			}
		}
		return slices.Clone(cols), api.OK
	case api.QLimit:
		return slices.Clone(cols), api.OK
	case api.QCoalesce:
		return coalesce(cols, s)
	}
	return combined(d, cols, s)
}

func where(cols []api.Column, s api.QStep) ([]api.Column, api.Errno) {
	t, err := Expr(cols, s.Cond)
	if err != api.OK {
		return nil, err
	}
	if !fits(t, api.VBool) {
		return nil, api.ErrType
	}
	return slices.Clone(cols), api.OK
}

func selected(cols []api.Column, s api.QStep) ([]api.Column, api.Errno) {
	var l []api.Column
	for _, x := range s.Items {
		t, err := Expr(cols, x.E)
		if err != api.OK {
			return nil, err
		}
		if t == api.VNull {
			return nil, api.ErrType
		}
		l = append(l, api.Column{Name: x.As, Type: t})
	}
	return l, api.OK
}

// named returns the columns with names.
func named(cols []api.Column, names []string) ([]api.Column, api.Errno) {
	var l []api.Column
	for _, name := range names {
		i := find(cols, name)
		if i < 0 {
			return nil, api.ErrColumn
		}
		l = append(l, cols[i])
	}
	return l, api.OK
}

func group(cols []api.Column, s api.QStep) ([]api.Column, api.Errno) {
	l, err := named(cols, s.Cols)
	if err != api.OK {
		return nil, err
	}
	for _, a := range s.Aggs {
		t := api.VInt
		if a.Fn != "count" {
			i := find(cols, a.Col)
			if i < 0 {
				return nil, api.ErrColumn
			}
			if a.Fn == "sum" && cols[i].Type != api.VInt {
				return nil, api.ErrType
			}
			t = cols[i].Type
		}
		l = append(l, api.Column{Name: a.As, Type: t})
	}
	return l, api.OK
}

// times returns the columns of times that a step concerns.
func times(op api.StepOp) []string {
	switch op {
	case api.QOverlap, api.QCoalesce:
		return []string{"from", "to"}
	case api.QNearest:
		return []string{"from"}
	}
	return nil
}

// contains reports whether one of the names is in a list.
func contains(l []string, names []string) bool {
	return slices.ContainsFunc(names, func(name string) bool { return slices.Contains(l, name) })
}

// integer checks that there is a column of integers with a name.
func integer(cols []api.Column, name string) api.Errno {
	i := find(cols, name)
	if i < 0 {
		return api.ErrColumn
	}
	if cols[i].Type != api.VInt {
		return api.ErrType
	}
	return api.OK
}

func coalesce(cols []api.Column, s api.QStep) ([]api.Column, api.Errno) {
	if contains(s.Cols, times(s.Op)) {
		return nil, api.ErrTwice
	}
	l, err := named(cols, s.Cols)
	if err != api.OK {
		return nil, err
	}
	for _, name := range times(s.Op) {
		if err := integer(cols, name); err != api.OK {
			return nil, err
		}
		l = append(l, api.Column{Name: name, Type: api.VInt})
	}
	return l, api.OK
}

// combined returns the columns after a step that combines the table with another one.
func combined(d []api.Named, cols []api.Column, s api.QStep) ([]api.Column, api.Errno) {
	other, ok := table.Find(d, s.Table)
	if !ok {
		return nil, api.ErrTable
	}
	if contains(s.Cols, times(s.Op)) {
		return nil, api.ErrTwice
	}
	for _, name := range s.Cols {
		i, j := find(cols, name), find(other.Cols, name)
		if i < 0 || j < 0 {
			return nil, api.ErrColumn
		}
		if cols[i].Type != other.Cols[j].Type {
			return nil, api.ErrType
		}
	}
	for _, name := range times(s.Op) {
		if err := integer(cols, name); err != api.OK {
			return nil, err
		}
		if err := integer(other.Cols, name); err != api.OK {
			return nil, err
		}
	}
	l := slices.Clone(cols)
	for _, c := range other.Cols {
		if !slices.Contains(s.Cols, c.Name) && !slices.Contains(times(s.Op), c.Name) {
			l = append(l, c)
		}
	}
	return distinct(l)
}

// distinct checks the columns that two tables have together.
func distinct(l []api.Column) ([]api.Column, api.Errno) {
	seen := map[string]bool{}
	for _, c := range l {
		if seen[c.Name] {
			return nil, api.ErrTwice
		}
		seen[c.Name] = true
	}
	if len(l) > api.MaxCols {
		return nil, api.ErrLong
	}
	return l, api.OK
}
