package syntax

import "tracebook/api"

// Step checks a step.
func Step(s api.QStep) api.Errno {
	if s.Op < api.QWhere || s.Op > api.QCoalesce || !isEmpty(unused(s)) {
		return api.ErrArg
	}
	switch s.Op {
	case api.QWhere:
		return Expr(s.Cond)
	case api.QSelect:
		return items(s.Items)
	case api.QGroup:
		return group(s)
	case api.QSort:
		return sorts(s.Sorts)
	case api.QLimit:
		if s.N < 0 || s.N > api.MaxRows {
			return api.ErrRange
		}
		return api.OK
	case api.QCoalesce:
		return cols(s.Cols, 0)
	}
	if !isIdentifier(s.Table) {
		return api.ErrName
	}
	if s.Op == api.QJoin {
		return cols(s.Cols, 1)
	}
	return cols(s.Cols, 0)
}

// unused returns a step without the fields that its form uses.
func unused(s api.QStep) api.QStep {
	switch s.Op {
	case api.QWhere:
		s.Cond = api.Expr{}
	case api.QSelect:
		s.Items = nil
	case api.QGroup:
		s.Cols, s.Aggs = nil, nil
	case api.QSort:
		s.Sorts = nil
	case api.QLimit:
		s.N = 0
	case api.QJoin, api.QOverlap, api.QNearest:
		s.Table, s.Cols = "", nil
	case api.QCoalesce:
		s.Cols = nil
	}
	return s
}

// isEmpty reports whether all fields of a step but its form are zero.
func isEmpty(s api.QStep) bool {
	noCond := s.Cond.Op == 0 && s.Cond.Name == "" && s.Cond.V == api.Value{} && len(s.Cond.Kids) == 0
	return noCond && s.N == 0 && s.Table == "" && len(s.Items)+len(s.Cols)+len(s.Aggs)+len(s.Sorts) == 0
}

// number checks the number of elements of a list.
func number(n, least int) api.Errno {
	if n < least {
		return api.ErrShort
	}
	if n > api.MaxItems {
		return api.ErrLong
	}
	return api.OK
}

// names are the names of columns that a list has so far.
type names map[string]bool

// add adds a name, which must be an identifier, and a new one.
func (l names) add(name string) api.Errno {
	if !isIdentifier(name) {
		return api.ErrName
	}
	if l[name] {
		return api.ErrTwice
	}
	l[name] = true
	return api.OK
}

// addAll adds names up to the first error.
func (l names) addAll(names []string) api.Errno {
	for _, name := range names {
		if err := l.add(name); err != api.OK {
			return err
		}
	}
	return api.OK
}

func cols(l []string, least int) api.Errno {
	if err := number(len(l), least); err != api.OK {
		return err
	}
	return names{}.addAll(l)
}

func sorts(l []api.Sort) api.Errno {
	if err := number(len(l), 1); err != api.OK {
		return err
	}
	seen := names{}
	for _, s := range l {
		if err := seen.add(s.Col); err != api.OK {
			return err
		}
	}
	return api.OK
}

func items(l []api.Item) api.Errno {
	if err := number(len(l), 1); err != api.OK {
		return err
	}
	seen := names{}
	for _, x := range l {
		if err := Expr(x.E); err != api.OK {
			return err
		}
		if err := seen.add(x.As); err != api.OK {
			return err
		}
	}
	return api.OK
}

func group(s api.QStep) api.Errno {
	if len(s.Cols)+len(s.Aggs) == 0 {
		return api.ErrShort
	}
	if len(s.Cols) > api.MaxItems || len(s.Aggs) > api.MaxItems {
		return api.ErrLong
	}
	seen := names{}
	if err := seen.addAll(s.Cols); err != api.OK {
		return err
	}
	for _, a := range s.Aggs {
		if !isAggregate(a) {
			return api.ErrNone
		}
		if a.Col != "" && !isIdentifier(a.Col) {
			return api.ErrName
		}
		if err := seen.add(a.As); err != api.OK {
			return err
		}
	}
	return api.OK
}

// isAggregate reports whether an aggregate has a function, and a column exactly if the function needs one.
func isAggregate(a api.Agg) bool {
	switch a.Fn {
	case "count":
		return a.Col == ""
	case "sum", "min", "max", "first":
		return a.Col != ""
	}
	return false
}
