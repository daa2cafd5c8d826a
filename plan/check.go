package plan

import (
	"slices"

	"tracebook/api"
	"tracebook/format"
	"tracebook/num"
	"tracebook/syntax"
	"tracebook/table"
	"tracebook/typing"
)

// chain returns the nodes of a plan, the outermost one first, if the plan is formed.
func chain(p api.Plan) ([]api.Plan, bool) {
	var l []api.Plan
	for p.Op != api.PScan {
		if !isStep(p) {
			return nil, false
		}
		l = append(l, p)
		p = p.Kids[0]
	}
	return append(l, p), isScan(p)
}

// isStep reports whether a node has one of the forms with a step.
func isStep(p api.Plan) bool {
	if p.Table != "" || p.Col != "" || p.Low != 0 || p.High != 0 || len(p.Kids) != 1 {
		return false
	}
	switch p.Op {
	case api.PStep:
		return true
	case api.PSpans:
		return p.Step.Op == api.QOverlap
	case api.PMerge:
		return p.Step.Op == api.QNearest
	case api.PHash:
		return p.Step.Op == api.QJoin
	}
	return false
}

// isScan reports whether a PScan has one of its forms.
func isScan(p api.Plan) bool {
	if !isZero(p.Step) || len(p.Kids) > 0 {
		return false
	}
	if p.Col == "" {
		return p.Low == 0 && p.High == 0
	}
	return p.Low == 1 && p.High == 0 || -api.MaxInt <= p.Low && p.Low <= p.High && p.High <= api.MaxInt
}

// isZero reports whether all fields of a step are zero or empty.
func isZero(s api.QStep) bool {
	return s.Op == 0 && s.N == 0 && s.Table == "" && len(s.Items)+len(s.Cols)+len(s.Aggs)+len(s.Sorts) == 0 &&
		s.Cond.Op == 0 && s.Cond.Name == "" && s.Cond.V == api.Value{} && len(s.Cond.Kids) == 0
}

// queryOf returns the query of the nodes of a formed plan.
func queryOf(l []api.Plan) api.Query {
	scan := len(l) - 1
	q := api.Query{From: l[scan].Table}
	for _, p := range slices.Backward(l[:scan]) {
		q.Steps = append(q.Steps, p.Step)
	}
	return q
}

// Query returns the query of a plan.
func Query(p api.Plan) (api.Query, bool) {
	l, ok := chain(p)
	if !ok {
		return api.Query{}, false
	}
	return queryOf(l), true
}

// Check returns the columns of the result of a plan.
func Check(d []api.Named, p api.Plan) ([]api.Column, api.Errno) {
	if err := table.CheckAll(d); err != api.OK {
		return nil, err
	}
	l, ok := chain(p)
	if !ok {
		return nil, api.ErrArg
	}
	cols, err := typing.Query(d, queryOf(l))
	if err != api.OK {
		return nil, err
	}
	scan := l[len(l)-1]
	from, _ := table.Find(d, scan.Table)
	switch {
	case scan.Col == "":
		return cols, api.OK
	case table.Col(from, scan.Col) < 0:
		return nil, api.ErrColumn
	case !isInteger(from, scan.Col):
		return nil, api.ErrType
	}
	return cols, api.OK
}

// prefix is what precedes the text of the only step of a query.
const prefix = "from a | "

// Text returns a plan as text.
func Text(p api.Plan) string {
	l, ok := chain(p)
	if !ok || syntax.Query(queryOf(l)) != api.OK {
		return ""
	}
	var text []byte
	for _, node := range l {
		if node.Op == api.PScan {
			text = append(text, scanText(node)...)
			break
		}
		s, err := format.Query(api.Query{From: "a", Steps: []api.QStep{node.Step}})
		if err != api.OK {
			return ""
		}
		text = append(text, word(node.Op)+" "+s[len(prefix):]+"\n"...)
	}
	return string(text)
}

func scanText(p api.Plan) string {
	s := "scan " + p.Table
	if p.Col != "" {
		s += " " + p.Col + " " + num.Text(p.Low) + " " + num.Text(p.High)
	}
	return s + "\n"
}

// word returns the word for a form with a step.
func word(op api.PlanOp) string {
	switch op {
	case api.PSpans:
		return "spans"
	case api.PMerge:
		return "merge"
	case api.PHash:
		return "hash"
	}
	return "step"
}
