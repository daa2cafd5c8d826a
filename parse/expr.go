package parse

import "tracebook/api"

func binary(op api.ExprOp, a, b api.Expr) api.Expr {
	return api.Expr{Op: op, Kids: []api.Expr{a, b}}
}

func (p *parser) or() api.Expr {
	e := p.and()
	for p.skip(word, "or") {
		e = binary(api.EOr, e, p.and())
	}
	return e
}

func (p *parser) and() api.Expr {
	e := p.not()
	for p.skip(word, "and") {
		e = binary(api.EAnd, e, p.not())
	}
	return e
}

func (p *parser) not() api.Expr {
	if p.skip(word, "not") {
		return api.Expr{Op: api.ENot, Kids: []api.Expr{p.not()}}
	}
	return p.comparison()
}

func (p *parser) comparison() api.Expr {
	e := p.sum()
	switch {
	case p.skip(sign, "="):
		return binary(api.EEq, e, p.sum())
	case p.skip(sign, "!="):
		return binary(api.ENe, e, p.sum())
	case p.skip(sign, "<"):
		return binary(api.ELt, e, p.sum())
	case p.skip(sign, "<="):
		return binary(api.ELe, e, p.sum())
	case p.skip(sign, ">"):
		return binary(api.ELt, p.sum(), e)
	case p.skip(sign, ">="):
		return binary(api.ELe, p.sum(), e)
	}
	return e
}

func (p *parser) sum() api.Expr {
	e := p.product()
	for {
		switch {
		case p.skip(sign, "+"):
			e = binary(api.EAdd, e, p.product())
		case p.skip(sign, "-"):
			e = binary(api.ESub, e, p.product())
		default:
			return e
		}
	}
}

func (p *parser) product() api.Expr {
	e := p.unary()
	for {
		switch {
		case p.skip(sign, "*"):
			e = binary(api.EMul, e, p.unary())
		case p.skip(sign, "/"):
			e = binary(api.EDiv, e, p.unary())
		case p.skip(sign, "%"):
			e = binary(api.EMod, e, p.unary())
		default:
			return e
		}
	}
}

func (p *parser) unary() api.Expr {
	if p.skip(sign, "-") {
		return api.Expr{Op: api.ENeg, Kids: []api.Expr{p.unary()}}
	}
	return p.primary()
}

func constant(v api.Value) api.Expr { return api.Expr{Op: api.EConst, V: v} }

func (p *parser) primary() api.Expr {
	switch {
	case p.stopped:
		return api.Expr{}
	case p.peek().kind == number:
		return constant(api.Value{Kind: api.VInt, N: p.take().n})
	case p.peek().kind == quoted:
		return constant(api.Value{Kind: api.VText, S: p.take().s})
	case p.skip(word, "null"):
		return constant(api.Value{})
	case p.skip(word, "true"):
		return constant(api.Value{Kind: api.VBool, N: 1})
	case p.skip(word, "false"):
		return constant(api.Value{Kind: api.VBool})
	case p.isName():
		name := p.take().s
		if p.skip(sign, "(") {
			return api.Expr{Op: api.ECall, Name: name, Kids: p.arguments()}
		}
		return api.Expr{Op: api.EField, Name: name}
	case p.isNegative():
		n := p.l[2].n
		p.l = p.l[4:]
		return constant(api.Value{Kind: api.VInt, N: -n})
	}
	p.need(sign, "(")
	if p.stopped {
		return api.Expr{}
	}
	e := p.or()
	p.need(sign, ")")
	return e
}

// isNegative reports whether a negative number in parentheses follows.
func (p *parser) isNegative() bool {
	l := p.l
	return len(l) > 4 && p.is(sign, "(") && l[1].kind == sign && l[1].s == "-" && l[2].kind == number && l[3].kind == sign && l[3].s == ")"
}

// arguments takes the arguments of a call and the parenthesis behind them.
func (p *parser) arguments() []api.Expr {
	if p.skip(sign, ")") {
		return nil
	}
	var l []api.Expr
	for more := true; more; more = p.skip(sign, ",") {
		l = append(l, p.or())
	}
	p.need(sign, ")")
	return l
}
