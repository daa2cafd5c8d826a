package json

import (
	"tracebook/api"
	"tracebook/num"
)

// fault is why a text is not a JSON text, and where. Reading ends with the first fault that it meets,
// which is the one with the least position, by a panic.
type fault struct {
	err api.Errno
	at  int
}

// Parse returns the value with a text, or the position of the first fault.
func Parse(s string) (value api.Json, position int, err api.Errno) {
	if len(s) > api.MaxText {
		return api.Json{}, 0, api.ErrLong
	}
	defer func() {
		if f, ok := recover().(fault); ok {
			value, position, err = api.Json{}, f.at, f.err
		}
	}()
	p := &parser{s: s}
	value = p.value(0)
	p.space()
	if p.at < len(s) {
		p.fail(api.ErrForm)
	}
	return value, 0, api.OK
}

// parser reads a text from the left.
type parser struct {
	s  string
	at int
}

// fail ends the reading with a fault at the present position.
func (p *parser) fail(err api.Errno) { panic(fault{err, p.at}) }

// peek returns the next byte; at the end 0, with which nothing goes on.
func (p *parser) peek() byte {
	if p.at == len(p.s) {
		return 0
	}
	return p.s[p.at]
}

// take takes the bytes of s.
func (p *parser) take(s string) {
	for i := range len(s) {
		if p.peek() != s[i] {
			p.fail(api.ErrForm)
		}
		p.at++
	}
}

func (p *parser) space() {
	for c := p.peek(); c == ' ' || c == '\t' || c == '\n' || c == '\r'; c = p.peek() {
		p.at++
	}
}

// value reads a value in arrays and objects of a level.
func (p *parser) value(level int) api.Json {
	p.space()
	switch c := p.peek(); {
	case c == 'n':
		p.take("null")
		return api.Json{Op: api.JNull}
	case c == 't':
		p.take("true")
		return api.Json{Op: api.JBool, N: 1}
	case c == 'f':
		p.take("false")
		return api.Json{Op: api.JBool}
	case c == '"':
		return api.Json{Op: api.JText, S: p.text()}
	case c == '-' || isDigit(c):
		return api.Json{Op: api.JNumber, N: p.number()}
	case c == '[':
		return p.array(p.deeper(level))
	case c == '{':
		return p.object(p.deeper(level))
	}
	p.fail(api.ErrForm)
	return api.Json{}
}

// deeper returns the level of an array or object that begins here.
func (p *parser) deeper(level int) int {
	if level == api.MaxNest {
		p.fail(api.ErrDeep)
	}
	return level + 1
}

func isDigit(c byte) bool { return '0' <= c && c <= '9' }

func (p *parser) number() int {
	start := p.at
	if p.peek() == '-' {
		p.at++
	}
	first := p.peek()
	if !isDigit(first) {
		p.fail(api.ErrForm)
	}
	p.at++
	for first != '0' && isDigit(p.peek()) {
		p.at++
	}
	text := p.s[start:p.at]
	if text == "-0" {
		return 0
	}
	n, ok := num.Parse(text)
	if !ok {
		p.at = start
		p.fail(api.ErrRange)
	}
	return n
}

// text reads a text between quotation marks.
func (p *parser) text() string {
	p.take(`"`)
	var b []byte
	for {
		c := p.peek()
		switch {
		case c == '"':
			p.at++
			return string(b)
		case c == '\\':
			p.at++
			b = append(b, p.escape())
		case 32 <= c && c <= 126:
			p.at++
			b = append(b, c)
		default:
			p.fail(api.ErrForm)
		}
	}
}

// escape reads what follows a backslash.
func (p *parser) escape() byte {
	c := p.peek()
	switch c {
	case '"', '\\', '/':
		p.at++
		return c
	case 'n':
		p.at++
		return '\n'
	case 't':
		p.at++
		return '\t'
	}
	p.take("u00")
	// The first digit has to leave a second one with which the byte is permitted.
	high, ok := digit(p.peek())
	if !ok || high == 1 || high > 7 {
		p.fail(api.ErrForm)
	}
	p.at++
	low, ok := digit(p.peek())
	if !ok || !isTextByte(16*high+low) {
		p.fail(api.ErrForm)
	}
	p.at++
	return 16*high + low
}

// digit returns the value of a hexadecimal digit.
func digit(c byte) (byte, bool) {
	switch {
	case isDigit(c):
		return c - '0', true
	case 'a' <= c && c <= 'f':
		return c - 'a' + 10, true
	case 'A' <= c && c <= 'F':
		return c - 'A' + 10, true
	}
	return 0, false
}

// more reports whether a further element follows, after i of them, and not the end.
func (p *parser) more(i int, end byte) bool {
	p.space()
	if p.peek() == end {
		p.at++
		return false
	}
	if i > 0 {
		p.take(",")
	}
	return true
}

func (p *parser) array(level int) api.Json {
	p.take("[")
	j := api.Json{Op: api.JArray}
	for p.more(len(j.Kids), ']') {
		j.Kids = append(j.Kids, p.value(level))
	}
	return j
}

func (p *parser) object(level int) api.Json {
	p.take("{")
	j := api.Json{Op: api.JObject}
	seen := map[string]bool{}
	for p.more(len(j.Kids), '}') {
		p.space()
		start := p.at
		key := p.text()
		if seen[key] {
			p.at = start
			p.fail(api.ErrTwice)
		}
		seen[key] = true
		p.space()
		p.take(":")
		j.Keys = append(j.Keys, key)
		j.Kids = append(j.Kids, p.value(level))
	}
	return j
}
