package json

import (
	"math/rand"
	"strings"
	"testing"

	"tracebook/api"
)

func number(n int) api.Json           { return api.Json{Op: api.JNumber, N: n} }
func text(s string) api.Json          { return api.Json{Op: api.JText, S: s} }
func array(kids ...api.Json) api.Json { return api.Json{Op: api.JArray, Kids: kids} }
func null() api.Json                  { return api.Json{Op: api.JNull} }
func boolean(n int) api.Json          { return api.Json{Op: api.JBool, N: n} }
func object(keys string, kids ...api.Json) api.Json {
	return api.Json{Op: api.JObject, Keys: strings.Fields(keys), Kids: kids}
}

func nested(n int) api.Json {
	j := array()
	for range n - 1 {
		j = array(j)
	}
	return j
}

func TestParse(t *testing.T) {
	for s, want := range map[string]api.Json{
		" {\"a\": [null, true, -3], \"b\": \"x\\ty\"} ": object("a b", array(null(), boolean(1), number(-3)), text("x\ty")),
		"-0": number(0), "0": number(0), "1000000000000000": number(api.MaxInt), "-1000000000000000": number(-api.MaxInt),
		"\t\r\n false ": boolean(0), "[]": array(), " [ ] ": array(), "{}": object(""), "{ }": object(""), `""`: text(""),
		`"\"\\\/\n\t\u0041\u000a\u0009\u007E\u007d\u004F"`:         text("\"\\/\n\tA\n\t~}O"),
		`"\u004f\u004a\u004A\u000A\u0020\u0022\u005c\u0030\u0039"`: text("OJJ\n \"\\09"),
		"[ 1 , [ 2 ] , {\"k\" : 3 } ]":                             array(number(1), array(number(2)), object("k", number(3))),
		`{"a":{"a":1}}`:                                            object("a", object("a", number(1))),
		strings.Repeat("[", 16) + strings.Repeat("]", 16):          nested(16),
	} {
		got, at, err := Parse(s)
		if !Same(got, want) || at != 0 || err != api.OK || Check(got) != api.OK {
			t.Error(s, got, at, err)
		}
	}
}

func TestFaults(t *testing.T) {
	deep := strings.Repeat("[", 17)
	for s, want := range map[string]fault{
		"[1,]": {api.ErrForm, 3}, "[1": {api.ErrForm, 2}, "01": {api.ErrForm, 1}, "": {api.ErrForm, 0}, "  ": {api.ErrForm, 2}, `"\u007f"`: {api.ErrForm, 6},
		`{"a":1,"a":2}`: {api.ErrTwice, 7}, "[1000000000000001x": {api.ErrRange, 1}, deep: {api.ErrDeep, 16}, deep[:16]: {api.ErrForm, 16},
		strings.Repeat(`{"a":`, 17): {api.ErrDeep, 80},
		"-":                         {api.ErrForm, 1}, "-x": {api.ErrForm, 1}, "- 1": {api.ErrForm, 1}, "--1": {api.ErrForm, 1}, "+1": {api.ErrForm, 0}, "1.5": {api.ErrForm, 1}, "1e5": {api.ErrForm, 1}, "-01": {api.ErrForm, 2},
		"nulx": {api.ErrForm, 3}, "nul": {api.ErrForm, 3}, "nullx": {api.ErrForm, 4}, "truefalse": {api.ErrForm, 4}, "1 2": {api.ErrForm, 2}, "\x00": {api.ErrForm, 0}, "[\v]": {api.ErrForm, 1},
		`"a`: {api.ErrForm, 2}, "\"a\n\"": {api.ErrForm, 2}, "\"\x7f\"": {api.ErrForm, 1}, "\"\x00\"": {api.ErrForm, 1}, "\"\xc3\xa4\"": {api.ErrForm, 1}, `"\x"`: {api.ErrForm, 2}, `"\b"`: {api.ErrForm, 2}, `"\`: {api.ErrForm, 2},
		`"\u0141"`: {api.ErrForm, 4}, `"\u1041"`: {api.ErrForm, 3}, `"\u0011"`: {api.ErrForm, 5}, `"\u0081"`: {api.ErrForm, 5}, `"\u000b"`: {api.ErrForm, 6}, `"\u000x"`: {api.ErrForm, 6}, `"\u00g1"`: {api.ErrForm, 5}, `"\u00`: {api.ErrForm, 5}, `"\u002"`: {api.ErrForm, 6}, `"\U0041"`: {api.ErrForm, 2},
		"{": {api.ErrForm, 1}, "{1": {api.ErrForm, 1}, `{"a"`: {api.ErrForm, 4}, `{"a" 1}`: {api.ErrForm, 5}, `{"a":}`: {api.ErrForm, 5}, `{"a":1,}`: {api.ErrForm, 7}, `{,}`: {api.ErrForm, 1}, `{"a":1]`: {api.ErrForm, 6}, "[,1]": {api.ErrForm, 1}, "[1 2]": {api.ErrForm, 3}, "]": {api.ErrForm, 0},
		`{"a":1,"a"`: {api.ErrTwice, 7}, `{"a":1,"a`: {api.ErrForm, 9}, `{"a":1, "\u0061" x`: {api.ErrTwice, 8}, "[-1000000000000001]": {api.ErrRange, 1}, "[99999999999999999999999": {api.ErrRange, 1}, "[1000000000000001": {api.ErrRange, 1},
		`[1000000000000001,{"a":1,"a":2}]`: {api.ErrRange, 1}, `[{"a":1,"a":1000000000000001}]`: {api.ErrTwice, 8},
	} {
		got, at, err := Parse(s)
		if !Same(got, api.Json{}) || (fault{err, at}) != want {
			t.Error(s, at, err, want)
		}
	}
}

func TestLong(t *testing.T) {
	s := strings.Repeat(" ", api.MaxText-1) + "1"
	if j, at, err := Parse(s); !Same(j, number(1)) || at != 0 || err != api.OK {
		t.Error(at, err)
	}
	if j, at, err := Parse(s + " "); !Same(j, api.Json{}) || at != 0 || err != api.ErrLong {
		t.Error(at, err)
	}
}

func TestCheck(t *testing.T) {
	for i, c := range []struct {
		j   api.Json
		err api.Errno
	}{
		{api.Json{}, api.ErrArg}, {api.Json{Op: 7}, api.ErrArg}, {api.Json{Op: -1}, api.ErrArg}, {null(), api.OK},
		{api.Json{Op: api.JNull, N: 1}, api.ErrArg}, {api.Json{Op: api.JNull, S: "a"}, api.ErrArg}, {api.Json{Op: api.JNull, Kids: []api.Json{{}}}, api.ErrArg},
		{boolean(2), api.ErrRange}, {boolean(-1), api.ErrRange}, {api.Json{Op: api.JBool, S: "a", N: 2}, api.ErrArg}, {boolean(1), api.OK},
		{number(api.MaxInt), api.OK}, {number(api.MaxInt + 1), api.ErrRange}, {api.Json{Op: api.JNumber, Keys: []string{"a"}}, api.ErrArg},
		{text("a\n\t ~"), api.OK}, {text("\r"), api.ErrForm}, {text("\x7f"), api.ErrForm}, {api.Json{Op: api.JText, N: 1, S: "\r"}, api.ErrArg}, {api.Json{Op: api.JText, Kids: []api.Json{{}}}, api.ErrArg},
		{array(null(), number(1)), api.OK}, {array(null(), api.Json{}), api.ErrArg}, {api.Json{Op: api.JArray, Keys: []string{"a"}, Kids: []api.Json{null()}}, api.ErrArg}, {api.Json{Op: api.JArray, N: 1}, api.ErrArg},
		{object("a b", null(), null()), api.OK}, {object("a", null(), null()), api.ErrArg}, {object("a a", null(), api.Json{}), api.ErrTwice}, {object("\x01 \x01", null(), null()), api.ErrForm}, {api.Json{Op: api.JObject, S: "a"}, api.ErrArg},
		{nested(16), api.OK}, {nested(17), api.ErrDeep}, {array(nested(16), api.Json{}), api.ErrDeep}, {array(api.Json{}, nested(16)), api.ErrArg},
		{object("a", nested(15)), api.OK}, {object("a", nested(16)), api.ErrDeep},
	} {
		if err := Check(c.j); err != c.err {
			t.Error(i, err)
		}
		if s, err := Print(c.j); err != c.err || err != api.OK && s != "" {
			t.Error(i, s, err)
		}
	}
}

func TestPrint(t *testing.T) {
	for want, j := range map[string]api.Json{
		`{"a":[null,-3]}`: object("a", array(null(), number(-3))), `"\"\n/"`: text("\"\n/"), `"\\\t~"`: text("\\\t~"),
		"true": boolean(1), "false": boolean(0), "[]": array(), "{}": object(""), `{"b":1,"a":{}}`: object("b a", number(1), object("")),
	} {
		if got, err := Print(j); got != want || err != api.OK {
			t.Error(got, err)
		}
	}
}

func random(r *rand.Rand, level int) api.Json {
	switch r.Intn(6 - min(level, 2)) {
	case 0:
		return null()
	case 1:
		return boolean(r.Intn(2))
	case 2:
		return number(r.Intn(2*api.MaxInt+1) - api.MaxInt)
	case 3:
		b := make([]byte, r.Intn(5))
		for i := range b {
			b[i] = "\n\t \"\\/a~{"[r.Intn(9)]
		}
		return text(string(b))
	case 4:
		j := array()
		for range r.Intn(4) {
			j.Kids = append(j.Kids, random(r, level+1))
		}
		return j
	}
	j := object("")
	for _, key := range []string{"a", "\"", "\n", ""}[r.Intn(4):] {
		j.Keys = append(j.Keys, key)
		j.Kids = append(j.Kids, random(r, level+1))
	}
	return j
}

func TestRoundTrip(t *testing.T) {
	r := rand.New(rand.NewSource(1))
	for range 5000 {
		j := random(r, 0)
		s, err := Print(j)
		if err != api.OK {
			t.Fatal(j, err)
		}
		for _, s := range []string{s, " \n" + s + "\t\r "} {
			if got, at, err := Parse(s); !Same(got, j) || at != 0 || err != api.OK {
				t.Fatal(s, got, at, err)
			}
		}
		for i, key := range j.Keys {
			if got, ok := Get(j, key); !ok || !Same(got, j.Kids[i]) {
				t.Fatal(key, got)
			}
		}
	}
}

// TestPrefix checks that a fault does not depend on what follows it.
func TestPrefix(t *testing.T) {
	r := rand.New(rand.NewSource(2))
	for range 30000 {
		s, _ := Print(random(r, 0))
		b := []byte(s)
		for range 1 + r.Intn(2) {
			i := r.Intn(len(b))
			b[i] = "[]{},:\"\\01-a \x01u"[r.Intn(15)]
		}
		s = string(b)
		j, at, err := Parse(s)
		switch err {
		case api.OK:
			text, _ := Print(j)
			if again, _, err := Parse(text); err != api.OK || !Same(again, j) || Check(j) != api.OK {
				t.Fatal(s, text)
			}
		case api.ErrForm:
			if _, p, err := Parse(s[:at]); err != api.OK && (err != api.ErrForm || p != at) {
				t.Fatal(s, at, p, err)
			}
			if at == len(s) {
				continue
			}
			for _, rest := range []string{"", "x", "]]]", `"`, "}"} {
				if _, p, err := Parse(s[:at+1] + rest); err != api.ErrForm || p != at {
					t.Fatal(s, at, rest, p, err)
				}
			}
		}
	}
	deep := strings.Repeat("[", 17)
	for _, rest := range []string{"", "x", "]", "1"} {
		if _, p, err := Parse(deep + rest); err != api.ErrDeep || p != 16 {
			t.Error(p, err)
		}
	}
}

func TestGet(t *testing.T) {
	j := api.Json{Op: api.JObject, Keys: []string{"a", "b", "b", "c"}, Kids: []api.Json{number(1), number(2), number(3)}}
	if got, ok := Get(j, "b"); !ok || got.N != 2 {
		t.Error(got)
	}
	for _, c := range []api.Json{j, array(number(1)), {Op: api.JArray, Keys: []string{"c"}, Kids: []api.Json{number(1)}}} {
		if got, ok := Get(c, "c"); ok || !Same(got, api.Json{}) {
			t.Error(got)
		}
	}
}

func TestSame(t *testing.T) {
	a := object("a b", number(1), array(text("x")))
	for i, b := range []api.Json{object("a c", number(1), array(text("x"))), object("a b", number(2), array(text("x"))), object("a b", number(1), array(text("y"))), object("a", number(1)), array(), null(), {}} {
		if Same(a, b) || Same(b, a) || !Same(b, b) {
			t.Error(i)
		}
	}
	if !Same(api.Json{Keys: []string{}}, api.Json{}) {
		t.Error("nil and empty")
	}
}
