package column

import (
	"bytes"
	"math"
	"math/rand"
	"slices"
	"strings"
	"testing"

	"tracebook/api"
	"tracebook/codec"
)

func integer(n int) api.Value { return api.Value{Kind: api.VInt, N: n} }
func text(s string) api.Value { return api.Value{Kind: api.VText, S: s} }
func boolean(n int) api.Value { return api.Value{Kind: api.VBool, N: n} }

func TestValue(t *testing.T) {
	long := strings.Repeat("x", 201)
	for i, c := range []struct {
		k   api.ValueKind
		v   api.Value
		err api.Errno
	}{
		{api.VInt, integer(5), api.OK}, {api.VInt, api.Value{}, api.OK}, {api.VNull, api.Value{}, api.OK}, {99, api.Value{}, api.OK}, {api.VText, text(long[:200]), api.OK}, {api.VText, text("\x00"), api.OK}, {api.VBool, boolean(1), api.OK},
		{api.VInt, boolean(5), api.ErrType}, {api.VBool, integer(1), api.ErrType}, {api.VText, integer(1), api.ErrType}, {api.VNull, integer(1), api.ErrType}, {4, api.Value{Kind: 4}, api.ErrType}, {-1, api.Value{Kind: -1}, api.ErrType},
		{api.VBool, boolean(2), api.ErrRange}, {api.VBool, boolean(-1), api.ErrRange}, {api.VInt, integer(api.MaxInt + 1), api.ErrRange}, {api.VInt, api.Value{Kind: api.VInt, N: math.MinInt, S: "x"}, api.ErrRange},
		{api.VText, text(long), api.ErrLong}, {api.VText, api.Value{Kind: api.VText, S: long, N: 1}, api.ErrLong},
		{api.VText, api.Value{Kind: api.VText, N: 1}, api.ErrArg}, {api.VInt, api.Value{Kind: api.VInt, S: "x"}, api.ErrArg}, {api.VBool, api.Value{Kind: api.VBool, S: long}, api.ErrArg}, {api.VInt, api.Value{N: 1}, api.ErrArg}, {api.VInt, api.Value{S: "x"}, api.ErrArg},
	} {
		if err := Value(c.k, c.v); err != c.err {
			t.Error(i, err)
		}
	}
}

func TestExamples(t *testing.T) {
	for i, c := range []struct {
		k api.ValueKind
		l []api.Value
		b []byte
	}{
		{api.VInt, []api.Value{integer(5), integer(5), integer(5)}, []byte{1, 6, 2, 10}},
		{api.VInt, []api.Value{integer(1), integer(2), integer(3)}, []byte{2, 2, 2, 2}},
		{api.VInt, nil, []byte{0}}, {api.VText, nil, []byte{0}},
		{api.VInt, []api.Value{{}}, []byte{0, 0}},
		{api.VInt, []api.Value{integer(5)}, []byte{2, 10}},
		{api.VText, []api.Value{text("ab")}, []byte{0, 3, 4, 97, 98}},
		{api.VText, []api.Value{text("ab"), text("c"), text("ab"), text("c"), text("ab")}, []byte{3, 4, 3, 4, 97, 98, 3, 2, 99, 0, 2, 0, 2, 0}},
		{api.VBool, []api.Value{boolean(1), {}}, []byte{0, 1, 2, 0}},
		{api.VInt, []api.Value{{}, {}, {}}, []byte{1, 6, 0}},
	} {
		p, err := Encode(c.k, c.l)
		if p.Type != c.k || p.N != len(c.l) || !slices.Equal(p.Bytes, c.b) || err != api.OK {
			t.Error(i, p, err)
		}
		if l, err := Decode(p); !slices.Equal(l, c.l) || err != api.OK {
			t.Error(i, l, err)
		}
		if n, err := Coding(p); n != int(c.b[0]) || err != api.OK {
			t.Error(i, n, err)
		}
	}
}

func TestEncodeErrors(t *testing.T) {
	many := make([]api.Value, api.MaxRows+1)
	for i, c := range []struct {
		k   api.ValueKind
		l   []api.Value
		err api.Errno
	}{{api.VNull, many, api.ErrArg}, {4, nil, api.ErrArg}, {api.VInt, many, api.ErrLong}, {api.VInt, many[1:], api.OK}, {api.VInt, []api.Value{integer(1), text(""), integer(api.MaxInt + 1)}, api.ErrType}, {api.VInt, []api.Value{integer(api.MaxInt + 1), text("")}, api.ErrRange}} {
		if p, err := Encode(c.k, c.l); err != c.err || err != api.OK && (p.Bytes != nil || p.N != 0 || p.Type != 0) {
			t.Error(i, err)
		}
	}
}

func TestDecodeErrors(t *testing.T) {
	great := slices.Concat([]byte{2}, codec.PutInt(nil, math.MaxInt), codec.PutInt(nil, math.MaxInt))
	for i, c := range []struct {
		p   api.Packed
		err api.Errno
	}{
		{api.Packed{Type: api.VNull, N: api.MaxRows + 1}, api.ErrArg}, {api.Packed{Type: api.VInt, N: api.MaxRows + 1}, api.ErrLong}, {api.Packed{Type: api.VInt, N: math.MaxInt, Bytes: []byte{1}}, api.ErrLong},
		{api.Packed{Type: api.VInt}, api.ErrForm}, {api.Packed{Type: api.VInt, N: -1, Bytes: []byte{0}}, api.ErrForm}, {api.Packed{Type: api.VInt, Bytes: []byte{1}}, api.ErrForm}, {api.Packed{Type: api.VInt, Bytes: []byte{4}}, api.ErrForm}, {api.Packed{Type: api.VInt, Bytes: []byte{0, 0}}, api.ErrForm},
		{api.Packed{Type: api.VInt, N: 1, Bytes: []byte{2, 10}}, api.OK}, {api.Packed{Type: api.VInt, N: 1, Bytes: []byte{0, 2, 10}}, api.ErrForm}, {api.Packed{Type: api.VInt, N: 1, Bytes: []byte{2, 10, 0}}, api.ErrForm}, {api.Packed{Type: api.VInt, N: 2, Bytes: []byte{2, 10}}, api.ErrForm},
		{api.Packed{Type: api.VText, N: 1, Bytes: []byte{2, 10}}, api.ErrForm}, {api.Packed{Type: api.VInt, N: 1, Bytes: []byte{0, 9}}, api.ErrForm}, {api.Packed{Type: api.VInt, N: 1, Bytes: []byte{0, 1, 2}}, api.ErrForm},
		{api.Packed{Type: api.VInt, N: 3, Bytes: []byte{1, 6, 2, 10}}, api.OK}, {api.Packed{Type: api.VInt, N: 3, Bytes: []byte{1, 8, 2, 10}}, api.ErrForm}, {api.Packed{Type: api.VInt, N: 3, Bytes: []byte{1, 0, 2, 10}}, api.ErrForm}, {api.Packed{Type: api.VInt, N: 3, Bytes: []byte{1, 4, 2, 10, 2, 2, 10}}, api.ErrForm}, {api.Packed{Type: api.VInt, N: 3, Bytes: []byte{1, 5, 2, 10}}, api.ErrForm},
		{api.Packed{Type: api.VInt, N: 2, Bytes: great}, api.ErrForm}, {api.Packed{Type: api.VInt, N: 2, Bytes: []byte{3, 254, 255, 255, 255, 15}}, api.ErrForm}, {api.Packed{Type: api.VInt, N: 2, Bytes: []byte{3, 1, 0, 0}}, api.ErrForm}, {api.Packed{Type: api.VInt, N: 2, Bytes: []byte{3, 2, 0, 0, 2}}, api.ErrForm},
	} {
		l, err := Decode(c.p)
		if err != c.err || err != api.OK && len(l) > 0 {
			t.Error(i, l, err)
		}
		if n, err := Coding(c.p); err != c.err || err != api.OK && n != 0 {
			t.Error(i, n, err)
		}
	}
}

func randomColumn(r *rand.Rand) (api.ValueKind, []api.Value) {
	k := api.ValueKind(1 + r.Intn(3))
	l := make([]api.Value, r.Intn(12))
	base, spread, nulls := r.Intn(api.MaxInt/2), 1+r.Intn(4), r.Intn(2)*r.Intn(3)
	for i := range l {
		switch {
		case r.Intn(10) < nulls:
		case k == api.VBool:
			l[i] = boolean(r.Intn(2))
		case k == api.VInt:
			l[i] = integer(base + r.Intn(spread))
		default:
			l[i] = text(strings.Repeat("ab", r.Intn(spread)))
		}
		if i > 0 && r.Intn(3) == 0 {
			l[i] = l[i-1]
		}
	}
	return k, l
}

func TestRoundTrip(t *testing.T) {
	r := rand.New(rand.NewSource(1))
	seen := map[byte]int{}
	for range 5000 {
		k, l := randomColumn(r)
		p, err := Encode(k, l)
		if err != api.OK {
			t.Fatal(l, err)
		}
		seen[p.Bytes[0]]++
		if got, err := Decode(p); !slices.Equal(got, l) || err != api.OK {
			t.Fatal(l, p, got, err)
		}
		codings := [][]byte{encodePlain(l), encodeRuns(l), encodeDifferences(k, l), encodeDictionary(l)}
		for i, b := range codings {
			better := b != nil && (len(b) < len(p.Bytes) || len(b) == len(p.Bytes) && i < int(p.Bytes[0]))
			if better || i == int(p.Bytes[0]) && !bytes.Equal(b, p.Bytes) {
				t.Fatal("not the shortest", l, i, b, p)
			}
			if _, err := Decode(api.Packed{Type: k, N: len(l), Bytes: b}); b != nil && i != int(p.Bytes[0]) && err != api.ErrForm {
				t.Fatal("another coding", l, i)
			}
		}
		changed := p
		changed.Bytes = slices.Clone(p.Bytes)
		changed.Bytes[r.Intn(len(changed.Bytes))] += byte(1 + r.Intn(4))
		if got, err := Decode(changed); err == api.OK {
			if again, err := Encode(k, got); !bytes.Equal(again.Bytes, changed.Bytes) || err != api.OK {
				t.Fatal("accepted", changed, got)
			}
		}
	}
	for i := range byte(4) {
		if seen[i] == 0 {
			t.Error("never used", i)
		}
	}
}

func TestEqualValues(t *testing.T) {
	for _, v := range []api.Value{{}, boolean(1), integer(api.MaxInt), text(strings.Repeat("x", 200))} {
		for _, n := range []int{1, 2, 100, api.MaxRows} {
			k := max(v.Kind, api.VBool)
			p, err := Encode(k, slices.Repeat([]api.Value{v}, n))
			if l, err := Decode(p); len(l) != n || err != api.OK {
				t.Error(v, n, len(l), err)
			}
			if err != api.OK || len(p.Bytes) > len(valueBytes(nil, v))+4 {
				t.Error(v, n, len(p.Bytes), err)
			}
		}
	}
}
