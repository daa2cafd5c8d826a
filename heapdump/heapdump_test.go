package heapdump

import (
	"math"
	"math/rand"
	"slices"
	"strconv"
	"strings"
	"testing"

	"tracebook/api"
)

func obj(id, size int, refs ...int) api.Object {
	return api.Object{Id: id, Size: size, Type: "node", Refs: refs}
}

func heap(roots []int, l ...api.Object) api.Heap { return api.Heap{Objects: l, Roots: roots} }

func same(a, b api.Heap) bool {
	return slices.Equal(a.Roots, b.Roots) && slices.EqualFunc(a.Objects, b.Objects, func(x, y api.Object) bool {
		return x.Id == y.Id && x.Size == y.Size && x.Type == y.Type && slices.Equal(x.Refs, y.Refs)
	})
}

const exampleText = "obj 1 10 node 2 5\nobj 2 0 leaf\nobj 5 7 leaf\nroots 1\n"

func example() api.Heap {
	return heap([]int{1}, obj(1, 10, 2, 5), api.Object{Id: 2, Type: "leaf"}, api.Object{Id: 5, Size: 7, Type: "leaf"})
}

// many returns a heap of n objects, of which the first one refers to refs ones.
func many(n, refs int) api.Heap {
	var h api.Heap
	for i := range n {
		h.Objects = append(h.Objects, obj(i, 0))
	}
	for i := range refs {
		o := &h.Objects[i/n]
		o.Refs = append(o.Refs, i%n)
	}
	return h
}

func TestCheck(t *testing.T) {
	for i, c := range []struct {
		h   api.Heap
		err api.Errno
	}{
		{api.Heap{}, api.OK}, {example(), api.OK},
		{many(5000, 20000), api.OK}, {many(5001, 0), api.ErrLong}, {many(5000, 20001), api.ErrLong},
		{heap(make([]int, 5001), obj(-1, 0)), api.ErrLong},
		{heap(nil, obj(-1, 0)), api.ErrRange}, {heap(nil, obj(api.MaxInt+1, 0)), api.ErrRange}, {heap(nil, obj(0, -1)), api.ErrRange}, {heap(nil, obj(0, api.MaxTime+1)), api.ErrRange},
		{heap(nil, obj(api.MaxInt, api.MaxTime)), api.OK}, {heap(nil, api.Object{Id: -1}), api.ErrRange},
		{heap(nil, obj(1, 0, 9), api.Object{Id: 1}), api.ErrName}, {heap(nil, obj(1, 0, 9), obj(1, 0)), api.ErrOrder}, {heap(nil, obj(2, 0), obj(1, 0)), api.ErrOrder},
		{heap([]int{7}, obj(1, 0, 9)), api.ErrNone}, {heap([]int{7}, obj(1, 0), obj(2, 0, 2, 1)), api.ErrOrder}, {heap(nil, obj(1, 0), obj(2, 0, 2, 2)), api.ErrOrder}, {heap(nil, obj(1, 0), obj(2, 0, 2, 1, 9)), api.ErrOrder}, {heap(nil, obj(1, 0), obj(2, 0, 2, 0)), api.ErrNone},
		{heap([]int{7}, obj(1, 0)), api.ErrNone}, {heap([]int{2, 1}, obj(1, 0), obj(2, 0)), api.ErrOrder}, {heap([]int{1, 1}, obj(1, 0)), api.ErrOrder}, {heap([]int{1, 2}, obj(1, 0), obj(2, 0, 2)), api.OK},
		{heap([]int{math.MinInt}), api.ErrNone},
	} {
		if err := Check(c.h); err != c.err {
			t.Error(i, err)
		}
		if s, err := Print(c.h); c.err != api.OK && (s != "" || err != c.err) {
			t.Error(i, err)
		}
	}
}

// allRoots returns a heap in which all objects are roots.
func allRoots() api.Heap {
	h := many(api.MaxObjects, 0)
	for i := range h.Objects {
		h.Roots = append(h.Roots, i)
	}
	return h
}

// A text of MaxText bytes is printed and read, one of a byte more is not printed.
func TestLimits(t *testing.T) {
	if err := Check(allRoots()); err != api.OK {
		t.Error(err)
	}
	h := many(4000, 0)
	size := func() int {
		n := 0
		for _, o := range h.Objects {
			n += len("obj   node\n") + len(strconv.Itoa(o.Id)) + len(strconv.Itoa(o.Size))
		}
		return n
	}
	for i := 0; size() < api.MaxText; i++ {
		h.Objects[i].Size = 10
	}
	if s, err := Print(h); len(s) != api.MaxText || err != api.OK {
		t.Error(len(s), err)
	} else if got, _, err := Import(s); !same(got, h) || err != api.OK {
		t.Error(err)
	}
	h.Objects[3999].Size = 10
	if s, err := Print(h); s != "" || err != api.ErrLong {
		t.Error(len(s), err)
	}
}

func TestExamples(t *testing.T) {
	if s, err := Print(example()); s != exampleText || err != api.OK {
		t.Error(s, err)
	}
	if h, n, err := Import(exampleText); !same(h, example()) || n != 0 || err != api.OK {
		t.Error(h, n, err)
	}
	if s, err := Print(api.Heap{}); s != "" || err != api.OK {
		t.Error(s, err)
	}
	if h, n, err := Import(""); !same(h, api.Heap{}) || n != 0 || err != api.OK {
		t.Error(h, n, err)
	}
	if s, err := Print(many(5000, 20000)); s != "" || err != api.ErrLong {
		t.Error(err)
	}
}

func TestImportErrors(t *testing.T) {
	for s, want := range map[string]struct {
		n   int
		err api.Errno
	}{
		"obj 1 2 a": {1, api.ErrForm}, "roots 1\n": {0, api.ErrNone}, "roots": {1, api.ErrForm}, "roots\n": {1, api.ErrForm}, "\n": {1, api.ErrForm}, "obj 1 2 a\n\n": {2, api.ErrForm},
		"obj 1 2\n": {1, api.ErrForm}, "obj 1 2 \n": {1, api.ErrForm}, "obj 1 2 a \n": {1, api.ErrForm}, "obj  1 2 a\n": {1, api.ErrForm}, " obj 1 2 a\n": {1, api.ErrForm}, "obj 01 2 a\n": {1, api.ErrForm}, "obj 1 x a\n": {1, api.ErrForm}, "obj 1 2 a b\n": {1, api.ErrForm}, "obj 1 2 a +1\n": {1, api.ErrForm}, "Obj 1 2 a\n": {1, api.ErrForm}, "obj 1000000000000001 2 a\n": {1, api.ErrForm},
		"obj 1 2 a\nroots 1\nobj 2 2 a\n": {2, api.ErrForm}, "obj 1 2 a\nroots 1\nroots 1\n": {2, api.ErrForm}, "obj 1 2 a\nroots 1": {2, api.ErrForm}, "obj 1 2 a\nroots 1 \n": {2, api.ErrForm}, "obj 1 2 a\nroots a\n": {2, api.ErrForm}, "obj 1 2 a\nroots 1\n\n": {2, api.ErrForm},
		"obj -1 2 a\n": {0, api.ErrRange}, "obj 1 -2 a\n": {0, api.ErrRange}, "obj 1 2 \x01\n": {0, api.ErrName}, "obj 1 2 a\r\n": {0, api.ErrName}, "obj 2 0 a\nobj 1 0 a\n": {0, api.ErrOrder}, "obj 2 0 a 3\n": {0, api.ErrNone}, "obj 2 0 a\nroots 2 2\n": {0, api.ErrOrder}, "obj 2 0 \x01\nx\n": {2, api.ErrForm},
		strings.Repeat("x", api.MaxText+1): {0, api.ErrLong}, strings.Repeat("x", api.MaxText): {1, api.ErrForm},
	} {
		h, n, err := Import(s)
		if !same(h, api.Heap{}) || n != want.n || err != want.err {
			t.Error(s[:min(len(s), 40)], n, err)
		}
	}
}

func random(r *rand.Rand) api.Heap {
	var h api.Heap
	id := r.Intn(3)
	for range r.Intn(8) {
		h.Objects = append(h.Objects, obj(id, r.Intn(100)))
		id += 1 + r.Intn(3)
	}
	some := func() []int {
		var l []int
		for _, o := range h.Objects {
			if r.Intn(3) == 0 {
				l = append(l, o.Id)
			}
		}
		return l
	}
	for i := range h.Objects {
		h.Objects[i].Refs = some()
	}
	h.Roots = some()
	return h
}

func TestRoundTrip(t *testing.T) {
	r := rand.New(rand.NewSource(1))
	for range 2000 {
		h := random(r)
		s, err := Print(h)
		got, n, other := Import(s)
		if err != api.OK || !same(got, h) || n != 0 || other != api.OK {
			t.Fatal(s, err, other)
		}
		for i, o := range h.Objects {
			if j, ok := Find(h, o.Id); j != i || !ok {
				t.Fatal(h, o)
			}
			for _, id := range slices.Concat(o.Refs, h.Roots) {
				if _, ok := Find(h, id); !ok {
					t.Fatal(h, id)
				}
			}
		}
		if i, ok := Find(h, 1000); i != 0 || ok {
			t.Fatal(i)
		}
		bad := h
		bad.Roots = append(slices.Clip(h.Roots), 1000)
		if Check(bad) != api.ErrNone {
			t.Fatal("a root without an object")
		}
		if len(h.Objects) > 0 {
			bad = heap(h.Roots, slices.Clone(h.Objects)...)
			bad.Objects[0].Refs = append(slices.Clip(bad.Objects[0].Refs), 1000)
			if Check(bad) != api.ErrNone {
				t.Fatal("a reference without an object")
			}
			b := []byte(s)
			b[r.Intn(len(b))] = "0 1\nx"[r.Intn(5)]
			if got, _, err := Import(string(b)); err == api.OK {
				if again, _ := Print(got); again != string(b) {
					t.Fatal(string(b), again)
				}
			}
		}
	}
	if i, ok := Find(heap(nil, obj(3, 0), obj(3, 1), obj(-1, 0)), 3); i != 0 || !ok {
		t.Error(i, ok)
	}
}
