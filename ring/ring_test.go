package ring

import (
	"bytes"
	"math"
	"math/rand"
	"slices"
	"testing"

	"tracebook/api"
	"tracebook/codec"
)

func TestNew(t *testing.T) {
	for _, c := range []struct {
		size int
		p    api.Policy
		err  api.Errno
	}{{16, api.Overwrite, api.OK}, {api.MaxRing, api.Stall, api.OK}, {15, api.Stall, api.ErrRange}, {api.MaxRing + 1, 3, api.ErrRange}, {-1, api.Stall, api.ErrRange}, {math.MinInt, 0, api.ErrRange}, {16, 3, api.ErrArg}, {16, 0, api.ErrArg}} {
		r, err := New(c.size, c.p)
		if err != c.err {
			t.Error(c, err)
		}
		if err == api.OK && (len(r.Data) != c.size || r.Policy != c.p || Check(r) != api.OK || Count(r) != 0 || Free(r) != c.size || r.Start+r.End+r.First+r.Next != 0 || !bytes.Equal(r.Data, make([]byte, c.size))) {
			t.Error(r)
		}
		if err != api.OK && (r.Data != nil || r.Policy != 0) {
			t.Error(r)
		}
	}
}

// equal compares everything that has a meaning.
func equal(a, b api.Ring) bool {
	return a.Policy == b.Policy && a.Start == b.Start && a.End == b.End && a.First == b.First && a.Next == b.Next && bytes.Equal(a.Data, b.Data)
}

func size(b []byte) int { return len(b) + len(codec.PutInt(nil, len(b))) }

// TestModel compares the ring buffer with a list of records.
func TestModel(t *testing.T) {
	r := rand.New(rand.NewSource(1))
	for round := range 400 {
		policy := api.Policy(1 + round%2)
		ring, _ := New(16+r.Intn(200), policy)
		var model [][]byte
		used, first, next := 0, 0, 0
		for range 60 {
			b := make([]byte, r.Intn(40)*r.Intn(4))
			r.Read(b)
			before := slices.Clone(ring.Data)
			after, lost, err := Put(ring, b)
			if !bytes.Equal(before, ring.Data) {
				t.Fatal("the argument was changed")
			}
			want, wantLost := api.OK, 0
			switch {
			case size(b) > len(ring.Data):
				want = api.ErrLong
			case policy == api.Stall && size(b) > len(ring.Data)-used:
				want = api.ErrFull
			default:
				for size(b) > len(ring.Data)-used {
					used -= size(model[0])
					model = model[1:]
					wantLost++
				}
				model, used = append(model, b), used+size(b)
				first, next = first+wantLost, next+1
			}
			if lost != wantLost || err != want || err != api.OK && !equal(after, ring) || policy == api.Stall && lost > 0 {
				t.Fatal(lost, wantLost, err, want)
			}
			ring = after
			checkShifted(t, r, ring, b)
			taken, empty := Take(ring)
			if Check(ring) != api.OK || ring.First != first || ring.Next != next || Count(ring) != len(model) || Free(ring) != len(ring.Data)-used || !slices.EqualFunc(taken, model, bytes.Equal) {
				t.Fatal(ring, model)
			}
			if Check(empty) != api.OK || Count(empty) != 0 || empty.Start != ring.End || empty.First != next || Free(empty) != len(ring.Data) {
				t.Fatal(empty)
			}
			if r.Intn(10) == 0 {
				ring, model, used, first = empty, nil, 0, next
			}
		}
	}
}

// checkShifted compares a ring buffer with the one at other positions.
func checkShifted(t *testing.T, r *rand.Rand, ring api.Ring, b []byte) {
	shifted := ring
	by := len(ring.Data) * r.Intn((api.MaxInt-ring.End)/len(ring.Data)+1)
	shifted.Start += by
	shifted.End += by
	x, _ := Take(ring)
	y, _ := Take(shifted)
	if Check(shifted) != api.OK || Count(ring) != Count(shifted) || Free(ring) != Free(shifted) || !slices.EqualFunc(x, y, bytes.Equal) {
		t.Fatal("shifted", by)
	}
	_, lost, err := Put(ring, b)
	_, shiftedLost, shiftedErr := Put(shifted, b)
	if shiftedErr != api.ErrRange && (lost != shiftedLost || err != shiftedErr) {
		t.Fatal("shifted", by, err, shiftedErr)
	}
}

func fill(r api.Ring, n int) api.Ring {
	for i := range n {
		r, _, _ = Put(r, []byte{byte(i), 2, 3})
	}
	return r
}

func TestExamples(t *testing.T) {
	r, _ := New(16, api.Overwrite)
	if Free(fill(r, 1)) != 12 || Free(fill(r, 4)) != 0 {
		t.Error("room")
	}
	five, lost, err := Put(fill(r, 4), []byte{1, 2, 3})
	if lost != 1 || err != api.OK || five.First != 1 || five.Next != 5 || five.Start != 4 || five.End != 20 {
		t.Error(five, lost, err)
	}
	s, _ := New(16, api.Stall)
	if after, lost, err := Put(fill(s, 4), []byte{1, 2, 3}); err != api.ErrFull || lost != 0 || !equal(after, fill(s, 4)) {
		t.Error(after, err)
	}
	if _, _, err := Put(r, make([]byte, 16)); err != api.ErrLong {
		t.Error(err)
	}
	if _, _, err := Put(r, make([]byte, 15)); err != api.OK {
		t.Error(err)
	}
}

func TestLimits(t *testing.T) {
	r, _ := New(api.MaxRing, api.Stall)
	if _, _, err := Put(r, make([]byte, api.MaxRecord)); err != api.OK {
		t.Error(err)
	}
	if _, _, err := Put(r, make([]byte, api.MaxRecord+1)); err != api.ErrLong {
		t.Error(err)
	}
	for _, policy := range []api.Policy{api.Overwrite, api.Stall} {
		small, _ := New(16, policy)
		small.Start, small.End = api.MaxInt-3, api.MaxInt-3
		if _, _, err := Put(small, []byte{1, 2, 3}); err != api.ErrRange {
			t.Error(err)
		}
		if _, _, err := Put(small, []byte{1, 2}); err != api.OK {
			t.Error(err)
		}
		small.Start, small.End, small.First, small.Next = 0, 0, api.MaxInt, api.MaxInt
		if after, _, err := Put(small, nil); err != api.ErrRange || !equal(after, small) {
			t.Error(err)
		}
	}
}

func TestCheck(t *testing.T) {
	r, _ := New(16, api.Overwrite)
	good := fill(r, 3)
	for i, c := range []struct {
		change func(r *api.Ring)
		err    api.Errno
	}{
		{func(r *api.Ring) {}, api.OK},
		{func(r *api.Ring) { r.Policy = 0; r.Data = nil }, api.ErrArg},
		{func(r *api.Ring) { r.Policy = 3 }, api.ErrArg},
		{func(r *api.Ring) { r.Data = nil }, api.ErrRange},
		{func(r *api.Ring) { r.Data = r.Data[:15] }, api.ErrRange},
		{func(r *api.Ring) { r.Data = make([]byte, api.MaxRing+1) }, api.ErrRange},
		{func(r *api.Ring) { r.Start = -1 }, api.ErrRange},
		{func(r *api.Ring) { r.Start = 13 }, api.ErrRange},
		{func(r *api.Ring) { r.Start, r.End = api.MaxInt+1, api.MaxInt+1 }, api.ErrRange},
		{func(r *api.Ring) { r.End = 17 }, api.ErrRange},
		{func(r *api.Ring) { r.Start, r.End = math.MinInt, math.MaxInt }, api.ErrRange},
		{func(r *api.Ring) { r.First, r.Next = -1, 2 }, api.ErrRange},
		{func(r *api.Ring) { r.First = 4 }, api.ErrRange},
		{func(r *api.Ring) { r.First, r.Next = api.MaxInt-2, api.MaxInt+1 }, api.ErrRange},
		{func(r *api.Ring) { r.First, r.Next = api.MaxInt-3, api.MaxInt }, api.OK},
		{func(r *api.Ring) { r.Next = 4 }, api.ErrForm},
		{func(r *api.Ring) { r.Next = 2 }, api.ErrForm},
		{func(r *api.Ring) { r.End = 11 }, api.ErrForm},
		{func(r *api.Ring) { r.Start = 1 }, api.ErrForm},
		{func(r *api.Ring) { r.Data[0] = 1 }, api.ErrForm},
		{func(r *api.Ring) { r.Data[8] = 8 }, api.ErrForm},
		{func(r *api.Ring) { r.Data[8], r.Data[9] = 132, 0; r.End = 10 }, api.ErrForm},
		{func(r *api.Ring) { r.Data[15] = 99 }, api.OK},
	} {
		ring := good
		ring.Data = slices.Clone(good.Data)
		c.change(&ring)
		if err := Check(ring); err != c.err {
			t.Error(i, err)
		}
		if c.err == api.OK {
			continue
		}
		after, lost, err := Put(ring, nil)
		l, taken := Take(ring)
		if !equal(after, ring) || lost != 0 || err != c.err || len(l) != 0 || !equal(taken, ring) || Count(ring) != 0 || Free(ring) != 0 {
			t.Error(i, err)
		}
	}
}

func TestLongestRecordInRing(t *testing.T) {
	b := append(codec.PutInt(nil, api.MaxRecord), make([]byte, api.MaxRecord)...)
	r := api.Ring{Policy: api.Stall, Data: make([]byte, 4000), End: len(b), Next: 1}
	copy(r.Data, b)
	if Check(r) != api.OK || Count(r) != 1 {
		t.Error("a record of MaxRecord bytes")
	}
	empty := api.Ring{Policy: api.Stall, Data: make([]byte, 16), Start: api.MaxInt, End: api.MaxInt}
	if Check(empty) != api.OK {
		t.Error("the greatest position")
	}
}

func TestLongRecordInRing(t *testing.T) {
	b := append(codec.PutInt(nil, api.MaxRecord+1), make([]byte, api.MaxRecord+1)...)
	r := api.Ring{Policy: api.Stall, Data: make([]byte, 4000), End: len(b), Next: 1}
	copy(r.Data, b)
	if Check(r) != api.ErrForm {
		t.Error("a record above MaxRecord")
	}
}
