package disk

import (
	"bytes"
	"math"
	"math/rand"
	"slices"
	"testing"

	"tracebook/api"
)

func equal(a, b api.Disk) bool {
	return a.Size == b.Size && bytes.Equal(a.Data, b.Data) && a.Durable == b.Durable && a.Left == b.Left && a.Down == b.Down
}

func TestNew(t *testing.T) {
	for size, want := range map[int]api.Errno{1: api.OK, api.MaxDisk: api.OK, 0: api.ErrRange, -1: api.ErrRange, api.MaxDisk + 1: api.ErrRange} {
		d, err := New(size)
		if err != want || err == api.OK && !equal(d, api.Disk{Size: size, Left: -1}) || err != api.OK && !equal(d, api.Disk{}) {
			t.Error(size, d, err)
		}
	}
}

func TestInvalid(t *testing.T) {
	data := []byte{1, 2, 3}
	for i, d := range []api.Disk{{}, {Size: -1}, {Size: api.MaxDisk + 1}, {Size: 2, Data: data}, {Size: 9, Data: data, Durable: 4}, {Size: 9, Data: data, Durable: -1}, {Size: 9, Left: -2}, {Size: 9, Left: api.MaxDisk + 1, Down: true}, {Size: math.MaxInt, Durable: math.MinInt}} {
		if Check(d) != api.ErrRange || !equal(Crash(d, 1), d) {
			t.Error(i)
		}
		for j, f := range operations(nil, -1) {
			if after, err := f(d); err != api.ErrRange || !equal(after, api.Disk{}) {
				t.Error(i, j, err)
			}
		}
	}
	for i, d := range []api.Disk{{Size: 3, Data: data, Durable: 3}, {Size: 9, Data: data, Left: api.MaxDisk, Down: true}} {
		if Check(d) != api.OK {
			t.Error(i)
		}
	}
}

// operations returns the operations that can fail.
func operations(b []byte, n int) []func(api.Disk) (api.Disk, api.Errno) {
	return []func(api.Disk) (api.Disk, api.Errno){
		func(d api.Disk) (api.Disk, api.Errno) { return Append(d, b) },
		Sync,
		func(d api.Disk) (api.Disk, api.Errno) { return Truncate(d, n) },
		func(d api.Disk) (api.Disk, api.Errno) { return Arm(d, n) },
	}
}

func TestDown(t *testing.T) {
	down := api.Disk{Size: 4, Data: []byte{1, 2, 3}, Durable: 1, Left: 0, Down: true}
	for i, f := range operations(make([]byte, 9), -1) {
		if after, err := f(down); err != api.ErrDown || !equal(after, down) {
			t.Error(i, after, err)
		}
	}
}

func TestExamples(t *testing.T) {
	d, _ := New(10)
	d, _ = Arm(d, 3)
	d, err := Append(d, []byte{1, 2, 3, 4, 5})
	if err != api.ErrDown || !equal(d, api.Disk{Size: 10, Data: []byte{1, 2, 3}, Down: true}) {
		t.Error(d, err)
	}
	if c := Crash(d, 1); !equal(c, api.Disk{Size: 10, Data: []byte{1}, Durable: 1, Left: -1}) {
		t.Error(c)
	}
	for keep, n := range map[int]int{-1: 0, 0: 0, 3: 3, 4: 3, math.MaxInt: 3, math.MinInt: 0} {
		if c := Crash(d, keep); len(c.Data) != n || c.Durable != n {
			t.Error(keep, c)
		}
	}
	e, _ := New(10)
	e, _ = Arm(e, 0)
	e, err = Append(e, nil)
	if err != api.OK || e.Down {
		t.Error(err)
	}
	if e, err = Sync(e); err != api.ErrDown || !e.Down {
		t.Error(err)
	}
}

func TestErrors(t *testing.T) {
	d := api.Disk{Size: 4, Data: []byte{1, 2, 3}, Durable: 2, Left: 1}
	if after, err := Append(d, []byte{4, 5}); err != api.ErrFull || !equal(after, api.Disk{}) {
		t.Error(after, err)
	}
	if after, err := Append(d, []byte{4}); err != api.OK || after.Left != 0 || after.Durable != 2 || len(after.Data) != 4 {
		t.Error(after, err)
	}
	for n, want := range map[int]api.Errno{-1: api.ErrRange, 4: api.ErrRange, 0: api.OK, 1: api.OK, 3: api.OK} {
		after, err := Truncate(d, n)
		if err != want || err == api.OK && !equal(after, api.Disk{Size: 4, Data: d.Data[:n], Durable: min(2, n), Left: 1}) || err != api.OK && !equal(after, api.Disk{}) {
			t.Error(n, after, err)
		}
	}
	for n, want := range map[int]api.Errno{-1: api.ErrRange, api.MaxDisk + 1: api.ErrRange, api.MaxDisk: api.OK, 0: api.OK} {
		after, err := Arm(d, n)
		if err != want || err == api.OK && after.Left != n || err != api.OK && !equal(after, api.Disk{}) {
			t.Error(n, after, err)
		}
	}
}

func TestAppendTwice(t *testing.T) {
	d, _ := New(10)
	d, _ = Append(d, []byte{1, 2, 3})
	d, _ = Truncate(d, 1)
	x, _ := Append(d, []byte{7})
	y, _ := Append(d, []byte{8})
	if x.Data[1] != 7 || y.Data[1] != 8 {
		t.Error("results share memory")
	}
}

// TestModel follows what was written, and what must and what can survive.
func TestModel(t *testing.T) {
	r := rand.New(rand.NewSource(1))
	for range 500 {
		d, _ := New(1 + r.Intn(60))
		var written []byte
		durable := 0
		for range 40 {
			n := r.Intn(12)
			b := make([]byte, n)
			r.Read(b)
			which := r.Intn(5)
			before := d
			before.Data = slices.Clone(d.Data)
			if which == 4 {
				d = Crash(d, n-2)
				if len(d.Data) < durable || len(d.Data) > len(written) || !bytes.HasPrefix(written, d.Data) || d.Durable != len(d.Data) || d.Left != -1 || d.Down {
					t.Fatal(d)
				}
				written, durable = d.Data, len(d.Data)
				continue
			}
			after, err := operations(b, n)[which](d)
			if !equal(before, d) || before.Down && (err != api.ErrDown || !equal(after, d)) {
				t.Fatal(err)
			}
			if err != api.OK && err != api.ErrDown {
				continue
			}
			if Check(after) != api.OK || after.Down != (err == api.ErrDown) {
				t.Fatal(after, err)
			}
			switch {
			case which == 0:
				written = append(slices.Clip(written), b[:len(after.Data)-len(written)]...)
			case which == 1 && err == api.OK:
				durable = len(written)
			case which == 2 && err == api.OK:
				written = written[:n]
				durable = min(durable, n)
			}
			if !bytes.Equal(after.Data, written) || after.Durable != durable {
				t.Fatal(after, written, durable)
			}
			d = after
		}
	}
}
