// Package rules tests the rules that all functions keep: R1, R2, R3 and R4 of DOC.md.
package rules

import (
	"fmt"
	"maps"
	"math/rand"
	"reflect"
	"slices"
	"testing"
	"time"

	"tracebook/api"
)

// same compares values, where nil slices and empty ones are equivalent (R3).
func same(a, b reflect.Value) bool {
	switch a.Kind() {
	case reflect.Slice, reflect.Array:
		if a.Len() != b.Len() {
			return false
		}
		for i := range a.Len() {
			if !same(a.Index(i), b.Index(i)) {
				return false
			}
		}
		return true
	case reflect.Struct:
		for i := range a.NumField() {
			if !same(a.Field(i), b.Field(i)) {
				return false
			}
		}
		return true
	}
	return a.Equal(b)
}

// emptied replaces nil slices in a value by empty ones, and the other way round.
func emptied(v reflect.Value) {
	switch v.Kind() {
	case reflect.Slice:
		if v.Len() > 0 {
			for i := range v.Len() {
				emptied(v.Index(i))
			}
		} else if v.IsNil() {
			v.Set(reflect.MakeSlice(v.Type(), 0, 3))
		} else {
			v.SetZero()
		}
	case reflect.Array:
		for i := range v.Len() {
			emptied(v.Index(i))
		}
	case reflect.Struct:
		for i := range v.NumField() {
			emptied(v.Field(i))
		}
	}
}

// argument returns a random argument of a type: a valid value, one with changes, or anything.
func argument(r *rand.Rand, t reflect.Type, pool map[reflect.Type][]reflect.Value) reflect.Value {
	v := reflect.New(t).Elem()
	l := pool[t]
	if len(l) == 0 || r.Intn(6) == 0 {
		generate(r, v, 0)
		return v
	}
	v.Set(copyOf(pick(r, l)))
	if r.Intn(2) == 0 {
		for range 1 + r.Intn(3) {
			change(r, v)
		}
	}
	return v
}

// call calls a function, and reports a panic or a long running time.
func call(t *testing.T, name string, f reflect.Value, args []reflect.Value) (results []reflect.Value) {
	start := time.Now()
	defer func() {
		if p := recover(); p != nil {
			t.Fatalf("%s panics: %v\n%s", name, p, show(args))
		}
		if time.Since(start) > 10*time.Second {
			t.Fatalf("%s takes long: %s", name, show(args))
		}
	}()
	return f.Call(args)
}

func show(args []reflect.Value) string {
	s := ""
	for _, a := range args {
		s += fmt.Sprintf("%#v\n", a.Interface())
	}
	return s
}

func allSame(a, b []reflect.Value) bool { return slices.EqualFunc(a, b, same) }

func copies(l []reflect.Value) []reflect.Value {
	var c []reflect.Value
	for _, v := range l {
		c = append(c, copyOf(v))
	}
	return c
}

// withError are functions that return more than zero values with an error, as their chapters say.
var withError = map[string]bool{"intern.Put": true, "intern.PutStack": true, "ring.Put": true, "drain.Collect": true, "disk.Append": true, "disk.Sync": true, "disk.Truncate": true, "disk.Arm": true, "file.Create": true, "file.Append": true, "file.Open": true, "json.Parse": true, "ftrace.Import": true, "folded.Import": true, "heapdump.Import": true, "parse.Query": true, "parse.Expr": true, "session.Flush": true, "script.Run": true}

// checkZero checks that all results with an error are zero (R2).
func checkZero(t *testing.T, name string, results, args []reflect.Value) {
	last := results[len(results)-1]
	if err, ok := last.Interface().(api.Errno); !ok || err == api.OK || withError[name] {
		return
	}
	for _, v := range results[:len(results)-1] {
		if !same(v, reflect.Zero(v.Type())) {
			t.Fatalf("%s returns %v with an error\n%s", name, v, show(args))
		}
	}
}

func TestRules(t *testing.T) {
	pool := map[reflect.Type][]reflect.Value{}
	for _, v := range valid() {
		pool[reflect.TypeOf(v)] = append(pool[reflect.TypeOf(v)], reflect.ValueOf(v))
	}
	all := functions()
	r := rand.New(rand.NewSource(1))
	for _, name := range slices.Sorted(maps.Keys(all)) {
		f := reflect.ValueOf(all[name])
		for range rounds {
			var args []reflect.Value
			for i := range f.Type().NumIn() {
				args = append(args, argument(r, f.Type().In(i), pool))
			}
			before := copies(args)
			results := call(t, name, f, args)
			first := copies(results)
			if !allSame(args, before) {
				t.Fatalf("%s modifies its arguments\n%s", name, show(before))
			}
			again := call(t, name, f, args)
			if !allSame(again, first) || !allSame(results, first) {
				t.Fatalf("%s returns two results\n%s", name, show(before))
			}
			checkZero(t, name, first, args)
			for _, a := range args {
				emptied(a)
			}
			if other := call(t, name, f, args); !allSame(other, first) {
				t.Fatalf("%s tells nil slices from empty ones\n%s", name, show(before))
			}
		}
	}
}

// rounds is the number of calls of each function.
const rounds = 400
