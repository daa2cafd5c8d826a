package chrome

import (
	"tracebook/api"
	"tracebook/json"
	"tracebook/log"
)

// object collects the keys and values of an object.
type object struct{ j api.Json }

func newObject(ph string, thread int) *object {
	o := &object{api.Json{Op: api.JObject}}
	o.text("ph", ph)
	o.number("tid", thread)
	return o
}

func (o *object) add(key string, value api.Json) {
	o.j.Keys = append(o.j.Keys, key)
	o.j.Kids = append(o.j.Kids, value)
}

func (o *object) text(key, s string) { o.add(key, api.Json{Op: api.JText, S: s}) }

func (o *object) number(key string, n int) { o.add(key, api.Json{Op: api.JNumber, N: n}) }

func (o *object) stack(l []string) {
	frames := api.Json{Op: api.JArray}
	for _, s := range l {
		frames.Kids = append(frames.Kids, api.Json{Op: api.JText, S: s})
	}
	o.add("stack", frames)
}

// eventObject returns the object of an event.
func eventObject(thread int, e api.Event) api.Json {
	s := shapes[e.Kind]
	o := newObject(s.ph, thread)
	if s.name {
		o.text("name", e.Name)
	}
	o.number("ts", e.At)
	if s.stackFirst {
		o.stack(e.Stack)
	}
	if s.n != "" {
		o.number(s.n, e.N)
	}
	if hasM(s, e) {
		o.number(s.m, e.M)
	}
	if s.stack && !s.stackFirst {
		o.stack(e.Stack)
	}
	return o.j
}

// Export returns the JSON trace of a log.
func Export(l api.Log) (string, api.Errno) {
	if err := log.Check(l); err != api.OK {
		return "", err
	}
	// A valid head has the reference domain, and its threads belong to its domains.
	if len(l.Head.Domains) > 1 || len(l.Head.Snaps) > 0 {
		return "", api.ErrClock
	}
	if len(log.Gaps(l)) > 0 {
		return "", api.ErrArg
	}
	all := api.Json{Op: api.JArray}
	for _, t := range l.Head.Threads {
		o := newObject(meta, t.Id)
		o.text("name", t.Name)
		all.Kids = append(all.Kids, o.j)
	}
	for _, p := range l.Parts {
		for _, e := range p.Events {
			all.Kids = append(all.Kids, eventObject(p.Thread, e))
		}
	}
	s, err := json.Print(all)
	if err != api.OK {
		return "", err
	}
	if len(s) > api.MaxText {
		return "", api.ErrLong
	}
	return s, api.OK
}
