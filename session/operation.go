package session

import (
	"slices"

	"tracebook/api"
	"tracebook/drain"
	"tracebook/producer"
)

// service is a collecting service in operation.
type service struct{ api.Service }

// collect adds packets to the queue.
func (s *service) collect(l []api.Packet) api.Errno {
	for _, p := range l {
		next, err := drain.Collect(s.Service, p)
		if err != api.OK {
			return err
		}
		s.Service = next
	}
	return api.OK
}

// flush empties the queue.
func (s *service) flush() []api.Packet {
	packets, next := drain.Flush(s.Service)
	s.Service = next
	return packets
}

// operation is a session in operation; it collects what its producers recorded by its service.
type operation struct {
	service
	session api.Session
}

// begin takes a session that was checked into operation.
func begin(s api.Session) *operation {
	s.Producers = slices.Clone(s.Producers)
	return &operation{service{s.Service}, s}
}

// drain returns the packets of all producers.
func (o *operation) drain() ([]api.Packet, api.Errno) {
	for i := range o.Threads {
		packets, rest := producer.Drain(o.session.Producers[i])
		o.session.Producers[i] = rest
		if err := o.collect(packets); err != api.OK {
			return nil, err
		}
	}
	return o.flush(), api.OK
}

// written returns the session after a flush to a disk.
func (o *operation) written(d api.Disk) api.Session {
	s := o.session
	s.Service = o.Service
	s.Disk = d
	s.Head.Snaps = slices.Concat(s.Head.Snaps, s.Snaps)
	s.Snaps = nil
	return s
}

// restarted returns the session that continues a file after a loss of power.
func restarted(s api.Session, d api.Disk, h api.Head, ends map[int]end) (api.Session, api.Errno) {
	next, err := drain.New(h.Threads)
	if err != api.OK {
		return api.Session{}, err
	}
	result := api.Session{Head: h, Service: next, Disk: d}
	for i, t := range h.Threads {
		old := s.Producers[i].Ring
		p, err := producer.New(t, len(old.Data), old.Policy)
		if err != api.OK {
			return api.Session{}, err
		}
		at := ends[t.Id]
		p.Ring.First, p.Ring.Next, p.Sent, p.Last = at.next, at.next, at.next, at.last
		result.Producers = append(result.Producers, p)
		result.Service.Next[i] = at.next
	}
	return result, api.OK
}
