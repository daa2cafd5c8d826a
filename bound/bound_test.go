package bound

import (
	"math"
	"math/rand"
	"slices"
	"testing"

	"tracebook/api"
	"tracebook/clock"
	"tracebook/interval"
)

func snap(a, at, b, lo, hi int) api.Snap {
	return api.Snap{A: a, AtA: at, B: b, AtB: api.Interval{Lo: lo, Hi: hi}}
}

var two = []api.Domain{{}, {Id: 1, Ppm: 100}}

func TestExamples(t *testing.T) {
	first := []api.Snap{snap(1, 1000, 0, 5000, 5010)}
	contradiction := append(first, snap(1, 2000, 0, 5000, 5900))
	for i, c := range []struct {
		l      []api.Snap
		id, at int
		lo, hi int
		err    api.Errno
	}{
		{first, 1, 1000, 5000, 5010, api.OK}, {first, 1, 1001000, 1004900, 1005110, api.OK}, {first, 0, 7, 7, 7, api.OK}, {first, 1, 0, 3999, 4011, api.OK},
		{nil, 1, 1000, 0, 0, api.ErrClock}, {nil, 0, 7, 7, 7, api.OK},
		{contradiction, 1, 1000, 0, 0, api.ErrClock}, {contradiction, 0, 7, 0, 0, api.ErrClock},
		{[]api.Snap{{}}, 5, -1, 0, 0, api.ErrArg}, {contradiction, 5, -1, 0, 0, api.ErrNone},
		{contradiction, 1, -1, 0, 0, api.ErrRange}, {contradiction, 0, api.MaxTime + 1, 0, 0, api.ErrRange}, {first, 1, math.MinInt, 0, 0, api.ErrRange},
		{first, 0, api.MaxTime, api.MaxTime, api.MaxTime, api.OK},
	} {
		got, err := Of(two, c.l, c.id, c.at)
		if got != (api.Interval{Lo: c.lo, Hi: c.hi}) || err != c.err {
			t.Error(i, got, err)
		}
	}
	if !Consistent(two, first) || Consistent(two, contradiction) || !Consistent(two, nil) || Consistent(nil, nil) || Consistent(two, []api.Snap{{}}) {
		t.Error("Consistent")
	}
}

// Contradictions of domains that are not linked count, too.
func TestUnlinked(t *testing.T) {
	d := []api.Domain{{}, {Id: 1}, {Id: 2}}
	l := []api.Snap{snap(1, 0, 2, 0, 0), snap(1, 10, 2, 20, 20)}
	if _, err := Of(d, l, 0, 5); err != api.ErrClock || Consistent(d, l) {
		t.Error(err)
	}
	if _, err := Of(d, l[:1], 1, 5); err != api.ErrClock || !Consistent(d, l[:1]) {
		t.Error(err)
	}
	if i, err := Of(d, l[:1], 0, 5); err != api.OK || i.Lo != 5 {
		t.Error(err)
	}
}

func TestMany(t *testing.T) {
	l := []api.Snap{snap(1, 1000, 0, 5000, 5010)}
	if many, err := Many(nil, []api.Snap{{}}, 99, nil); len(many) != 0 || err != api.OK {
		t.Error(many, err)
	}
	many, err := Many(two, l, 1, []int{1001000, 0})
	if err != api.OK || !slices.Equal(many, []api.Interval{{Lo: 1004900, Hi: 1005110}, {Lo: 3999, Hi: 4011}}) {
		t.Error(many, err)
	}
	for i, c := range []struct {
		l   []api.Snap
		id  int
		at  []int
		err api.Errno
	}{{l, 2, []int{-1}, api.ErrNone}, {l, 1, []int{0, -1, 3}, api.ErrRange}, {nil, 1, []int{-1}, api.ErrRange}, {nil, 1, []int{0, -1}, api.ErrClock}} {
		if many, err := Many(two, c.l, c.id, c.at); len(many) != 0 || err != c.err {
			t.Error(i, err)
		}
	}
}

// solver computes bounds by the definition: all constraints between all readings, and Floyd's algorithm.
type solver struct {
	nodes []clockReading
	dist  [][]int
}

const far = math.MaxInt / 4

func solve(d []api.Domain, l []api.Snap, id, at int) (api.Interval, bool, bool) {
	s := solver{nodes: []clockReading{{0, 0}}}
	for _, x := range d {
		points := clock.Points(l, x.Id)
		if x.Id == id {
			points = append(points, at)
		}
		for _, p := range points {
			if !slices.Contains(s.nodes, clockReading{x.Id, p}) {
				s.nodes = append(s.nodes, clockReading{x.Id, p})
			}
		}
	}
	for range s.nodes {
		s.dist = append(s.dist, slices.Repeat([]int{far}, len(s.nodes)))
	}
	for i, x := range s.nodes {
		for j, y := range s.nodes {
			if x.domain == y.domain {
				ppm, _ := clock.Ppm(d, x.domain)
				passed, _ := interval.Stretch(y.reading-x.reading, ppm)
				s.dist[i][j] = passed.Hi
			}
		}
	}
	for _, x := range l {
		a := slices.Index(s.nodes, clockReading{x.A, x.AtA})
		lo, hi := slices.Index(s.nodes, clockReading{x.B, x.AtB.Lo}), slices.Index(s.nodes, clockReading{x.B, x.AtB.Hi})
		s.dist[a][lo] = min(s.dist[a][lo], 0)
		s.dist[hi][a] = min(s.dist[hi][a], 0)
	}
	for k := range s.nodes {
		for i := range s.nodes {
			for j := range s.nodes {
				s.dist[i][j] = min(s.dist[i][j], s.dist[i][k]+s.dist[k][j])
			}
		}
	}
	for i := range s.nodes {
		if s.dist[i][i] < 0 {
			return api.Interval{}, false, false
		}
	}
	n := slices.Index(s.nodes, clockReading{id, at})
	return api.Interval{Lo: -s.dist[n][0], Hi: s.dist[0][n]}, s.dist[0][n] < far/2, true
}

// randomSnaps returns snapshots of clocks that really drift, so that they are often consistent.
func randomSnaps(r *rand.Rand, d []api.Domain) []api.Snap {
	offsets := make([]int, 8)
	for i := range offsets {
		offsets[i] = r.Intn(2000)
	}
	var l []api.Snap
	for range r.Intn(6) {
		a, b := d[r.Intn(len(d))].Id, d[r.Intn(len(d))].Id
		if a == b {
			continue
		}
		now := r.Intn(3000000)
		at := func(id int) int {
			if id == 0 {
				return 2000 + now
			}
			return now + offsets[id]
		}
		lo := at(b) - r.Intn(200)
		l = append(l, snap(a, at(a), b, max(lo, 0), at(b)+r.Intn(200)))
	}
	return l
}

func TestDefinition(t *testing.T) {
	r := rand.New(rand.NewSource(1))
	d := []api.Domain{{}, {Id: 1, Ppm: 100}, {Id: 2, Ppm: 10000}, {Id: 5}}
	bounded := 0
	for range 600 {
		l := randomSnaps(r, d)
		if r.Intn(3) == 0 && len(l) > 0 {
			l[0].AtB = api.Interval{Lo: r.Intn(100), Hi: 100 + r.Intn(4000000)}
		}
		last := map[int]api.Interval{}
		for at := 0; at < 4000000; at += 400000 {
			for _, x := range d {
				want, linked, consistent := solve(d, l, x.Id, at)
				got, err := Of(d, l, x.Id, at)
				if !consistent || !linked {
					if err != api.ErrClock || Consistent(d, l) != consistent {
						t.Fatal(l, x, at, got, err)
					}
					continue
				}
				if err != api.OK || got != want || !Consistent(d, l) || x.Id == 0 && got != (api.Interval{Lo: at, Hi: at}) {
					t.Fatal(l, x, at, got, want, err)
				}
				bounded++
				checkEnds(t, d, l, x.Id, at, got)
				if before, ok := last[x.Id]; ok {
					passed, _ := interval.Stretch(400000, x.Ppm)
					if got.Lo < before.Lo || got.Hi < before.Hi || got.Lo-before.Lo > passed.Hi || got.Hi-before.Hi > passed.Hi {
						t.Fatal("growth", before, got)
					}
				}
				last[x.Id] = got
			}
		}
		if more := append(slices.Clip(l), randomSnaps(r, d)...); Consistent(d, more) {
			checkNarrower(t, d, l, more)
		}
	}
	if bounded < 1000 {
		t.Error("few cases", bounded)
	}
}

// checkEnds checks that the ends are reached, and nothing beyond them.
func checkEnds(t *testing.T, d []api.Domain, l []api.Snap, id, at int, i api.Interval) {
	if id == 0 {
		return
	}
	for _, c := range []struct {
		end  int
		want bool
	}{{i.Lo, true}, {i.Hi, true}, {i.Lo - 1, false}, {i.Hi + 1, false}} {
		if c.end >= 0 && c.end <= api.MaxTime {
			if Consistent(d, append(slices.Clip(l), snap(id, at, 0, c.end, c.end))) != c.want {
				t.Fatal(l, id, at, i, c)
			}
		}
	}
}

func checkNarrower(t *testing.T, d []api.Domain, l, more []api.Snap) {
	for _, x := range d {
		before, err := Of(d, l, x.Id, 1000)
		after, other := Of(d, more, x.Id, 1000)
		if err == api.OK && (other != api.OK || after.Lo < before.Lo || after.Hi > before.Hi) {
			t.Fatal(l, more, before, after)
		}
	}
}

func TestLimits(t *testing.T) {
	r := rand.New(rand.NewSource(2))
	var d []api.Domain
	for i := range 8 {
		d = append(d, api.Domain{Id: i, Ppm: api.MaxPpm * min(i, 1)})
	}
	var l []api.Snap
	for i := range 200 {
		b := 1 + i%7
		now := r.Intn(api.MaxTime)
		l = append(l, snap(b, now, b-1, max(now-1000, 0), min(now+1000, api.MaxTime)))
	}
	if i, err := Of(d, l, 7, api.MaxTime); err != api.OK || !interval.Within(i, api.MaxTime) {
		t.Error(i, err)
	}
	l[0].AtB = api.Interval{}
	if _, err := Of(d, l, 7, api.MaxTime); err != api.ErrClock {
		t.Error(err)
	}
}
