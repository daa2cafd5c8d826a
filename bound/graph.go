package bound

import (
	"math"

	"tracebook/api"
	"tracebook/clock"
	"tracebook/interval"
)

// place is where a reading of a clock stands in a graph: its reference time is that of the node plus by.
// All readings of the reference stand at the node 0, whose reference time is 0.
type place struct{ node, by int }

// edge says that the time of the node to is at most that of the node from plus most.
type edge struct{ from, to, most int }

// clockReading is a reading of the clock of a domain.
type clockReading struct{ domain, reading int }

// graph has the constraints of snapshots as edges between nodes.
type graph struct {
	places map[clockReading]place
	points map[int][]int // the readings of each domain that snapshots mention
	nodes  int
	edges  []edge
}

// graphOf returns the graph of domains and snapshots that were checked.
func graphOf(d []api.Domain, l []api.Snap) *graph {
	g := &graph{places: map[clockReading]place{}, points: map[int][]int{}, nodes: 1}
	for _, x := range d {
		g.addDomain(x, clock.Points(l, x.Id))
	}
	for _, s := range l {
		a := g.places[clockReading{s.A, s.AtA}]
		g.addOrder(g.places[clockReading{s.B, s.AtB.Lo}], a)
		g.addOrder(a, g.places[clockReading{s.B, s.AtB.Hi}])
	}
	return g
}

// addDomain adds the readings of a domain, with the constraints between any two of them:
// those between adjacent ones would be weaker, because each is rounded outward.
func (g *graph) addDomain(d api.Domain, readings []int) {
	g.points[d.Id] = readings
	if d.Id == reference {
		for _, x := range readings {
			g.places[clockReading{d.Id, x}] = place{0, x}
		}
		return
	}
	for i, x := range readings {
		g.places[clockReading{d.Id, x}] = place{g.nodes + i, 0}
		for j, y := range readings[:i] {
			passed, _ := interval.Stretch(x-y, d.Ppm)
			g.edges = append(g.edges, edge{g.nodes + j, g.nodes + i, passed.Hi}, edge{g.nodes + i, g.nodes + j, -passed.Lo})
		}
	}
	g.nodes += len(readings)
}

// addOrder adds that the time of a is at most that of b.
func (g *graph) addOrder(a, b place) { g.edges = append(g.edges, edge{b.node, a.node, b.by - a.by}) }

// relax shortens distances along the edges until nothing changes, and reports whether that ends:
// it does not if there is a circle of negative length.
func (g *graph) relax(distances []int, forward bool) bool {
	for range g.nodes + 1 {
		changed := false
		for _, e := range g.edges {
			from, to := e.from, e.to
			if !forward {
				from, to = to, from
			}
			if distances[from] != math.MaxInt && distances[from]+e.most < distances[to] {
				distances[to] = distances[from] + e.most
				changed = true
			}
		}
		if !changed {
			return true
		}
	}
	return false
}

// consistent reports whether the constraints can be satisfied, also those of domains that are not linked.
func (g *graph) consistent() bool { return g.relax(make([]int, g.nodes), true) }

// bounds returns the readings of a linked domain of a consistent graph with their bounds.
func (g *graph) bounds(id int) []point {
	most, least := g.distances(true), g.distances(false)
	var points []point
	for _, x := range g.points[id] {
		p := g.places[clockReading{id, x}]
		when := api.Interval{Lo: p.by - least[p.node], Hi: p.by + most[p.node]}
		points = append(points, point{x, when})
	}
	return points
}

// distances returns the lengths of the shortest paths from the node 0, or to it.
func (g *graph) distances(forward bool) []int {
	distances := make([]int, g.nodes)
	for i := range distances {
		distances[i] = math.MaxInt
	}
	distances[0] = 0
	g.relax(distances, forward)
	return distances
}
