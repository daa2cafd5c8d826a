package heap

import "cmp"

// What stands for a dominator where there is none.
const (
	none        = -1
	unreachable = -2
)

// forest has trees of vertices with keys; it finds the vertex with the least key on the way to a root.
type forest[K cmp.Ordered] struct {
	parents []int // none for roots
	bests   []int // of the vertices from a vertex up to its parent here, without that, one with the least key
	keys    []K
}

func newForest[K cmp.Ordered](keys []K) *forest[K] {
	f := &forest[K]{keys: keys}
	for v := range keys {
		f.parents = append(f.parents, none)
		f.bests = append(f.bests, v)
	}
	return f
}

// link makes the root v a child of a vertex.
func (f *forest[K]) link(parent, v int) { f.parents[v] = parent }

// least returns the vertex with the least key on the way from v to the root, which does not count unless it is v.
func (f *forest[K]) least(v int) int {
	var way []int
	for u := v; f.parents[u] != none && f.parents[f.parents[u]] != none; u = f.parents[u] {
		way = append(way, u)
	}
	// The ways are shortened from the root on, so that each vertex then is directly below the root.
	for i := len(way) - 1; i >= 0; i-- {
		u := way[i]
		above := f.parents[u]
		if f.keys[f.bests[above]] < f.keys[f.bests[u]] {
			f.bests[u] = f.bests[above]
		}
		f.parents[u] = f.parents[above]
	}
	return f.bests[v]
}

// flow is a graph whose vertices are numbered in the order of a search in depth from the vertex 0,
// which stands for the roots together: it refers to each of them.
type flow struct {
	objects []int   // the object of each vertex but the first one
	parents []int   // the vertex from which each vertex was found
	before  [][]int // the vertices that refer to each vertex
}

// frame is a vertex of which some references were followed.
type frame struct {
	vertex int
	rest   []int
}

// flow numbers the objects that can be reached.
func (g *graph) flow() *flow {
	f := &flow{objects: []int{none}, parents: []int{none}, before: [][]int{nil}}
	numbers := map[int]int{}
	stack := []frame{{0, g.roots}}
	for len(stack) > 0 {
		top := &stack[len(stack)-1]
		if len(top.rest) == 0 {
			stack = stack[:len(stack)-1]
			continue
		}
		from, object := top.vertex, top.rest[0]
		top.rest = top.rest[1:]
		vertex, ok := numbers[object]
		if !ok {
			vertex = len(f.objects)
			numbers[object] = vertex
			f.objects, f.parents, f.before = append(f.objects, object), append(f.parents, from), append(f.before, nil)
			stack = append(stack, frame{vertex, g.refs[object]})
		}
		f.before[vertex] = append(f.before[vertex], from)
	}
	return f
}

// dominators returns the immediate dominator of each vertex by the method of Lengauer and Tarjan.
func (f *flow) dominators() []int {
	semi := make([]int, len(f.objects)) // the number of the semidominator of each vertex
	for v := range semi {
		semi[v] = v
	}
	trees := newForest(semi)
	dominators := make([]int, len(f.objects))
	waiting := make([][]int, len(f.objects)) // the vertices with each semidominator whose dominators are not known
	for w := len(f.objects) - 1; w > 0; w-- {
		for _, v := range f.before[w] {
			semi[w] = min(semi[w], semi[trees.least(v)])
		}
		waiting[semi[w]] = append(waiting[semi[w]], w)
		parent := f.parents[w]
		trees.link(parent, w)
		for _, v := range waiting[parent] {
			u := trees.least(v)
			dominators[v] = parent
			if semi[u] < semi[v] {
				dominators[v] = u
			}
		}
		waiting[parent] = nil
	}
	for w := 1; w < len(f.objects); w++ {
		if dominators[w] != semi[w] {
			dominators[w] = dominators[dominators[w]]
		}
	}
	return dominators
}

// dominators returns the immediate dominator of each object, and the objects that can be reached, dominators first.
func (g *graph) dominators() ([]int, []int) {
	l := make([]int, len(g.refs))
	for i := range l {
		l[i] = unreachable
	}
	f := g.flow()
	for v, d := range f.dominators() {
		if v > 0 {
			l[f.objects[v]] = f.objects[d] // none for the vertex 0
		}
	}
	return l, f.objects[1:]
}
