package flame

import (
	"slices"

	"tracebook/api"
)

// root stands for the parent of the nodes without a parent.
const root = -1

// branch names a node by its parent and its name.
type branch struct {
	parent int
	name   string
}

// builder builds a flame graph from nodes in any order.
type builder struct {
	found    []api.Node // in the order in which they were found, without Totals
	children map[int][]int
	places   map[branch]int
}

func newBuilder() *builder {
	return &builder{children: map[int][]int{}, places: map[branch]int{}}
}

// child returns the place of the node with a name below a place.
func (b *builder) child(parent int, name string) int {
	if place, ok := b.places[branch{parent, name}]; ok {
		return place
	}
	place := len(b.found)
	b.found = append(b.found, api.Node{Parent: parent, Name: name})
	b.places[branch{parent, name}] = place
	b.children[parent] = append(b.children[parent], place)
	return place
}

// at returns the place of a path.
func (b *builder) at(path []string) int {
	place := root
	for _, name := range path {
		place = b.child(place, name)
	}
	return place
}

// add adds a weight and a number at a place.
func (b *builder) add(place, weight, count int) {
	b.found[place].Self += weight
	b.found[place].Count += count
}

// addAll adds the nodes of a valid flame graph.
func (b *builder) addAll(l []api.Node) {
	places := make([]int, len(l))
	for i, x := range l {
		parent := root
		if x.Parent >= 0 {
			parent = places[x.Parent]
		}
		places[i] = b.child(parent, x.Name)
		b.add(places[i], x.Self, x.Count)
	}
}

// nodes returns the flame graph.
func (b *builder) nodes() []api.Node {
	return b.below(nil, root, root)
}

// below appends the nodes below a place, whose parent has an index, and sets the Totals of what it appends.
func (b *builder) below(l []api.Node, place, parent int) []api.Node {
	children := b.children[place]
	slices.SortFunc(children, func(i, j int) int { return compareNames(b.found[i], b.found[j]) })
	for _, i := range children {
		index := len(l)
		x := b.found[i]
		x.Parent, x.Total = parent, x.Self
		l = b.below(append(l, x), i, index)
		if parent >= 0 {
			l[parent].Total += l[index].Total
		}
	}
	return l
}
