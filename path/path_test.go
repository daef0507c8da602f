package path_test

import (
	"fmt"
	"math"
	"slices"
	"strings"
	"testing"

	"highroad/api"
	"highroad/path"
)

const maxW = uint64(api.MaxW)

// edge writes an edge in short.
func edge(from, to int, w uint64) api.Edge {
	return api.Edge{From: from, To: to, W: w}
}

// of writes a graph in short.
func of(n int, l ...api.Edge) api.Graph {
	return api.Graph{N: n, E: l}
}

// route writes a route in short.
func route(w uint64, l ...int) api.Route {
	return api.Route{Edges: l, W: w}
}

// repeated is a graph with n times the same edge.
func repeated(nodes, n int, e api.Edge) api.Graph {
	return api.Graph{N: nodes, E: slices.Repeat([]api.Edge{e}, n)}
}

// ring is a graph whose edges lead from each node to the next one, round and round, with weights that differ.
func ring(nodes, edges int) api.Graph {
	g := api.Graph{N: nodes}
	for i := range edges {
		g.E = append(g.E, edge(i%nodes, (i+1)%nodes, uint64(i+1)))
	}
	return g
}

// example is the graph of the chapter.
func example() api.Graph {
	return of(3, edge(0, 1, 5), edge(1, 2, 2), edge(1, 0, 1))
}

// smallGraphs are valid graphs of a few nodes and edges: without edges, with edges that are there twice, with ways back, and with nodes that have none.
func smallGraphs() []api.Graph {
	return []api.Graph{
		of(1),
		{N: 1, E: []api.Edge{}},
		of(2),
		of(2, edge(0, 1, maxW)),
		of(2, edge(0, 1, 7), edge(0, 1, 7)),
		of(2, edge(1, 0, 1), edge(0, 1, 2), edge(1, 0, 3)),
		of(3, edge(0, 1, 4), edge(1, 2, 5), edge(2, 0, 1), edge(0, 1, maxW)),
		of(3, edge(2, 1, 1), edge(1, 0, 1)),
		of(4, edge(0, 1, 1), edge(1, 2, 2), edge(2, 3, 4)),
		of(4, edge(3, 1, 9), edge(1, 3, 8), edge(1, 2, 7), edge(2, 3, 6)),
		ring(4, 4),
		example(),
	}
}

// wrongGraphs are graphs that are not valid, each for one reason; without it, the edge 0 would lead from 0 to 1 in most of them.
func wrongGraphs() []api.Graph {
	return []api.Graph{
		{},
		{N: 0, E: []api.Edge{}},
		of(-1),
		of(math.MinInt),
		of(math.MaxInt),
		of(api.MaxNodes + 1),
		of(0, edge(0, 1, 5)),
		of(-2, edge(0, 1, 5)),
		of(api.MaxNodes+1, edge(0, 1, 5)),
		repeated(2, api.MaxEdges+1, edge(0, 1, 5)),
		ring(api.MaxNodes, api.MaxEdges+1),
		of(2, edge(0, 1, 5), edge(0, 2, 5)),
		of(2, edge(0, 1, 5), edge(2, 0, 5)),
		of(2, edge(0, 1, 5), edge(-1, 0, 5)),
		of(2, edge(0, 1, 5), edge(0, -1, 5)),
		of(2, edge(0, 1, 5), edge(0, math.MaxInt, 5)),
		of(2, edge(0, 1, 5), edge(math.MinInt, 1, 5)),
		of(2, edge(0, 2, 5)),
		of(1, edge(0, 1, 5)),
		of(1, edge(0, 0, 5)),
		of(2, edge(0, 1, 5), edge(1, 1, 5)),
		of(2, edge(0, 1, 0)),
		of(2, edge(0, 1, maxW+1)),
		of(2, edge(0, 1, 5), edge(1, 0, 0)),
		of(2, edge(0, 1, 5), edge(1, 0, math.MaxUint64)),
	}
}

// outside are numbers that none of n things has.
func outside(n int) []int {
	return []int{-1, -2, -n - 1, math.MinInt, math.MinInt + 1, n, n + 1, 2*n + 1, n + 1<<32, math.MaxInt - 1, math.MaxInt}
}

// counted are the numbers of n things, from the first one on.
func counted(first, n int) []int {
	l := make([]int, n)
	for i := range l {
		l[i] = first + i
	}
	return l
}

// lists are all lists of numbers from least to greatest, up to a length.
func lists(least, greatest, longest int) [][]int {
	all := [][]int{nil}
	last := all
	for range longest {
		var longer [][]int
		for _, l := range last {
			for i := least; i <= greatest; i++ {
				longer = append(longer, append(slices.Clone(l), i))
			}
		}
		all, last = append(all, longer...), longer
	}
	return all
}

// head is the beginning of a list, for messages.
func head[T any](l []T) []T {
	return l[:min(len(l), 8)]
}

// guard is an argument with spare capacity, and what all of its memory has to be.
type guard[T comparable] struct{ list, was []T }

// guarded copies a list to memory with spare capacity, full of what is to stay.
func guarded[T comparable](l []T, filling T) guard[T] {
	whole := append(slices.Clone(l), filling, filling, filling)
	return guard[T]{whole[:len(l)], slices.Clone(whole)}
}

func (g guard[T]) check(t *testing.T, what string) {
	t.Helper()
	if whole := g.list[:len(g.was)]; !slices.Equal(whole, g.was) {
		t.Errorf("%s: an argument became %v, from %v", what, head(whole), head(g.was))
	}
}

// spoil overwrites all memory of a list, and its spare capacity as well, into which an append would write.
func spoil[T any](l []T, with T) {
	l = l[:cap(l)]
	for i := range l {
		l[i] = with
	}
}

// guardedGraph is a graph whose edges are guarded; those behind them would make any number of an edge pass.
func guardedGraph(g api.Graph) (api.Graph, guard[api.Edge]) {
	edges := guarded(g.E, edge(0, 1, 77))
	return api.Graph{N: g.N, E: edges.list}, edges
}

// guardedList is a list of edges, guarded; those behind them are edges of most graphs.
func guardedList(l []int) guard[int] {
	return guarded(l, 0)
}

func checkIs(t *testing.T, g api.Graph, from, to int, l []int, want bool) {
	t.Helper()
	h, edges := guardedGraph(g)
	list := guardedList(l)
	if got := path.Is(h, from, to, list.list); got != want {
		t.Errorf("Is(%v, %d, %d, %v): %t", head(g.E), from, to, head(l), got)
	}
	edges.check(t, "Is")
	list.check(t, "Is")
}

func checkSimple(t *testing.T, g api.Graph, from int, l []int, want bool) {
	t.Helper()
	h, edges := guardedGraph(g)
	list := guardedList(l)
	if got := path.Simple(h, from, list.list); got != want {
		t.Errorf("Simple(%v, %d, %v): %t", head(g.E), from, head(l), got)
	}
	edges.check(t, "Simple")
	list.check(t, "Simple")
}

func checkNodes(t *testing.T, g api.Graph, from int, l, want []int, wantOK bool) {
	t.Helper()
	h, edges := guardedGraph(g)
	list := guardedList(l)
	got, ok := path.Nodes(h, from, list.list)
	if !slices.Equal(got, want) || ok != wantOK {
		t.Errorf("Nodes(%v, %d, %v): %v and %t, not %v and %t", head(g.E), from, head(l), head(got), ok, head(want), wantOK)
	}
	spoil(got, -7)
	edges.check(t, "Nodes")
	list.check(t, "Nodes")
}

func checkWeight(t *testing.T, g api.Graph, l []int, want uint64, wantOK bool) {
	t.Helper()
	h, edges := guardedGraph(g)
	list := guardedList(l)
	if got, ok := path.Weight(h, list.list); got != want || ok != wantOK {
		t.Errorf("Weight(%v, %v): %d and %t, not %d and %t", head(g.E), head(l), got, ok, want, wantOK)
	}
	edges.check(t, "Weight")
	list.check(t, "Weight")
}

func checkOffsets(t *testing.T, g api.Graph, l []int, want []uint64) {
	t.Helper()
	h, edges := guardedGraph(g)
	list := guardedList(l)
	got := path.Offsets(h, list.list)
	if !slices.Equal(got, want) {
		t.Errorf("Offsets(%v, %v): %v, not %v", head(g.E), head(l), head(got), head(want))
	}
	spoil(got, 77)
	edges.check(t, "Offsets")
	list.check(t, "Offsets")
}

// checkShared holds it for the two lists in both orders.
func checkShared(t *testing.T, g api.Graph, a, b []int, want uint64) {
	t.Helper()
	h, edges := guardedGraph(g)
	one, other := guardedList(a), guardedList(b)
	if got := path.Shared(h, one.list, other.list); got != want {
		t.Errorf("Shared(%v, %v, %v): %d, not %d", head(g.E), head(a), head(b), got, want)
	}
	if got := path.Shared(h, other.list, one.list); got != want {
		t.Errorf("Shared(%v, %v, %v): %d, not %d", head(g.E), head(b), head(a), got, want)
	}
	edges.check(t, "Shared")
	one.check(t, "Shared")
	other.check(t, "Shared")
}

// checkNothing is for lists that have an element that is not an edge, and for graphs that are not valid.
func checkNothing(t *testing.T, g api.Graph, l []int) {
	t.Helper()
	for from := -1; from <= 3; from++ {
		checkNodes(t, g, from, l, nil, false)
		checkSimple(t, g, from, l, false)
		for to := -1; to <= 3; to++ {
			checkIs(t, g, from, to, l, false)
		}
	}
	checkWeight(t, g, l, 0, false)
	checkOffsets(t, g, l, nil)
	for _, other := range [][]int{nil, {0}, {1, 0}, l} {
		checkShared(t, g, l, other, 0)
	}
}

// has reports whether n things have the number.
func has(n, i int) bool {
	return 0 <= i && i < n
}

// leads is what Is has to be of a valid graph: the definition of a path, edge by edge from its end.
func leads(g api.Graph, from, to int, l []int) bool {
	if !has(g.N, from) || !has(g.N, to) {
		return false
	}
	if len(l) == 0 {
		return from == to
	}
	last := l[len(l)-1]
	return has(len(g.E), last) && g.E[last].To == to && leads(g, from, g.E[last].From, l[:len(l)-1])
}

// visits is what Nodes has to be of a valid graph.
func visits(g api.Graph, from int, l []int) ([]int, bool) {
	for to := range g.N {
		if leads(g, from, to, l) {
			nodes := []int{from}
			for _, e := range l {
				nodes = append(nodes, g.E[e].To)
			}
			return nodes, true
		}
	}
	return nil, false
}

// different reports whether no two numbers are equal.
func different(l []int) bool {
	for i, v := range l {
		if slices.Contains(l[:i], v) {
			return false
		}
	}
	return true
}

// weighs is what Weight has to be of a valid graph.
func weighs(g api.Graph, l []int) (uint64, bool) {
	all := 0
	sum := uint64(0)
	for i, e := range g.E {
		for _, k := range l {
			if k == i {
				sum += e.W
				all++
			}
		}
	}
	if all < len(l) {
		return 0, false
	}
	return sum, true
}

// P801 (Is): the chapter's graph, and every way in which a list is a path or none.
func TestIs(t *testing.T) {
	g := example()
	cases := []struct {
		from, to int
		l        []int
		want     bool
	}{
		{0, 2, []int{0, 1}, true},
		{0, 1, []int{0}, true},
		{0, 0, nil, true},
		{2, 2, nil, true},
		{0, 1, nil, false},
		{2, 0, nil, false},
		{0, 2, []int{1}, false},          // leaves 1
		{1, 2, []int{0, 1}, false},       // leaves 0
		{1, 1, []int{0}, false},          // enters 1, leaves 0
		{0, 0, []int{0}, false},          // enters 1
		{0, 1, []int{0, 1}, false},       // enters 2
		{0, 2, []int{1, 0}, false},       // the other way round
		{0, 2, []int{0, 0, 1}, false},    // the same edge, which does not meet itself
		{0, 0, []int{0, 1, 2}, false},    // does not meet behind 2
		{0, 2, []int{0, 2, 1}, false},    // does not meet behind 0
		{0, 0, []int{0, 2}, true},        // comes back to s at its last edge
		{1, 1, []int{2, 0}, true},        // the same, from 1
		{0, 2, []int{0, 2, 0, 1}, true},  // comes back to s, and to 1, with an edge twice
		{0, 1, []int{0, 2, 0}, true},     // comes back to t at its last edge
		{1, 0, []int{2, 0, 2}, true},     // the same, from 1
		{0, 0, []int{0, 2, 0, 2}, true},  // comes back twice
		{0, 1, []int{0, 2, 0, 2}, false}, // ends at 0
	}
	for _, c := range cases {
		checkIs(t, g, c.from, c.to, c.l, c.want)
	}

	two := of(3, edge(0, 1, 7), edge(0, 1, 7), edge(1, 2, 1), edge(1, 2, 1))
	for _, l := range [][]int{{0, 2}, {0, 3}, {1, 2}, {1, 3}} {
		checkIs(t, two, 0, 2, l, true)
		checkIs(t, two, 0, 1, l[:1], true)
		checkIs(t, two, 1, 2, l[1:], true)
		checkIs(t, two, 0, 0, l, false)
	}
	checkIs(t, two, 0, 1, []int{0, 1}, false)
	checkIs(t, two, 0, 1, []int{0, 0}, false)
	checkIs(t, of(1), 0, 0, nil, true)
	checkIs(t, of(1), 0, 0, []int{0}, false)
}

// P801 (Simple): the chapter's example, and paths that come back to each of their nodes.
func TestSimple(t *testing.T) {
	g := of(5, edge(0, 1, 1), edge(1, 2, 1), edge(2, 3, 1), edge(3, 4, 1), edge(4, 0, 1), edge(4, 2, 1), edge(3, 1, 1), edge(2, 1, 1), edge(0, 1, 1))
	cases := []struct {
		from int
		l    []int
		want bool
	}{
		{0, nil, true},
		{4, nil, true},
		{0, []int{0}, true},
		{0, []int{0, 1, 2}, true},
		{0, []int{8, 1, 2}, true},
		{0, []int{0, 1, 2, 3}, true},            // all nodes
		{2, []int{2, 3, 4, 0}, true},            // all nodes, from 2
		{0, []int{0, 1, 2, 3, 4}, false},        // comes back to s at its last edge
		{0, []int{0, 1, 2, 3, 4, 8}, false},     // comes back to s, then to 1
		{0, []int{0, 1, 2, 3, 5}, false},        // comes back to 2 at its last edge
		{0, []int{0, 1, 7}, false},              // comes back to 1, which is t as well
		{0, []int{0, 1, 2, 6}, false},           // the same, a round of three
		{0, []int{0, 1, 7, 1}, false},           // comes back to 1 and to 2, with an edge twice
		{0, []int{0, 1, 2, 6, 1, 2, 3}, false},  // comes back in its midst, then goes on to a new node
		{1, []int{1, 7}, false},                 // there and back
		{4, []int{4, 0, 1, 2}, true},            // from 4 to 3
		{4, []int{4, 0, 1, 2, 3}, false},        // from 4 to 4
		{0, []int{1}, false},                    // leaves 1
		{1, []int{0, 1}, false},                 // leaves 0
		{0, []int{0, 2}, false},                 // does not meet
		{0, []int{0, 0}, false},                 // does not meet itself
		{0, []int{0, 8}, false},                 // the same edge, there twice
		{3, []int{3, 5, 2, 6, 1, 2, 3}, false},  // round and round
		{3, []int{3, 4, 8, 1}, true},            // from 3 to 2
		{3, []int{3, 4, 8, 1, 9}, false},        // an element that is not an edge
		{3, []int{3, 4, 8, 1, 2, -1}, false},    // the same
		{-1, []int{0}, false},                   // not a node
		{5, nil, false},                         // not a node
		{2, []int{7, 1, 7, 1, 7, 1, 2}, false},  // there and back, again and again
		{2, []int{2, 6, 1, 2, 3, 4, 0}, false},  // a round, then all others
		{4, []int{5, 2, 3}, false},              // from 4 to 4, past 0 and 1
		{0, []int{8, 1, 2, 3}, true},            // all nodes, by the other edge
		{0, []int{8, 1, 2, 3, 4, 0, 1}, false},  // all nodes, then on
		{math.MinInt, []int{0, 1}, false},       // not a node
		{math.MaxInt, []int{0, 1, 2, 3}, false}, // not a node
	}
	for _, c := range cases {
		checkSimple(t, g, c.from, c.l, c.want)
	}
	checkSimple(t, example(), 0, []int{0, 2}, false)
	checkSimple(t, example(), 0, []int{0, 1}, true)
	checkSimple(t, of(1), 0, nil, true)
	checkSimple(t, of(1), 0, []int{0}, false)
}

// P801 (Nodes): the chapter's example, paths that come back, and lists that are no path.
func TestNodes(t *testing.T) {
	g := example()
	cases := []struct {
		from int
		l    []int
		want []int // none for lists that are no path
	}{
		{0, []int{0, 1}, []int{0, 1, 2}},
		{0, nil, []int{0}},
		{1, nil, []int{1}},
		{2, nil, []int{2}},
		{0, []int{0}, []int{0, 1}},
		{1, []int{1}, []int{1, 2}},
		{1, []int{2}, []int{1, 0}},
		{0, []int{0, 2}, []int{0, 1, 0}},
		{1, []int{2, 0, 1}, []int{1, 0, 1, 2}},
		{0, []int{0, 2, 0, 2, 0, 1}, []int{0, 1, 0, 1, 0, 1, 2}},
		{1, []int{0, 1}, nil},
		{2, []int{0, 1}, nil},
		{0, []int{1}, nil},
		{0, []int{0, 0}, nil},
		{0, []int{1, 0}, nil},
		{0, []int{0, 1, 2}, nil},
		{0, []int{0, 2, 1}, nil},
		{3, nil, nil},
		{-1, nil, nil},
	}
	for _, c := range cases {
		checkNodes(t, g, c.from, c.l, c.want, c.want != nil)
	}
	checkNodes(t, of(1), 0, nil, []int{0}, true)
	checkNodes(t, of(2, edge(0, 1, 7), edge(0, 1, 7)), 0, []int{1}, []int{0, 1}, true)
	checkNodes(t, of(2, edge(0, 1, 7), edge(0, 1, 7)), 0, []int{0, 1}, nil, false)
}

// checkPaths holds Is, Simple and Nodes against what they are defined by, for all ends.
func checkPaths(t *testing.T, g api.Graph, l []int) {
	t.Helper()
	for from := -1; from <= g.N; from++ {
		nodes, ok := visits(g, from, l)
		checkNodes(t, g, from, l, nodes, ok)
		checkSimple(t, g, from, l, ok && different(nodes))
		for to := -1; to <= g.N; to++ {
			checkIs(t, g, from, to, l, leads(g, from, to, l))
		}
	}
}

// P801: all short lists of numbers, around those of the edges, in small graphs.
func TestPathsOfAllLists(t *testing.T) {
	for _, g := range smallGraphs() {
		for _, l := range lists(-1, len(g.E), 4) {
			checkPaths(t, g, l)
		}
		for _, l := range lists(0, len(g.E)-1, 6) {
			if _, ok := visits(g, 0, l); ok {
				checkPaths(t, g, l)
			}
		}
	}
}

// P801: paths through all nodes, round and round, and lists that are longer than the graph has edges.
func TestLongPaths(t *testing.T) {
	for _, n := range []int{2, 3, 10, api.MaxNodes - 1, api.MaxNodes} {
		g := ring(n, n)
		l := counted(0, n)
		checkIs(t, g, 0, n-1, l[:n-1], true)
		checkSimple(t, g, 0, l[:n-1], true)
		checkNodes(t, g, 0, l[:n-1], l, true)
		checkIs(t, g, 1, 0, l[1:], true)
		checkSimple(t, g, 1, l[1:], true)
		checkNodes(t, g, 1, l[1:], append(slices.Clone(l[1:]), 0), true)

		// Once round, which ends where it began.
		checkIs(t, g, 0, 0, l, true)
		checkIs(t, g, 0, n-1, l, false)
		checkSimple(t, g, 0, l, false)
		checkNodes(t, g, 0, l, append(slices.Clone(l), 0), true)

		// Round and round, and what does not meet at the last edge.
		most := slices.Repeat(l, 5)
		checkIs(t, g, 0, 0, most, true)
		checkSimple(t, g, 0, most, false)
		checkNodes(t, g, 0, most, append(slices.Clone(most), 0), true)
		most[len(most)-1] = 0
		checkIs(t, g, 0, 0, most, false)
		checkIs(t, g, 0, 1, most, false)
		checkSimple(t, g, 0, most, false)
		checkNodes(t, g, 0, most, nil, false)
	}

	// All edges that may be, four to each next node.
	g := ring(api.MaxNodes, api.MaxEdges)
	all := counted(0, api.MaxEdges)
	checkIs(t, g, 0, 0, all, true)
	checkSimple(t, g, 0, all, false)
	last := all[api.MaxEdges-api.MaxNodes:]
	checkSimple(t, g, 0, last, false)
	checkSimple(t, g, 0, last[:api.MaxNodes-1], true)
	checkSimple(t, g, 1, last[1:], true)
	checkIs(t, g, 1, 0, last[1:], true)
}

// P801: the first node, and the last one, just outside of the nodes and far from them.
func TestWrongEnds(t *testing.T) {
	for _, g := range append(smallGraphs(), ring(api.MaxNodes, api.MaxEdges)) {
		l := [][]int{nil, {}}
		if len(g.E) > 0 {
			l = append(l, []int{0}, []int{len(g.E) - 1})
		}
		for _, wrong := range outside(g.N) {
			for _, edges := range l {
				checkNodes(t, g, wrong, edges, nil, false)
				checkSimple(t, g, wrong, edges, false)
				checkIs(t, g, wrong, wrong, edges, false)
				for _, v := range []int{0, g.N - 1} {
					checkIs(t, g, v, wrong, edges, false)
					checkIs(t, g, wrong, v, edges, false)
				}
			}
		}
	}
}

// P801, P803: a graph that is not valid, of each kind.
func TestWrongGraphs(t *testing.T) {
	for _, g := range wrongGraphs() {
		for _, l := range [][]int{nil, {}, {0}, {0, 0}, {1}, {0, 1}, {-1}, {len(g.E)}} {
			checkNothing(t, g, l)
		}
		for _, n := range []int{g.N - 1, g.N, len(g.E)} {
			checkNodes(t, g, n, nil, nil, false)
			checkSimple(t, g, n, nil, false)
			checkIs(t, g, n, n, nil, false)
		}
	}
}

// P801, P803: an element that is not an edge, first, in the midst and last, put in and in place of another one.
func TestWrongElements(t *testing.T) {
	for _, g := range []api.Graph{example(), of(2, edge(0, 1, 7), edge(1, 0, 7)), ring(3, 40), of(1)} {
		for _, wrong := range outside(len(g.E)) {
			checkWrongElement(t, g, counted(0, min(len(g.E), 4)), wrong)
		}
	}
	for _, wrong := range []int{-1, api.MaxEdges, math.MaxInt} {
		checkWrongElement(t, ring(3, api.MaxEdges), []int{0}, wrong)
	}
}

func checkWrongElement(t *testing.T, g api.Graph, l []int, wrong int) {
	t.Helper()
	for i := range len(l) + 1 {
		checkNothing(t, g, slices.Insert(slices.Clone(l), i, wrong))
	}
	for i := range l {
		other := slices.Clone(l)
		other[i] = wrong
		checkNothing(t, g, other)
	}
	checkNothing(t, g, []int{wrong, wrong})
}

// P801 (Weight): the chapter's example, lists that are no path, and the same edge several times.
func TestWeight(t *testing.T) {
	cases := []struct {
		g    api.Graph
		l    []int
		want uint64
	}{
		{example(), []int{0, 1}, 7},
		{example(), nil, 0},
		{example(), []int{}, 0},
		{example(), []int{0}, 5},
		{example(), []int{1}, 2},
		{example(), []int{2}, 1},
		{example(), []int{1, 0}, 7}, // no path
		{example(), []int{0, 0}, 10},
		{example(), []int{2, 1, 0}, 8},
		{example(), []int{1, 1, 1, 2, 1}, 9},
		{example(), slices.Repeat([]int{0, 1, 2}, 1000), 8000}, // longer than the graph has edges
		{of(1), nil, 0},
		{of(2, edge(0, 1, 7), edge(0, 1, 7)), []int{0, 1}, 14},
		{of(2, edge(0, 1, maxW)), []int{0}, maxW},
		{of(2, edge(0, 1, maxW), edge(1, 0, 1)), []int{0, 1}, maxW + 1},
		{of(2, edge(0, 1, maxW), edge(1, 0, maxW)), []int{0, 1, 0, 1}, 4 * maxW},
		{of(2, edge(0, 1, maxW)), make([]int, 1<<20), 1 << 52},
		{repeated(2, api.MaxEdges, edge(0, 1, maxW)), counted(0, api.MaxEdges), api.MaxEdges * maxW},
		{repeated(2, api.MaxEdges, edge(0, 1, maxW)), []int{api.MaxEdges - 1}, maxW},
		{ring(api.MaxNodes, api.MaxEdges), counted(0, api.MaxEdges), api.MaxEdges * (api.MaxEdges + 1) / 2},
	}
	for _, c := range cases {
		checkWeight(t, c.g, c.l, c.want, true)
	}
}

// P803 (Offsets): the chapter's example, lists that are no path, and the same edge several times.
func TestOffsets(t *testing.T) {
	cases := []struct {
		g    api.Graph
		l    []int
		want []uint64
	}{
		{example(), []int{0, 1}, []uint64{0, 5, 7}},
		{example(), nil, []uint64{0}},
		{example(), []int{}, []uint64{0}},
		{example(), []int{2}, []uint64{0, 1}},
		{example(), []int{1, 0}, []uint64{0, 2, 7}}, // no path
		{example(), []int{0, 0, 0}, []uint64{0, 5, 10, 15}},
		{example(), []int{2, 2, 0, 1, 0, 2}, []uint64{0, 1, 2, 7, 9, 14, 15}}, // longer than the graph has edges
		{of(1), nil, []uint64{0}},
		{of(2, edge(0, 1, 7), edge(0, 1, 7)), []int{1, 0}, []uint64{0, 7, 14}},
		{of(2, edge(0, 1, maxW), edge(1, 0, 1)), []int{0, 1, 0}, []uint64{0, maxW, maxW + 1, 2*maxW + 1}},
	}
	for _, c := range cases {
		checkOffsets(t, c.g, c.l, c.want)
	}

	want := make([]uint64, api.MaxEdges+1)
	for i := range want {
		want[i] = uint64(i) * maxW
	}
	checkOffsets(t, repeated(2, api.MaxEdges, edge(0, 1, maxW)), counted(0, api.MaxEdges), want)
	checkOffsets(t, repeated(2, api.MaxEdges, edge(0, 1, maxW)), make([]int, api.MaxEdges), want)
}

// P803 (Shared): the chapter's example, each edge counted once however often it is there, and lists that are no path.
func TestShared(t *testing.T) {
	g := of(4, edge(0, 1, 1), edge(1, 2, 10), edge(2, 3, 100), edge(3, 0, 1000), edge(0, 1, 10000))
	cases := []struct {
		a, b []int
		want uint64
	}{
		{nil, nil, 0},
		{nil, []int{0, 1}, 0},
		{[]int{}, []int{3}, 0},
		{[]int{0}, []int{0}, 1},
		{[]int{0}, []int{1}, 0},
		{[]int{0}, []int{4}, 0}, // other edges, from the same node to the same
		{[]int{0, 1, 2}, []int{0, 1, 2}, 111},
		{[]int{0, 1, 2}, []int{2, 1, 0}, 111},
		{[]int{0, 1, 2, 3}, []int{4, 1, 2, 3}, 1110},
		{[]int{0, 2, 4}, []int{1, 3}, 0},
		{[]int{0, 2, 4}, []int{1, 2, 3}, 100},
		{[]int{1, 1, 1}, []int{1}, 10},
		{[]int{1, 1, 1}, []int{1, 1}, 10},
		{[]int{1, 2, 1, 0, 1}, []int{0, 1, 0, 0, 1, 3}, 11},
		{[]int{4, 3, 2, 1, 0}, []int{0, 1, 2, 3, 4}, 11111},
		{slices.Repeat([]int{3, 1}, 50), slices.Repeat([]int{1, 2, 3, 3}, 50), 1010}, // longer than the graph has edges
	}
	for _, c := range cases {
		checkShared(t, g, c.a, c.b, c.want)
	}
	checkShared(t, example(), []int{0, 1}, []int{1, 1}, 2)
	checkShared(t, of(1), nil, nil, 0)
	checkShared(t, of(2, edge(0, 1, maxW)), []int{0}, []int{0, 0}, maxW)

	great := repeated(2, api.MaxEdges, edge(0, 1, maxW))
	all := counted(0, api.MaxEdges)
	checkShared(t, great, all, all, api.MaxEdges*maxW)
	checkShared(t, great, slices.Repeat(all, 3), all, api.MaxEdges*maxW)
	checkShared(t, great, all[:9000], all[8000:], 1000*maxW)
	checkShared(t, great, all[:9000], all[9000:], 0)

	// The same memory twice.
	list := guardedList([]int{2, 0, 2})
	if got := path.Shared(g, list.list, list.list); got != 101 {
		t.Errorf("Shared of a list with itself: %d", got)
	}
	list.check(t, "Shared")
}

// P801 (Weight), P803: all pairs of short lists, against what they are defined by, edge by edge of the graph.
func TestWeightsOfAllLists(t *testing.T) {
	for _, g := range smallGraphs() {
		all := lists(-1, len(g.E), 3)
		for _, a := range all {
			sum, ok := weighs(g, a)
			checkWeight(t, g, a, sum, ok)
			var offsets []uint64
			for i := range len(a) + 1 {
				part, _ := weighs(g, a[:i])
				offsets = append(offsets, part)
			}
			if !ok {
				offsets = nil
			}
			checkOffsets(t, g, a, offsets)
		}
	}
	g := of(3, edge(0, 1, 1), edge(1, 2, 10), edge(1, 0, 100))
	all := lists(-1, 3, 3)
	for _, a := range all {
		for _, b := range all {
			_, oneOK := weighs(g, a)
			_, otherOK := weighs(g, b)
			want := uint64(0)
			for i, e := range g.E {
				if oneOK && otherOK && slices.Contains(a, i) && slices.Contains(b, i) {
					want += e.W
				}
			}
			if got := path.Shared(g, a, b); got != want {
				t.Errorf("Shared(%v, %v): %d, not %d", a, b, got, want)
			}
		}
	}
}

// P801, P803: an empty list may be nil or not.
func TestNoEdges(t *testing.T) {
	for _, g := range smallGraphs() {
		for _, l := range [][]int{nil, {}, make([]int, 0, 9)} {
			for v := range g.N {
				if nodes, ok := path.Nodes(g, v, l); !ok || !slices.Equal(nodes, []int{v}) {
					t.Errorf("Nodes of an empty list from %d: %v and %t", v, nodes, ok)
				}
				if !path.Is(g, v, v, l) || !path.Simple(g, v, l) {
					t.Errorf("an empty list from %d: not a path, or not a simple one", v)
				}
			}
			if w, ok := path.Weight(g, l); w != 0 || !ok {
				t.Errorf("Weight of an empty list: %d and %t", w, ok)
			}
			if offsets := path.Offsets(g, l); !slices.Equal(offsets, []uint64{0}) {
				t.Errorf("Offsets of an empty list: %v", offsets)
			}
			if w := path.Shared(g, l, nil); w != 0 {
				t.Errorf("Shared of empty lists: %d", w)
			}
		}
	}
}

func checkLess(t *testing.T, a, b []int, want int) {
	t.Helper()
	one, other := guardedList(a), guardedList(b)
	if got := path.Less(one.list, other.list); got != want {
		t.Errorf("Less(%v, %v): %d, not %d", head(a), head(b), got, want)
	}
	if got := path.Less(other.list, one.list); got != -want {
		t.Errorf("Less(%v, %v): %d, not %d", head(b), head(a), got, -want)
	}
	one.check(t, "Less")
	other.check(t, "Less")
	// Here nil is what came in, rather than an empty list with spare capacity.
	if got := path.Less(a, b); got != want {
		t.Errorf("Less(%v, %v) without spare capacity: %d, not %d", head(a), head(b), got, want)
	}
}

// P802 (Less): the chapter's examples, beginnings of other lists, and numbers of all kinds.
func TestLess(t *testing.T) {
	cases := []struct {
		a, b []int
		want int
	}{
		{[]int{0}, []int{0, 1}, -1},
		{[]int{2}, []int{0, 1}, 1},
		{nil, nil, 0},
		{nil, []int{}, 0},
		{[]int{}, []int{}, 0},
		{nil, []int{0}, -1},
		{[]int{}, []int{math.MinInt}, -1},
		{[]int{5}, []int{5}, 0},
		{[]int{1, 2, 3}, []int{1, 2, 3}, 0},
		{[]int{1, 2, 3}, []int{1, 2, 3, 0}, -1},
		{[]int{1, 2, 3}, []int{1, 2, 3, -9}, -1},
		{[]int{1, 2, 3}, []int{1, 2, 4}, -1},
		{[]int{1, 2, 3}, []int{1, 3}, -1},
		{[]int{1, 2, 3}, []int{0, 9, 9, 9, 9}, 1},
		{[]int{1, 9}, []int{2, 0}, -1}, // the first index decides, not the last one
		{[]int{9}, []int{10}, -1},      // by the number, not by its digits
		{[]int{10}, []int{9, 9}, 1},
		{[]int{-1}, []int{0}, -1},
		{[]int{-2}, []int{-1}, -1},
		{[]int{0, -5, 3}, []int{0, -4}, -1},
		{[]int{math.MinInt}, []int{math.MaxInt}, -1},
		{[]int{math.MinInt}, []int{-1}, -1},
		{[]int{math.MinInt}, []int{1}, -1},
		{[]int{math.MaxInt}, []int{-2}, 1},
		{[]int{math.MaxInt}, []int{math.MaxInt - 1, math.MaxInt}, 1},
		{[]int{7, math.MinInt}, []int{7, math.MinInt, math.MinInt}, -1},
		{make([]int, 100000), make([]int, 99999), 1},
		{append(make([]int, 99999), 1), make([]int, 99999), 1},
		{append(make([]int, 99999), -1), append(make([]int, 99999), 1), -1},
		{append(make([]int, 99999), -1), make([]int, 100000), -1},
	}
	for _, c := range cases {
		checkLess(t, c.a, c.b, c.want)
	}
}

// P802 (Less): all pairs of short lists, against strings of the same order.
func TestLessOfAllLists(t *testing.T) {
	text := func(l []int) string {
		var s strings.Builder
		for _, i := range l {
			s.WriteByte(byte('c' + i))
		}
		return s.String()
	}
	all := lists(-2, 1, 4)
	for _, a := range all {
		for _, b := range all {
			if got := path.Less(a, b); got != strings.Compare(text(a), text(b)) {
				t.Errorf("Less(%v, %v): %d", a, b, got)
			}
		}
	}
}

func checkCmp(t *testing.T, a, b api.Route, want int) {
	t.Helper()
	one, other := guardedList(a.Edges), guardedList(b.Edges)
	x, y := route(a.W, one.list...), route(b.W, other.list...)
	if got := path.Cmp(x, y); got != want {
		t.Errorf("Cmp(%v, %v): %d, not %d", a, b, got, want)
	}
	if got := path.Cmp(y, x); got != -want {
		t.Errorf("Cmp(%v, %v): %d, not %d", b, a, got, -want)
	}
	if path.Same(x, y) != (want == 0) || path.Same(y, x) != (want == 0) {
		t.Errorf("Same(%v, %v): %t and %t", a, b, path.Same(x, y), path.Same(y, x))
	}
	one.check(t, "Cmp and Same")
	other.check(t, "Cmp and Same")
	if got := path.Cmp(a, b); got != want || path.Same(a, b) != (want == 0) {
		t.Errorf("Cmp(%v, %v) without spare capacity: %d, not %d, and Same %t", a, b, got, want, path.Same(a, b))
	}
}

// P802 (Cmp, Same): routes that differ in W alone, in the edges alone, and in both, contrary to one another.
func TestCmp(t *testing.T) {
	const most = uint64(math.MaxUint64)
	cases := []struct {
		a, b api.Route
		want int
	}{
		{api.Route{}, api.Route{}, 0},
		{route(0), api.Route{Edges: []int{}}, 0},
		{route(5, 1, 2), route(5, 1, 2), 0},
		{route(most, -1), route(most, -1), 0},
		{route(4, 1, 2), route(5, 1, 2), -1},
		{route(0), route(1), -1},
		{route(0), route(most), -1},
		{route(1), route(most), -1},
		{route(0), route(1 << 63), -1},
		{route(1<<63 - 1), route(1 << 63), -1},
		{route(most - 1), route(most), -1},
		{route(1 << 32), route(1), 1},
		{route(5, 1), route(5, 1, 2), -1},
		{route(5), route(5, 0), -1},
		{route(5, 2), route(5, 1, 9), 1},
		{route(5, 2, 3), route(5, 2, 4), -1},
		{route(0, math.MinInt), route(0, math.MaxInt), -1},
		{route(4, 9, 9), route(5, 1), -1},
		{route(4, 1, 2), route(5, 1), -1},
		{route(4, 1), route(5), -1},
		{route(most, 0), route(0, 1), 1},
		{route(1<<63, 0), route(1, 1), 1},
	}
	for _, c := range cases {
		checkCmp(t, c.a, c.b, c.want)
	}
}

// manyRoutes are routes of few weights and edges, in no order.
func manyRoutes() []api.Route {
	var l []api.Route
	for _, w := range []uint64{1, math.MaxUint64, 0, 1 << 63} {
		for _, edges := range [][]int{{0, 1}, nil, {-1}, {0}, {math.MaxInt}, {0, -1, 7}, {math.MinInt}, {0, 1, math.MinInt}, {}, {1}, {0, 0}} {
			l = append(l, api.Route{Edges: edges, W: w})
		}
	}
	return l
}

// P802: the order of any two is contrary when they are turned round, and the one of three follows from that of two.
func TestCmpIsAnOrder(t *testing.T) {
	all := manyRoutes()
	for _, a := range all {
		for _, b := range all {
			one := path.Cmp(a, b)
			if one < -1 || one > 1 || path.Cmp(b, a) != -one {
				t.Errorf("Cmp(%v, %v): %d, and %d turned round", a, b, one, path.Cmp(b, a))
			}
			if less := path.Less(a.Edges, b.Edges); less < -1 || less > 1 || path.Less(b.Edges, a.Edges) != -less {
				t.Errorf("Less(%v, %v): %d, and %d turned round", a.Edges, b.Edges, less, path.Less(b.Edges, a.Edges))
			}
			same := a.W == b.W && slices.Equal(a.Edges, b.Edges)
			if (one == 0) != same || path.Same(a, b) != same {
				t.Errorf("Cmp(%v, %v): %d, and Same %t", a, b, one, path.Same(a, b))
			}
			for _, c := range all {
				checkThree(t, "Cmp", one, path.Cmp(b, c), path.Cmp(a, c))
				checkThree(t, "Less", path.Less(a.Edges, b.Edges), path.Less(b.Edges, c.Edges), path.Less(a.Edges, c.Edges))
			}
		}
	}
}

// checkThree holds the order of the first one and the third one against those of the first two and the last two.
func checkThree(t *testing.T, what string, first, last, all int) {
	t.Helper()
	if first <= 0 && last <= 0 && all != min(first, last) {
		t.Errorf("%s: %d of the first two, %d of the last two, but %d of the first one and the third one", what, first, last, all)
	}
}

// P802: what Cmp sorts is in the order of W, and within it in that of Less.
func TestSorted(t *testing.T) {
	l := manyRoutes()
	slices.SortFunc(l, path.Cmp)
	for i := range len(l) - 1 {
		a, b := l[i], l[i+1]
		if a.W > b.W || a.W == b.W && path.Less(a.Edges, b.Edges) > 0 {
			t.Errorf("%v comes ahead of %v", a, b)
		}
	}
}

func checkJoin(t *testing.T, a, b, want api.Route) {
	t.Helper()
	one, other := guardedList(a.Edges), guardedList(b.Edges)
	got := path.Join(route(a.W, one.list...), route(b.W, other.list...))
	if got.W != want.W || !slices.Equal(got.Edges, want.Edges) {
		t.Errorf("Join(%v, %v): %v, not %v", a, b, got, want)
	}
	spoil(got.Edges, -7)
	one.check(t, "Join")
	other.check(t, "Join")
	if got = path.Join(a, b); got.W != want.W || !slices.Equal(got.Edges, want.Edges) {
		t.Errorf("Join(%v, %v) without spare capacity: %v, not %v", a, b, got, want)
	}
}

// P802 (Join): empty ones on either side, lists that are no path, and sums that wrap round.
func TestJoin(t *testing.T) {
	const most = uint64(math.MaxUint64)
	cases := []struct{ a, b, want api.Route }{
		{route(5, 0), route(2, 1), route(7, 0, 1)},
		{route(2, 1), route(5, 0), route(7, 1, 0)},
		{route(0), route(0), route(0)},
		{api.Route{}, api.Route{Edges: []int{}}, api.Route{}},
		{route(5, 0, 1), route(0), route(5, 0, 1)},
		{route(0), route(5, 0, 1), route(5, 0, 1)},
		{route(3), route(5, 0, 1), route(8, 0, 1)},
		{route(5, 0, 1), route(3), route(8, 0, 1)},
		{route(5, 0, 1), route(5, 0, 1), route(10, 0, 1, 0, 1)},
		{route(1, 1, 2, 3), route(2, 4), route(3, 1, 2, 3, 4)},
		{route(0, -1, math.MinInt), route(0, math.MaxInt), route(0, -1, math.MinInt, math.MaxInt)},
		{route(most), route(0), route(most)},
		{route(most, 1), route(1, 2), route(0, 1, 2)},
		{route(1, 1), route(most, 2), route(0, 1, 2)},
		{route(most), route(most), route(most - 1)},
		{route(1 << 63), route(1 << 63), route(0)},
		{route(1 << 63), route(1<<63 - 1), route(most)},
		{route(1<<32, 0), route(1<<32, 0), route(1<<33, 0, 0)},
	}
	for _, c := range cases {
		checkJoin(t, c.a, c.b, c.want)
	}
	long := counted(0, 50000)
	checkJoin(t, route(1, long[:20000]...), route(2, long[20000:]...), route(3, long...))
}

// P802 (Join): parts of the same memory, which appending to the first one would overwrite.
func TestJoinOfOneMemory(t *testing.T) {
	list := guardedList([]int{1, 2, 3, 4})
	for i := range 5 {
		for j := range 5 {
			a, b := list.list[:i], list.list[j:]
			want := append(slices.Clone(list.was[:i]), list.was[j:4]...)
			if got := path.Join(route(1, a...), route(2, b...)); got.W != 3 || !slices.Equal(got.Edges, want) {
				t.Errorf("Join of the first %d of 4, and of those from %d on: %v, not %v", i, j, got, want)
			}
			list.check(t, "Join")
		}
	}
}

// checkApart spoils one of three results; the others, and later ones, stay as they have to be.
func checkApart[T comparable](t *testing.T, what string, want []T, with T, call func() []T) {
	t.Helper()
	one, two, three := call(), call(), call()
	spoil(append(two, with, with, with), with)
	spoil(two, with)
	for _, l := range [][]T{one, three, call()} {
		if !slices.Equal(l, want) {
			t.Errorf("%s, when another one has changed: %v, not %v", what, head(l), head(want))
		}
	}
}

// P801 to P803: no result shares memory with an argument, or with another result.
func TestResultsThatChange(t *testing.T) {
	for _, g := range smallGraphs() {
		for _, l := range lists(0, len(g.E)-1, 3) {
			nodes, ok := visits(g, 0, l)
			checkApart(t, "Nodes", nodes, -7, func() []int {
				got, is := path.Nodes(g, 0, l)
				if is != ok {
					t.Errorf("Nodes of %v: %t", l, is)
				}
				return got
			})
			checkApart(t, "Join", append(slices.Clone(l), l...), -7, func() []int { return path.Join(route(1, l...), route(1, l...)).Edges })
			checkApart(t, "Join with an empty one", l, -7, func() []int { return path.Join(route(1, l...), route(1)).Edges })
			checkApart(t, "Join of an empty one", l, -7, func() []int { return path.Join(route(1), route(1, l...)).Edges })
			checkApart(t, "Offsets", path.Offsets(g, l), 77, func() []uint64 { return path.Offsets(g, l) })
		}
	}
}

// P801 to P803: results stay when the arguments change.
func TestArgumentsThatChange(t *testing.T) {
	g, l := example(), []int{0, 2, 0, 1}
	a, b := []int{0, 2}, []int{0, 1}
	nodes, _ := path.Nodes(g, 0, l)
	offsets := path.Offsets(g, l)
	joined := path.Join(route(6, a...), route(7, b...))
	alone, behind := path.Join(route(6, a...), route(0)), path.Join(route(0), route(7, b...))
	for _, list := range [][]int{l, a, b} {
		spoil(list, -7)
	}
	spoil(g.E, edge(-7, -8, 9))
	got := fmt.Sprint(nodes, offsets, joined, alone, behind)
	if want := "[0 1 0 1 2] [0 5 6 11 13] {[0 2 0 1] 13} {[0 2] 6} {[0 1] 7}"; got != want {
		t.Errorf("when the arguments have changed: %s, not %s", got, want)
	}
}

// checkCuts cuts a path from a node at each place.
func checkCuts(t *testing.T, g api.Graph, from int, l []int) {
	t.Helper()
	nodes, ok := path.Nodes(g, from, l)
	all, allOK := path.Weight(g, l)
	offsets := path.Offsets(g, l)
	if !ok || !allOK || len(nodes) != len(l)+1 || len(offsets) != len(l)+1 {
		t.Fatalf("the path %v from %d: %d nodes, %d offsets, %t and %t", head(l), from, len(nodes), len(offsets), ok, allOK)
	}
	to := nodes[len(l)]
	for i := range len(l) + 1 {
		one, _ := path.Weight(g, l[:i])
		other, _ := path.Weight(g, l[i:])
		if one+other != all || offsets[i] != one || offsets[len(l)]-offsets[i] != other {
			t.Errorf("%v, cut at %d: the weights %d and %d, not %d in all; the offset %d of %d", head(l), i, one, other, all, offsets[i], offsets[len(l)])
		}
		if !path.Is(g, from, nodes[i], l[:i]) || !path.Is(g, nodes[i], to, l[i:]) {
			t.Errorf("%v, cut at %d: a part is not a path", head(l), i)
		}
		whole := path.Join(route(one, l[:i]...), route(other, l[i:]...))
		if !path.Same(whole, route(all, l...)) {
			t.Errorf("%v, cut at %d, joined: %v, not of the weight %d", head(l), i, whole, all)
		}
	}
}

// P804: the weight of a path is that of its parts, for all short paths, and for long ones.
func TestWeightOfParts(t *testing.T) {
	for _, g := range smallGraphs() {
		for _, l := range lists(0, len(g.E)-1, 5) {
			for from := range g.N {
				if _, ok := visits(g, from, l); ok {
					checkCuts(t, g, from, l)
				}
			}
		}
	}
	checkCuts(t, ring(50, 200), 0, counted(0, 200))
	checkCuts(t, ring(50, 200), 7, counted(7, 49))
	checkCuts(t, of(2, edge(0, 1, maxW), edge(1, 0, maxW-1)), 1, slices.Repeat([]int{1, 0}, 100))
}

// P804: simple paths have at most N - 1 edges, among all lists that are longer too; some have as many.
func TestSimplePathsAreShort(t *testing.T) {
	for _, c := range []struct {
		g     api.Graph
		edges int // of the longest simple path
	}{
		{of(1), 0},
		{of(2), 0},
		{of(2, edge(1, 0, 1), edge(0, 1, 1)), 1},
		{of(2, edge(0, 1, 1), edge(0, 1, 1)), 1},
		{example(), 2},
		{of(4, edge(0, 1, 1), edge(1, 2, 2), edge(2, 3, 4)), 3},
		{of(4, edge(0, 1, 1), edge(1, 0, 1), edge(2, 3, 1)), 1},
		{ring(4, 5), 3},
	} {
		longest := 0
		for _, l := range lists(0, len(c.g.E)-1, c.g.N+1) {
			for from := range c.g.N {
				if path.Simple(c.g, from, l) {
					longest = max(longest, len(l))
				}
			}
		}
		if longest != c.edges || longest > c.g.N-1 {
			t.Errorf("of %d nodes and %v: a simple path of %d edges, not of %d", c.g.N, c.g.E, longest, c.edges)
		}
	}
	for _, n := range []int{50, api.MaxNodes} {
		g := ring(n, n)
		twice := slices.Repeat(counted(0, n), 2)
		for _, from := range []int{0, 1, n / 2, n - 1} {
			checkSimple(t, g, from, twice[from:from+n-1], true)
			checkSimple(t, g, from, twice[from:from+n], false)
		}
	}
}
