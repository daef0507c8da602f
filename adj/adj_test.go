package adj_test

import (
	"fmt"
	"iter"
	"math"
	"slices"
	"testing"

	"highroad/adj"
	"highroad/api"
)

const maxW = uint64(api.MaxW)

// edge writes an edge in short.
func edge(from, to int, w uint64) api.Edge {
	return api.Edge{From: from, To: to, W: w}
}

// of writes a graph in short.
func of(n int, l ...api.Edge) api.Graph {
	return api.Graph{N: n, E: l}
}

// repeated is a graph with n times the same edge.
func repeated(nodes, n int, e api.Edge) api.Graph {
	return api.Graph{N: nodes, E: slices.Repeat([]api.Edge{e}, n)}
}

// ring is a graph whose edges lead from each node to the next one, round and round, with weights that differ.
func ring(nodes, edges int) api.Graph {
	g := api.Graph{N: nodes}
	for i := range edges {
		g.E = append(g.E, edge(i%nodes, (i+1)%nodes, uint64(i+1)))
	}
	return g
}

// smallGraphs are valid graphs of a few nodes: without edges, with nodes that have none, with edges that are there twice, and with nodes that have edges both out and in.
func smallGraphs() []api.Graph {
	return []api.Graph{
		of(1),
		{N: 1, E: []api.Edge{}},
		of(2),
		{N: 5, E: []api.Edge{}},
		of(2, edge(0, 1, 5)),
		of(2, edge(1, 0, maxW)),
		of(2, edge(0, 1, 7), edge(0, 1, 7)),
		of(3, edge(0, 1, 1), edge(2, 1, 2), edge(0, 1, 3)),
		of(3, edge(0, 1, 7), edge(1, 0, 7), edge(0, 1, 3), edge(0, 1, 7)),
		of(3, edge(0, 1, 4), edge(1, 2, 5), edge(2, 0, 1), edge(0, 2, maxW)),
		of(4, edge(1, 2, 9), edge(2, 1, 8)),
		of(4, edge(3, 0, 9), edge(0, 3, 8), edge(3, 0, 9)),
		of(5, edge(3, 1, 9), edge(1, 4, 8), edge(4, 3, 7), edge(1, 3, 6), edge(3, 4, 5), edge(3, 1, 1)),
		of(6, edge(5, 2, 1), edge(0, 5, 2), edge(2, 3, 3), edge(2, 5, 4), edge(2, 5, 4), edge(1, 0, maxW), edge(5, 1, 7), edge(5, 2, 8)),
		ring(2, 9),
		ring(7, 40),
	}
}

// greatGraphs are valid graphs at the limits.
func greatGraphs() []api.Graph {
	const last = api.MaxNodes - 1
	star := of(api.MaxNodes)
	for v := range last {
		star.E = append(star.E, edge(last, v, uint64(v+1)), edge(v, last, maxW))
	}
	return []api.Graph{
		of(api.MaxNodes),
		of(api.MaxNodes, edge(0, last, 1), edge(last, 0, maxW)),
		ring(api.MaxNodes, api.MaxEdges),
		ring(3, api.MaxEdges),
		repeated(2, api.MaxEdges, edge(0, 1, maxW)),
		repeated(api.MaxNodes, api.MaxEdges, edge(last, 0, 1)),
		star,
	}
}

func rightGraphs() []api.Graph {
	return append(smallGraphs(), greatGraphs()...)
}

// wrongGraphs are graphs that are not valid, each for one reason.
func wrongGraphs() []api.Graph {
	return []api.Graph{
		{},
		{N: 0, E: []api.Edge{}},
		of(-1),
		of(math.MinInt),
		of(math.MaxInt),
		of(api.MaxNodes + 1),
		of(0, edge(0, 1, 5)),
		of(-2, edge(0, 1, 5)),
		of(api.MaxNodes+1, edge(0, 1, 5)),
		repeated(2, api.MaxEdges+1, edge(0, 1, 5)),
		ring(api.MaxNodes, api.MaxEdges+1),
		of(2, edge(0, 2, 5)),
		of(2, edge(2, 0, 5)),
		of(2, edge(-1, 0, 5)),
		of(2, edge(0, -1, 5)),
		of(2, edge(0, math.MaxInt, 5)),
		of(2, edge(math.MinInt, 1, 5)),
		of(1, edge(0, 0, 5)),
		of(2, edge(0, 1, 5), edge(1, 1, 5)),
		of(2, edge(0, 1, 0)),
		of(2, edge(0, 1, maxW+1)),
		of(2, edge(0, 1, 5), edge(1, 0, math.MaxUint64)),
	}
}

// outside are numbers that none of n things has.
func outside(n int) []int {
	return []int{-1, -2, -n, -n - 1, math.MinInt, math.MinInt + 1, n, n + 1, 2*n + 1, n + 1<<32, math.MaxInt - 1, math.MaxInt}
}

// some are numbers of n things: all of a few, and of many some, the first and the last one among them.
func some(n int) []int {
	var l []int
	for i := range n {
		if n <= 50 || i < 3 || i >= n-3 || i%511 == 0 {
			l = append(l, i)
		}
	}
	return l
}

// where are the numbers of the edges for which is holds, one by one.
func where(g api.Graph, is func(e api.Edge) bool) []int {
	var l []int
	for i, e := range g.E {
		if is(e) {
			l = append(l, i)
		}
	}
	return l
}

// row is what Out of v has to be, and In if back is true.
func row(g api.Graph, v int, back bool) []int {
	if back {
		return where(g, func(e api.Edge) bool { return e.To == v })
	}
	return where(g, func(e api.Edge) bool { return e.From == v })
}

// between is what Between has to be.
func between(g api.Graph, u, v int) []int {
	return where(g, func(e api.Edge) bool { return e.From == u && e.To == v })
}

// head is the beginning of a list, for messages.
func head[T any](l []T) []T {
	return l[:min(len(l), 8)]
}

// guard is an argument with spare capacity, and what all of its memory has to be.
type guard[T comparable] struct{ list, was []T }

// guarded copies a list to memory with spare capacity, full of what is to stay.
func guarded[T comparable](l []T, filling T) guard[T] {
	whole := append(slices.Clone(l), filling, filling, filling)
	return guard[T]{whole[:len(l)], slices.Clone(whole)}
}

func (g guard[T]) check(t *testing.T, what string) {
	t.Helper()
	if whole := g.list[:len(g.was)]; !slices.Equal(whole, g.was) {
		t.Errorf("%s: an argument became %v, from %v", what, head(whole), head(g.was))
	}
}

// guardedEdges are those of a graph, guarded.
func guardedEdges(g api.Graph) guard[api.Edge] {
	return guarded(g.E, edge(77, 78, 79))
}

// spoil overwrites all memory of a list, its spare capacity as well.
func spoil[T any](l []T, with T) {
	l = l[:cap(l)]
	for i := range l {
		l[i] = with
	}
}

// made is the Adj of a valid graph.
func made(t *testing.T, g api.Graph) *adj.Adj {
	t.Helper()
	edges := guardedEdges(g)
	a, fault := adj.New(api.Graph{N: g.N, E: edges.list})
	if a == nil || fault != api.OK {
		t.Fatalf("New of %d nodes and %d edges: %v and %d", g.N, len(g.E), a != nil, fault)
	}
	edges.check(t, "New")
	return a
}

func checkInts(t *testing.T, what string, got, want []int) {
	t.Helper()
	if !slices.Equal(got, want) {
		t.Errorf("%s: %d of them, %v, not %d, %v", what, len(got), head(got), len(want), head(want))
	}
}

func checkGraph(t *testing.T, what string, got, want api.Graph) {
	t.Helper()
	if got.N != want.N || !slices.Equal(got.E, want.E) {
		t.Errorf("%s: N %d and %d edges %v, not N %d and %d edges %v", what, got.N, len(got.E), head(got.E), want.N, len(want.E), head(want.E))
	}
}

// checkEdge holds Edge against what it has to be.
func checkEdge(t *testing.T, a *adj.Adj, e int, want api.Edge, there bool) {
	t.Helper()
	if got, ok := a.Edge(e); got != want || ok != there {
		t.Errorf("Edge(%d): %v and %t, not %v and %t", e, got, ok, want, there)
	}
}

// checkEach holds an iterator against the numbers of the edges that it has to yield.
func checkEach(t *testing.T, what string, l iter.Seq2[int, api.Edge], g api.Graph, want []int) {
	t.Helper()
	var got []int
	for i, e := range l {
		got = append(got, i)
		if i < 0 || i >= len(g.E) || e != g.E[i] {
			t.Fatalf("%s: the edge %d is %v", what, i, e)
		}
	}
	checkInts(t, what, got, want)
}

// checkNode holds Out, In and Each of one node, or of a number that is none, against what they have to be.
func checkNode(t *testing.T, a *adj.Adj, g api.Graph, v int) {
	t.Helper()
	out, in := row(g, v, false), row(g, v, true)
	checkInts(t, fmt.Sprintf("Out(%d)", v), a.Out(v), out)
	checkInts(t, fmt.Sprintf("In(%d)", v), a.In(v), in)
	checkEach(t, fmt.Sprintf("Each(%d, false)", v), a.Each(v, false), g, out)
	checkEach(t, fmt.Sprintf("Each(%d, true)", v), a.Each(v, true), g, in)
}

// checkAll holds all answers, at some nodes of a great graph, against what they have to be.
func checkAll(t *testing.T, what string, a *adj.Adj, g api.Graph) {
	t.Helper()
	if a.Nodes() != g.N || a.Edges() != len(g.E) {
		t.Errorf("%s: %d nodes and %d edges, not %d and %d", what, a.Nodes(), a.Edges(), g.N, len(g.E))
	}
	checkGraph(t, what, a.Graph(), g)
	for i, e := range g.E {
		checkEdge(t, a, i, e, true)
	}
	for _, e := range outside(len(g.E)) {
		checkEdge(t, a, e, api.Edge{}, false)
	}
	nodes := append(outside(g.N), some(g.N)...)
	for _, u := range nodes {
		checkNode(t, a, g, u)
		for _, v := range nodes {
			checkInts(t, fmt.Sprintf("%s: Between(%d, %d)", what, u, v), a.Between(u, v), between(g, u, v))
		}
	}
	if t.Failed() {
		t.Fatalf("%s: of %d nodes and %d edges %v", what, g.N, len(g.E), head(g.E))
	}
}

// P701 (New): the numbers of nodes and of edges, on both sides of their limits.
func TestNewAtLimits(t *testing.T) {
	right := func(g api.Graph) {
		t.Helper()
		if a := made(t, g); a.Nodes() != g.N || a.Edges() != len(g.E) {
			t.Errorf("New of %d nodes and %d edges: %d and %d", g.N, len(g.E), a.Nodes(), a.Edges())
		}
	}
	for _, n := range []int{1, 2, 3, api.MaxNodes - 1, api.MaxNodes} {
		right(of(n))
		right(api.Graph{N: n, E: []api.Edge{}})
	}
	for _, n := range []int{1, 2, api.MaxEdges - 1, api.MaxEdges} {
		right(repeated(2, n, edge(1, 0, 1)))
		right(ring(api.MaxNodes, n))
		right(repeated(api.MaxNodes, n, edge(0, api.MaxNodes-1, maxW)))
	}
	for _, g := range rightGraphs() {
		right(g)
	}
}

func checkWrong(t *testing.T, g api.Graph) {
	t.Helper()
	edges := guardedEdges(g)
	if a, fault := adj.New(api.Graph{N: g.N, E: edges.list}); a != nil || fault != api.BadArg {
		t.Errorf("New of N %d and %d edges %v: %v and %d", g.N, len(g.E), head(g.E), a, fault)
	}
	edges.check(t, "New")
}

// P701 (New): a graph that is not valid, of each kind, the wrong edge at each place.
func TestNewOfWrongGraphs(t *testing.T) {
	for _, g := range wrongGraphs() {
		checkWrong(t, g)
	}
	wrong := []api.Edge{edge(7, 0, 5), edge(0, 7, 5), edge(-1, 0, 5), edge(0, -1, 5), edge(3, 3, 5), edge(0, 1, 0), edge(0, 1, maxW+1)}
	for i := range 20 {
		for _, e := range wrong {
			g := ring(7, 20)
			g.E[i] = e
			checkWrong(t, g)
		}
	}
}

// P701 (New): all graphs of a few nodes and one edge, around every limit of it.
func TestNewOfAllSmall(t *testing.T) {
	for n := -1; n <= 3; n++ {
		for from := -1; from <= 3; from++ {
			for to := -1; to <= 3; to++ {
				for _, w := range []uint64{0, 1, maxW, maxW + 1} {
					g := of(n, edge(from, to, w))
					nodes := 0 <= from && from < n && 0 <= to && to < n && from != to
					if nodes && 1 <= w && w <= maxW {
						checkAll(t, "one edge", made(t, g), g)
					} else {
						checkWrong(t, g)
					}
				}
			}
		}
	}
}

// P701 (Nodes, Edges).
func TestNodesAndEdges(t *testing.T) {
	cases := []struct {
		g            api.Graph
		nodes, edges int
	}{
		{of(1), 1, 0},
		{of(5), 5, 0},
		{of(2, edge(0, 1, 5)), 2, 1},
		{of(5, edge(0, 1, 5), edge(0, 1, 5)), 5, 2},
		{ring(7, 40), 7, 40},
		{of(api.MaxNodes), api.MaxNodes, 0},
		{ring(api.MaxNodes, api.MaxEdges), api.MaxNodes, api.MaxEdges},
		{repeated(2, api.MaxEdges, edge(1, 0, 3)), 2, api.MaxEdges},
	}
	for _, c := range cases {
		a := made(t, c.g)
		if a.Nodes() != c.nodes || a.Edges() != c.edges {
			t.Errorf("%d nodes and %d edges, not %d and %d", a.Nodes(), a.Edges(), c.nodes, c.edges)
		}
	}
}

// P701 (Edge): the first one, the last one, and what is not there, just outside and far from it.
func TestEdge(t *testing.T) {
	a := made(t, of(3, edge(0, 1, 1), edge(2, 1, 2), edge(0, 1, 3)))
	checkEdge(t, a, 0, edge(0, 1, 1), true)
	checkEdge(t, a, 1, edge(2, 1, 2), true)
	checkEdge(t, a, 2, edge(0, 1, 3), true)
	for _, e := range []int{-1, 3, math.MinInt, math.MaxInt} {
		checkEdge(t, a, e, api.Edge{}, false)
	}

	g := ring(api.MaxNodes, api.MaxEdges)
	a = made(t, g)
	checkEdge(t, a, 0, edge(0, 1, 1), true)
	checkEdge(t, a, api.MaxEdges-1, edge(api.MaxNodes-1, 0, api.MaxEdges), true)
	for _, e := range []int{-1, api.MaxEdges, math.MinInt, math.MaxInt} {
		checkEdge(t, a, e, api.Edge{}, false)
	}

	a = made(t, of(4))
	for e := -5; e <= 5; e++ {
		checkEdge(t, a, e, api.Edge{}, false)
	}
}

// P701 (Graph): the same nodes and edges.
func TestGraph(t *testing.T) {
	for _, g := range rightGraphs() {
		a := made(t, g)
		checkGraph(t, "Graph", a.Graph(), g)
		checkGraph(t, "Graph, once more", a.Graph(), g)
		checkGraph(t, "Graph of the Adj of what Graph returned", made(t, a.Graph()).Graph(), g)
	}
}

// P702 (Out, In): the chapter's examples, and nodes with edges of every kind.
func TestOutAndIn(t *testing.T) {
	cases := []struct {
		g       api.Graph
		out, in [][]int // of each node
	}{
		{of(3, edge(0, 1, 1), edge(2, 1, 2), edge(0, 1, 3)), [][]int{{0, 2}, {}, {1}}, [][]int{{}, {0, 1, 2}, {}}},
		{of(2, edge(0, 1, 7), edge(0, 1, 7)), [][]int{{0, 1}, {}}, [][]int{{}, {0, 1}}},
		{of(2, edge(0, 1, 7), edge(1, 0, 7)), [][]int{{0}, {1}}, [][]int{{1}, {0}}},
		{of(1), [][]int{{}}, [][]int{{}}},
		{of(4, edge(1, 2, 1)), [][]int{{}, {0}, {}, {}}, [][]int{{}, {}, {0}, {}}},
		{of(3, edge(2, 0, 1), edge(0, 2, 1), edge(2, 0, 1), edge(0, 1, 1), edge(2, 1, 1)), [][]int{{1, 3}, {}, {0, 2, 4}}, [][]int{{0, 2}, {3, 4}, {1}}},
	}
	for i, c := range cases {
		a := made(t, c.g)
		for v := range c.g.N {
			checkInts(t, fmt.Sprintf("the case %d: Out(%d)", i, v), a.Out(v), c.out[v])
			checkInts(t, fmt.Sprintf("the case %d: In(%d)", i, v), a.In(v), c.in[v])
		}
		for _, v := range outside(c.g.N) {
			checkInts(t, fmt.Sprintf("the case %d: Out(%d)", i, v), a.Out(v), nil)
			checkInts(t, fmt.Sprintf("the case %d: In(%d)", i, v), a.In(v), nil)
		}
	}
}

// P701, P702: all answers, against what they are defined by.
func TestAllAnswers(t *testing.T) {
	for _, g := range rightGraphs() {
		checkAll(t, "a graph", made(t, g), g)
	}
}

// P701, P702: all graphs of three nodes and up to four edges.
func TestAllAnswersOfAllSmall(t *testing.T) {
	ends := []api.Edge{edge(0, 1, 1), edge(0, 2, 2), edge(1, 0, 3), edge(1, 2, 4), edge(2, 0, 5), edge(2, 1, maxW)}
	count := 1
	for n := range 5 {
		for choice := range count {
			g := of(3)
			for range n {
				g.E = append(g.E, ends[choice%len(ends)])
				choice /= len(ends)
			}
			checkAll(t, "a small graph", made(t, g), g)
		}
		count *= len(ends)
	}
}

// P702 (Out, In): every node of great graphs, in ascending order.
func TestRowsOfGreatGraphs(t *testing.T) {
	for _, g := range greatGraphs() {
		out, in := make([][]int, g.N), make([][]int, g.N)
		for i, e := range g.E {
			out[e.From], in[e.To] = append(out[e.From], i), append(in[e.To], i)
		}
		a := made(t, g)
		for v := range g.N {
			checkInts(t, "Out of a great graph", a.Out(v), out[v])
			checkInts(t, "In of a great graph", a.In(v), in[v])
			checkEach(t, "Each of a great graph, outgoing", a.Each(v, false), g, out[v])
			checkEach(t, "Each of a great graph, incoming", a.Each(v, true), g, in[v])
		}
	}
}

// P702 (Each): each edge with its contents, in both directions.
func TestEach(t *testing.T) {
	a := made(t, of(3, edge(0, 1, 1), edge(2, 1, 2), edge(0, 1, 3)))
	cases := []struct {
		v    int
		back bool
		want string
	}{
		{0, false, "0 {0 1 1}; 2 {0 1 3}; "},
		{1, false, ""},
		{2, false, "1 {2 1 2}; "},
		{0, true, ""},
		{1, true, "0 {0 1 1}; 1 {2 1 2}; 2 {0 1 3}; "},
		{2, true, ""},
		{-1, false, ""},
		{-1, true, ""},
		{3, false, ""},
		{3, true, ""},
		{math.MinInt, true, ""},
		{math.MaxInt, false, ""},
	}
	for _, c := range cases {
		got := ""
		for i, e := range a.Each(c.v, c.back) {
			got += fmt.Sprint(i, " ", e, "; ")
		}
		if got != c.want {
			t.Errorf("Each(%d, %t): %s, not %s", c.v, c.back, got, c.want)
		}
	}
}

// P702 (Each): a loop that is left after any number of edges, and goes on anew with the same iterator.
func TestEachLeft(t *testing.T) {
	for _, g := range smallGraphs() {
		a := made(t, g)
		for v := range g.N {
			for _, back := range []bool{false, true} {
				want, l := row(g, v, back), a.Each(v, back)
				for most := range want {
					checkInts(t, "the first ones of Each", taken(t, l, most+1), want[:most+1])
				}
				checkEach(t, "Each after loops that were left", l, g, want)
				checkEach(t, "Each, a second time", l, g, want)
			}
		}
	}
}

// taken are the first ones of an iterator, which is left then, and which must not go on.
func taken(t *testing.T, l iter.Seq2[int, api.Edge], most int) []int {
	t.Helper()
	var got []int
	l(func(i int, e api.Edge) bool {
		got = append(got, i)
		return len(got) < most
	})
	return got
}

// P702 (Each): two loops of the same iterator, nested, and loops of two iterators of the same Adj.
func TestEachNested(t *testing.T) {
	for _, g := range smallGraphs() {
		a := made(t, g)
		for v := range g.N {
			out, in := row(g, v, false), row(g, v, true)
			l := a.Each(v, false)
			var outer []int
			for i := range l {
				outer = append(outer, i)
				checkEach(t, "Each within a loop of the same", l, g, out)
				checkEach(t, "Each within a loop of another", a.Each(v, true), g, in)
				checkEach(t, "Each within a loop of its like", a.Each(v, false), g, out)
				checkInts(t, "Out within a loop", a.Out(v), out)
			}
			checkInts(t, "Each around other loops", outer, out)
		}
	}
}

// P702 (Each): iterators that are made ahead of other calls.
func TestEachLater(t *testing.T) {
	for _, g := range smallGraphs() {
		a := made(t, g)
		var l []iter.Seq2[int, api.Edge]
		for v := range g.N {
			l = append(l, a.Each(v, false), a.Each(v, true))
		}
		checkAll(t, "between making iterators and ranging over them", a, g)
		for v := range g.N {
			checkEach(t, "Each, outgoing, later", l[2*v], g, row(g, v, false))
			checkEach(t, "Each, incoming, later", l[2*v+1], g, row(g, v, true))
		}
	}
}

// P702 (Between): the chapter's example, u equal to v, edges that are there twice, and numbers that are no nodes.
func TestBetween(t *testing.T) {
	a := made(t, of(3, edge(0, 1, 1), edge(2, 1, 2), edge(0, 1, 3)))
	checkInts(t, "Between(0, 1)", a.Between(0, 1), []int{0, 2})
	checkInts(t, "Between(2, 1)", a.Between(2, 1), []int{1})
	for _, c := range [][2]int{{1, 0}, {1, 2}, {0, 2}, {2, 0}, {0, 0}, {1, 1}, {2, 2}} {
		checkInts(t, fmt.Sprint("Between", c), a.Between(c[0], c[1]), nil)
	}
	for _, v := range outside(3) {
		for w := range 3 {
			checkInts(t, "Between to what is no node", a.Between(w, v), nil)
			checkInts(t, "Between from what is no node", a.Between(v, w), nil)
		}
		checkInts(t, "Between what is no node, twice", a.Between(v, v), nil)
	}

	g := repeated(2, api.MaxEdges, edge(1, 0, maxW))
	a = made(t, g)
	checkInts(t, "Between of the same edge again and again", a.Between(1, 0), row(g, 1, false))
	checkInts(t, "Between, the other way round", a.Between(0, 1), nil)
}

// P701, P702: a nil Adj, and one that New has not made.
func TestNoAdj(t *testing.T) {
	for _, a := range []*adj.Adj{nil, {}} {
		if a.Nodes() != 0 || a.Edges() != 0 {
			t.Errorf("no Adj: %d nodes and %d edges", a.Nodes(), a.Edges())
		}
		checkGraph(t, "no Adj", a.Graph(), api.Graph{})
		numbers := append(outside(1), 0, 1, 2, api.MaxNodes, api.MaxEdges)
		for _, v := range numbers {
			checkEdge(t, a, v, api.Edge{}, false)
			checkNode(t, a, api.Graph{}, v)
			for _, u := range numbers {
				checkInts(t, "Between of no Adj", a.Between(u, v), nil)
			}
		}
	}
	none, fault := adj.New(of(2, edge(0, 0, 5)))
	for range none.Each(0, true) {
		t.Errorf("New with the fault %d returned edges", fault)
	}
}

// P701: no result shares memory with the graph that came in: it changes after New, in its spare capacity as well.
func TestGraphThatChanges(t *testing.T) {
	for _, g := range smallGraphs() {
		edges := guardedEdges(g)
		a, _ := adj.New(api.Graph{N: g.N, E: edges.list})
		l := a.Each(0, true)
		spoil(edges.list, edge(-7, -8, 9))
		checkAll(t, "the graph has changed", a, g)
		checkEach(t, "Each, when the graph has changed", l, g, row(g, 0, true))

		edges = guardedEdges(g)
		a, _ = adj.New(api.Graph{N: g.N, E: edges.list})
		for _, got := range []api.Graph{a.Graph(), a.Graph()} {
			spoil(got.E, edge(-7, -8, 9))
		}
		edges.check(t, "what Graph returned was changed")
	}
}

// P701, P702: no result shares memory with the Adj, or with another result.
func TestResultsThatChange(t *testing.T) {
	for _, g := range smallGraphs() {
		a := made(t, g)
		checkApart(t, "Graph", g.E, edge(-7, -8, 9), func() []api.Edge { return a.Graph().E })
		for v := range g.N {
			checkApart(t, "Out", row(g, v, false), -7, func() []int { return a.Out(v) })
			checkApart(t, "In", row(g, v, true), -7, func() []int { return a.In(v) })
			for u := range g.N {
				checkApart(t, "Between", between(g, u, v), -7, func() []int { return a.Between(u, v) })
			}
		}
		checkAll(t, "results have changed", a, g)
	}
}

// checkApart spoils one of three results, and appends to it; the others, and later ones, stay as they have to be.
func checkApart[T comparable](t *testing.T, what string, want []T, with T, call func() []T) {
	t.Helper()
	one, two, three := call(), call(), call()
	grown := append(two, with, with, with)
	spoil(two, with)
	spoil(grown, with)
	for _, l := range [][]T{one, three, call()} {
		if !slices.Equal(l, want) {
			t.Errorf("%s, when another one has changed: %v, not %v", what, head(l), head(want))
		}
	}
}

// P702: results of all nodes at once, each one spoilt, appended to or not, with all others held against what they have to be.
func TestRowsApart(t *testing.T) {
	for _, g := range smallGraphs() {
		for spoilt := range 2 * g.N {
			a := made(t, g)
			var l [][]int
			for v := range g.N {
				l = append(l, a.Out(v), a.In(v))
			}
			one := append(l[spoilt], -7, -7, -7)
			spoil(one, -7)
			spoil(l[spoilt], -7)
			for i, got := range l {
				if i != spoilt {
					checkInts(t, "another row", got, row(g, i/2, i%2 == 1))
				}
			}
			checkAll(t, "a row has changed", a, g)
		}
	}
}

// P702 (Each): an edge that is yielded is a copy.
func TestEachEdgeThatChanges(t *testing.T) {
	for _, g := range smallGraphs() {
		a := made(t, g)
		for v := range g.N {
			for _, back := range []bool{false, true} {
				for i, e := range a.Each(v, back) {
					e.From, e.To, e.W = e.To, e.From, e.W+1
					if kept, ok := a.Edge(i); !ok || kept == e {
						t.Errorf("the edge %d became %v", i, e)
					}
				}
			}
		}
		checkAll(t, "yielded edges have changed", a, g)
	}
}

// P701, P702: two Adjs of the same graph, or of two, do not turn each other.
func TestTwoAdjs(t *testing.T) {
	l := smallGraphs()
	for _, g := range l {
		for _, h := range l {
			a, b := made(t, g), made(t, h)
			spoil(b.Graph().E, edge(-7, -8, 9))
			if a == b {
				t.Error("New returned the same Adj twice")
			}
			checkAll(t, "the one", a, g)
			checkAll(t, "the other", b, h)
		}
	}
}

// P703: each edge leaves one node, its From, and enters one node, its To.
func TestEdgesLeaveAndEnterOnce(t *testing.T) {
	for _, g := range rightGraphs() {
		a := made(t, g)
		leaves, enters := make([][]int, len(g.E)), make([][]int, len(g.E))
		for v := range a.Nodes() {
			for _, e := range a.Out(v) {
				leaves[e] = append(leaves[e], v)
			}
			for _, e := range a.In(v) {
				enters[e] = append(enters[e], v)
			}
		}
		for i, e := range g.E {
			checkInts(t, fmt.Sprintf("the nodes that the edge %d leaves", i), leaves[i], []int{e.From})
			checkInts(t, fmt.Sprintf("the nodes that the edge %d enters", i), enters[i], []int{e.To})
			if kept, ok := a.Edge(i); !ok || kept.From != leaves[i][0] || kept.To != enters[i][0] {
				t.Errorf("the edge %d is %v, and leaves %d and enters %d", i, kept, leaves[i], enters[i])
			}
		}
	}
}

// P703: the edges between all pairs of nodes are all edges, each one once.
func TestEdgesBetweenAllPairs(t *testing.T) {
	for _, g := range smallGraphs() {
		a := made(t, g)
		var all []int
		for u := range g.N {
			for v := range g.N {
				all = append(all, a.Between(u, v)...)
			}
		}
		slices.Sort(all)
		checkInts(t, "the edges between all pairs", all, where(g, func(api.Edge) bool { return true }))
	}
}
