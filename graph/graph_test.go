package graph_test

import (
	"math"
	"slices"
	"testing"

	"highroad/api"
	"highroad/graph"
)

const maxW = uint64(api.MaxW)

// edge writes an edge in short.
func edge(from, to int, w uint64) api.Edge {
	return api.Edge{From: from, To: to, W: w}
}

// of writes a graph in short.
func of(n int, l ...api.Edge) api.Graph {
	return api.Graph{N: n, E: l}
}

// repeated is a graph with n times the same edge.
func repeated(nodes, n int, e api.Edge) api.Graph {
	return api.Graph{N: nodes, E: slices.Repeat([]api.Edge{e}, n)}
}

// ring is a graph whose edges lead from each node to the next one, round and round, with weights that differ.
func ring(nodes, edges int) api.Graph {
	g := api.Graph{N: nodes}
	for i := range edges {
		g.E = append(g.E, edge(i%nodes, (i+1)%nodes, uint64(i+1)))
	}
	return g
}

// rightGraphs are valid graphs: small ones, ones with several edges from one node to another, and the greatest ones.
func rightGraphs() []api.Graph {
	return []api.Graph{
		of(1),
		{N: 1, E: []api.Edge{}},
		of(2),
		of(api.MaxNodes),
		of(2, edge(0, 1, 5)),
		of(2, edge(1, 0, maxW)),
		of(3, edge(0, 1, 5), edge(1, 2, 2)),
		of(3, edge(0, 1, 4), edge(1, 2, 5), edge(2, 0, 1), edge(0, 2, maxW)),
		of(2, edge(0, 1, 7), edge(0, 1, 7)),
		of(3, edge(0, 1, 7), edge(1, 0, 7), edge(0, 1, 3), edge(0, 1, 7)),
		of(5, edge(3, 1, 9), edge(1, 4, 8), edge(4, 3, 7), edge(1, 3, 6), edge(3, 4, 5)),
		of(api.MaxNodes, edge(0, api.MaxNodes-1, 1), edge(api.MaxNodes-1, 0, maxW)),
		ring(7, 40),
		ring(api.MaxNodes, api.MaxEdges),
		repeated(2, api.MaxEdges, edge(0, 1, maxW)),
	}
}

// wrongGraphs are graphs that are not valid, each for one reason.
func wrongGraphs() []api.Graph {
	return []api.Graph{
		{},
		of(-1),
		of(math.MinInt),
		of(math.MaxInt),
		of(api.MaxNodes + 1),
		of(0, edge(0, 1, 5)),
		of(api.MaxNodes+1, edge(0, 1, 5)),
		repeated(2, api.MaxEdges+1, edge(0, 1, 5)),
		of(2, edge(0, 2, 5)),
		of(2, edge(2, 0, 5)),
		of(2, edge(-1, 0, 5)),
		of(2, edge(0, -1, 5)),
		of(2, edge(0, 1, 5), edge(1, 1, 5)),
		of(2, edge(0, 1, 0)),
		of(2, edge(0, 1, maxW+1)),
		of(2, edge(0, 1, 5), edge(1, 0, math.MaxUint64)),
	}
}

// allGraphs are graphs of both kinds.
func allGraphs() []api.Graph {
	return append(rightGraphs(), wrongGraphs()...)
}

// equal holds graphs against each other without the package that is tested.
func equal(a, b api.Graph) bool {
	if a.N != b.N || len(a.E) != len(b.E) {
		return false
	}
	for i, e := range a.E {
		o := b.E[i]
		if e.From != o.From || e.To != o.To || e.W != o.W {
			return false
		}
	}
	return true
}

func checkGraph(t *testing.T, what string, got, want api.Graph) {
	t.Helper()
	if !equal(got, want) {
		t.Errorf("%s: N %d and %d edges %v, not N %d and %d edges %v", what, got.N, len(got.E), head(got.E), want.N, len(want.E), head(want.E))
	}
}

func checkInts(t *testing.T, what string, got, want []int) {
	t.Helper()
	if !slices.Equal(got, want) {
		t.Errorf("%s: %d of them, %v, not %d, %v", what, len(got), head(got), len(want), head(want))
	}
}

// head is the beginning of a list, for messages.
func head[T any](l []T) []T {
	return l[:min(len(l), 8)]
}

// guard is an argument with spare capacity, and what all of its memory has to be.
type guard[T comparable] struct{ list, was []T }

// guarded copies a list to memory with spare capacity, full of what is to stay.
func guarded[T comparable](l []T, filling T) guard[T] {
	whole := append(slices.Clone(l), filling, filling, filling)
	return guard[T]{whole[:len(l)], slices.Clone(whole)}
}

func (g guard[T]) check(t *testing.T, what string) {
	t.Helper()
	if whole := g.list[:len(g.was)]; !slices.Equal(whole, g.was) {
		t.Errorf("%s: an argument became %v, from %v", what, head(whole), head(g.was))
	}
}

// guardedEdges are those of a graph, guarded.
func guardedEdges(g api.Graph) guard[api.Edge] {
	return guarded(g.E, edge(77, 78, 79))
}

// spoil overwrites all memory of a list, its spare capacity as well.
func spoil[T any](l []T, with T) {
	l = l[:cap(l)]
	for i := range l {
		l[i] = with
	}
}

func checkRight(t *testing.T, what string, g api.Graph, want api.Fault) {
	t.Helper()
	if got := graph.Right(g); got != want {
		t.Errorf("Right of %s: %d, not %d", what, got, want)
	}
}

// P501: the number of nodes.
func TestRightNodes(t *testing.T) {
	for _, n := range []int{1, 2, 3, api.MaxNodes - 1, api.MaxNodes} {
		checkRight(t, "as many nodes as may be", of(n), api.OK)
		checkRight(t, "no edges", api.Graph{N: n, E: []api.Edge{}}, api.OK)
	}
	for _, n := range []int{0, -1, -2, -api.MaxNodes, math.MinInt, math.MinInt + 1, api.MaxNodes + 1, 2 * api.MaxNodes, 1 << 32, math.MaxInt} {
		checkRight(t, "a wrong N", of(n), api.Range)
		checkRight(t, "a wrong N and an edge", of(n, edge(0, 1, 5)), api.Range)
	}
	checkRight(t, "the zero graph", api.Graph{}, api.Range)
}

// P501: the number of edges.
func TestRightEdges(t *testing.T) {
	for _, n := range []int{0, 1, 2, api.MaxEdges - 1, api.MaxEdges} {
		checkRight(t, "as many edges as may be", repeated(2, n, edge(1, 0, 5)), api.OK)
	}
	for _, n := range []int{api.MaxEdges + 1, api.MaxEdges + 2, 2 * api.MaxEdges} {
		checkRight(t, "too many edges", repeated(2, n, edge(1, 0, 5)), api.TooBig)
	}
	for _, g := range rightGraphs() {
		checkRight(t, "a valid graph", g, api.OK)
	}
}

// P501: From and To, of one edge alone and of each one of several.
func TestRightEnds(t *testing.T) {
	for _, n := range []int{1, 2, 3, 10, api.MaxNodes} {
		ends := []int{0, n - 1, n / 2, n, n + 1, -1, -n, math.MinInt, math.MaxInt, api.MaxNodes, 1 << 32}
		for _, from := range ends {
			for _, to := range ends {
				want := api.NoNode
				if 0 <= from && from < n && 0 <= to && to < n && from != to {
					want = api.OK
				}
				checkRight(t, "one edge", of(n, edge(from, to, 5)), want)
			}
		}
	}
	checkRight(t, "an edge from 0 to 0", of(1, edge(0, 0, 0)), api.NoNode)
	for i := range 40 {
		for _, e := range []api.Edge{edge(7, 0, 5), edge(0, 7, 5), edge(-1, 0, 5), edge(0, -1, 5), edge(3, 3, 5)} {
			g := ring(7, 40)
			g.E[i] = e
			checkRight(t, "several edges", g, api.NoNode)
		}
	}
}

// P501: W, of one edge alone and of each one of several.
func TestRightWeights(t *testing.T) {
	for _, w := range []uint64{1, 2, 1 << 31, maxW - 1, maxW} {
		checkRight(t, "a weight that may be", of(2, edge(0, 1, w)), api.OK)
	}
	for _, w := range []uint64{0, maxW + 1, maxW + 2, 2 * maxW, 1 << 63, math.MaxUint64} {
		checkRight(t, "a wrong weight", of(2, edge(0, 1, w)), api.Range)
		for i := range 40 {
			g := ring(7, 40)
			g.E[i].W = w
			checkRight(t, "a wrong weight of one edge", g, api.Range)
		}
	}
}

// P501: two faults at once, the one that the chapter names first in an edge ahead, in one behind, and in the same.
func TestRightOrder(t *testing.T) {
	const far = api.MaxNodes + 1
	ends, weight, both, good := edge(0, 2, 5), edge(0, 1, 0), edge(0, 0, maxW+1), edge(0, 1, 5)
	many := func(n int, e api.Edge) api.Graph { return repeated(n, api.MaxEdges+1, e) }
	cases := []struct {
		what string
		g    api.Graph
		want api.Fault
	}{
		{"N and too many edges", many(0, good), api.Range},
		{"N, too many edges and ends", many(far, edge(far, 0, 5)), api.Range},
		{"N and ends", of(0, edge(0, 0, 5)), api.Range},
		{"N and a weight", of(-1, weight), api.Range},
		{"too many edges and ends", many(2, ends), api.TooBig},
		{"too many edges and weights", many(2, weight), api.TooBig},
		{"too many edges, ends and weights", many(2, both), api.TooBig},
		{"ends, then a weight", of(2, ends, weight), api.NoNode},
		{"a weight, then ends", of(2, weight, ends), api.NoNode},
		{"a weight, good edges, then ends", of(2, weight, good, good, ends), api.NoNode},
		{"ends and a weight of one edge", of(2, good, both, good), api.NoNode},
		{"From alone and a weight", of(2, edge(0, 1, maxW+1), edge(2, 0, 5)), api.NoNode},
		{"equal ends and a weight", of(2, edge(0, 1, 0), edge(1, 1, 5)), api.NoNode},
		{"two weights", of(2, weight, edge(0, 1, maxW+1)), api.Range},
	}
	for _, c := range cases {
		checkRight(t, c.what, c.g, c.want)
	}
}

// P501: all graphs of a few nodes and two edges, around every limit of an edge.
func TestRightOfAllSmall(t *testing.T) {
	var edges []api.Edge
	for from := -1; from <= 3; from++ {
		for to := -1; to <= 3; to++ {
			for _, w := range []uint64{0, 1, maxW, maxW + 1} {
				edges = append(edges, edge(from, to, w))
			}
		}
	}
	for n := -1; n <= 3; n++ {
		noNode := func(v int) bool { return v < 0 || v >= n }
		for _, a := range edges {
			for _, b := range edges {
				want := api.OK
				switch {
				case n < 1:
					want = api.Range
				case noNode(a.From) || noNode(a.To) || a.From == a.To || noNode(b.From) || noNode(b.To) || b.From == b.To:
					want = api.NoNode
				case a.W == 0 || a.W == maxW+1 || b.W == 0 || b.W == maxW+1:
					want = api.Range
				}
				checkRight(t, "a small graph", of(n, a, b), want)
			}
		}
	}
}

// P502 (Node): the numbers just outside and far from them, of any graph.
func TestNode(t *testing.T) {
	for _, g := range allGraphs() {
		inside := []int{}
		if g.N > 0 {
			inside = []int{0, g.N / 2, g.N - 1}
		}
		for _, v := range inside {
			if !graph.Node(g, v) {
				t.Errorf("Node(%d) of %d: false", v, g.N)
			}
		}
		for _, v := range []int{-1, -2, math.MinInt, math.MinInt + 1, max(g.N, 0), math.MaxInt} {
			if graph.Node(g, v) {
				t.Errorf("Node(%d) of %d: true", v, g.N)
			}
		}
	}
	for v := -9; v < 9; v++ {
		if got := graph.Node(of(3), v); got != (v == 0 || v == 1 || v == 2) {
			t.Errorf("Node(%d) of 3: %t", v, got)
		}
		if graph.Node(of(-5), v) || graph.Node(of(0, edge(0, 1, 5)), v) {
			t.Errorf("Node(%d) of no nodes: true", v)
		}
	}
}

// P502 (Edge): the numbers just outside and far from them, of any graph.
func TestEdge(t *testing.T) {
	for _, g := range allGraphs() {
		for e := range g.E {
			if !graph.Edge(g, e) {
				t.Errorf("Edge(%d) of %d: false", e, len(g.E))
			}
		}
		for _, e := range []int{-1, -2, math.MinInt, math.MinInt + 1, len(g.E), len(g.E) + 1, math.MaxInt} {
			if graph.Edge(g, e) {
				t.Errorf("Edge(%d) of %d: true", e, len(g.E))
			}
		}
	}
	room := guardedEdges(of(2, edge(0, 1, 5)))
	if graph.Edge(api.Graph{N: 2, E: room.list}, 1) {
		t.Error("Edge(1) of 1 with spare capacity: true")
	}
}

// P502 (Clone): of any graph, and no memory is shared.
func TestClone(t *testing.T) {
	for _, g := range append(allGraphs(), api.Graph{N: 3, E: []api.Edge{}}) {
		edges := guardedEdges(g)
		original := api.Graph{N: g.N, E: edges.list}
		c := graph.Clone(original)
		checkGraph(t, "Clone", c, g)
		spoil(c.E, edge(-7, -8, 9))
		c.E = append(c.E, edge(1, 2, 3))
		edges.check(t, "Clone")

		c = graph.Clone(original)
		spoil(original.E, edge(-7, -8, 9))
		checkGraph(t, "Clone of what has changed since", c, g)
	}
}

// P502 (Same): graphs that are the same, of different memory.
func TestSame(t *testing.T) {
	for _, g := range allGraphs() {
		a, b := guardedEdges(g), guarded(g.E, edge(1, 2, 3))
		if !graph.Same(api.Graph{N: g.N, E: a.list}, api.Graph{N: g.N, E: b.list}) {
			t.Errorf("Same of equal graphs of %d and %d edges: false", g.N, len(g.E))
		}
		if !graph.Same(g, g) {
			t.Error("Same of a graph and itself: false")
		}
		a.check(t, "Same")
		b.check(t, "Same")
	}
	for _, n := range []int{math.MinInt, -1, 0, 1, 3, math.MaxInt} {
		empty := api.Graph{N: n, E: []api.Edge{}}
		if !graph.Same(of(n), empty) || !graph.Same(empty, of(n)) || !graph.Same(empty, api.Graph{N: n, E: ring(3, 3).E[:0]}) {
			t.Errorf("Same of no edges, nil and not: false")
		}
	}
}

// P502 (Same): graphs that differ.
func TestSameOfOthers(t *testing.T) {
	l := allGraphs()
	for i, a := range l {
		for k, b := range l {
			if got := graph.Same(a, b); got != equal(a, b) {
				t.Errorf("Same of the graphs %d and %d: %t", i, k, got)
			}
		}
	}
}

// P502 (Same): graphs that differ in one place.
func TestSameButOnePlace(t *testing.T) {
	differ := func(a, b api.Graph) {
		t.Helper()
		if graph.Same(a, b) || graph.Same(b, a) {
			t.Errorf("Same of N %d, %v and N %d, %v: true", a.N, a.E, b.N, b.E)
		}
	}
	for _, g := range []api.Graph{ring(3, 7), of(2, edge(0, 1, 5)), of(-3, edge(9, 9, 0), edge(-1, 4, math.MaxUint64))} {
		differ(g, api.Graph{N: g.N + 1, E: g.E})
		differ(g, api.Graph{N: -g.N, E: g.E})
		differ(g, api.Graph{N: g.N, E: g.E[1:]})
		differ(g, api.Graph{N: g.N, E: g.E[:len(g.E)-1]})
		differ(g, api.Graph{N: g.N})
		differ(g, api.Graph{N: g.N, E: append(slices.Clone(g.E), api.Edge{})})
		for i, e := range g.E {
			others := []api.Edge{
				edge(e.From+1, e.To, e.W), edge(e.From, e.To+1, e.W), edge(e.From, e.To, e.W+1),
				edge(e.To, e.From+1, e.W), edge(e.From, e.To, e.W+1<<32), {},
			}
			for _, o := range others {
				changed := api.Graph{N: g.N, E: slices.Clone(g.E)}
				changed.E[i] = o
				differ(g, changed)
			}
		}
	}
	differ(of(3, edge(0, 1, 5), edge(1, 2, 5)), of(3, edge(1, 2, 5), edge(0, 1, 5)))
	differ(of(2, edge(0, 1, 5)), of(2, edge(1, 0, 5)))
}

// P503 (Reverse): the edges, one by one, and no memory is shared.
func TestReverse(t *testing.T) {
	checkGraph(t, "Reverse", graph.Reverse(of(2, edge(0, 1, 5))), of(2, edge(1, 0, 5)))
	checkGraph(t, "Reverse", graph.Reverse(of(3, edge(0, 1, 7), edge(2, 1, 3), edge(0, 1, 7))), of(3, edge(1, 0, 7), edge(1, 2, 3), edge(1, 0, 7)))
	for _, g := range rightGraphs() {
		edges := guardedEdges(g)
		back := graph.Reverse(api.Graph{N: g.N, E: edges.list})
		if back.N != g.N || len(back.E) != len(g.E) {
			t.Fatalf("Reverse of %d and %d edges: %d and %d", g.N, len(g.E), back.N, len(back.E))
		}
		for i, e := range g.E {
			if back.E[i] != edge(e.To, e.From, e.W) {
				t.Errorf("the edge %d %v, reversed: %v", i, e, back.E[i])
			}
		}
		spoil(back.E, edge(-7, -8, 9))
		edges.check(t, "Reverse")
	}
}

// P503 (Total).
func TestTotal(t *testing.T) {
	cases := []struct {
		g    api.Graph
		want uint64
	}{
		{of(3, edge(0, 1, 5), edge(1, 2, 2)), 7},
		{of(1), 0},
		{api.Graph{N: 3, E: []api.Edge{}}, 0},
		{of(2, edge(1, 0, 1)), 1},
		{of(2, edge(1, 0, maxW)), maxW},
		{of(2, edge(0, 1, 7), edge(0, 1, 7)), 14},
		{of(2, edge(0, 1, maxW), edge(1, 0, maxW), edge(0, 1, 1)), 2*maxW + 1},
		{of(api.MaxNodes), 0},
		{ring(7, 100), 5050},
		{ring(api.MaxNodes, api.MaxEdges), api.MaxEdges * (api.MaxEdges + 1) / 2},
		{repeated(2, api.MaxEdges, edge(0, 1, 1)), api.MaxEdges},
		{repeated(2, api.MaxEdges, edge(0, 1, maxW)), api.MaxEdges * maxW},
	}
	for i, c := range cases {
		edges := guardedEdges(c.g)
		if got := graph.Total(api.Graph{N: c.g.N, E: edges.list}); got != c.want {
			t.Errorf("Total %d: %d, not %d", i, got, c.want)
		}
		edges.check(t, "Total")
	}
}

func checkDegrees(t *testing.T, g api.Graph, wantOut, wantIn []int) {
	t.Helper()
	edges := guardedEdges(g)
	out, in := graph.Degrees(api.Graph{N: g.N, E: edges.list})
	checkInts(t, "outgoing edges", out, wantOut)
	checkInts(t, "incoming edges", in, wantIn)
	edges.check(t, "Degrees")

	spoil(out, -7)
	checkInts(t, "incoming edges, when the others are changed", in, wantIn)
}

// P503 (Degrees).
func TestDegrees(t *testing.T) {
	checkDegrees(t, of(3, edge(0, 1, 5), edge(1, 2, 2)), []int{1, 1, 0}, []int{0, 1, 1})
	checkDegrees(t, of(1), []int{0}, []int{0})
	checkDegrees(t, api.Graph{N: 4, E: []api.Edge{}}, make([]int, 4), make([]int, 4))
	checkDegrees(t, of(2, edge(0, 1, 7), edge(0, 1, 7)), []int{2, 0}, []int{0, 2})
	checkDegrees(t, of(4, edge(0, 3, maxW), edge(0, 3, 1), edge(3, 0, 1), edge(1, 3, 1)), []int{2, 1, 0, 1}, []int{1, 0, 0, 3})
	checkDegrees(t, repeated(2, api.MaxEdges, edge(1, 0, maxW)), []int{0, api.MaxEdges}, []int{api.MaxEdges, 0})
	four := slices.Repeat([]int{4}, api.MaxNodes)
	checkDegrees(t, ring(api.MaxNodes, api.MaxEdges), four, four)
}

func checkWith(t *testing.T, g api.Graph, e int, w uint64, fault api.Fault) {
	t.Helper()
	edges := guardedEdges(g)
	got, f := graph.With(api.Graph{N: g.N, E: edges.list}, e, w)
	if f != fault {
		t.Errorf("With of %d edges, %d, %d: %d, not %d", len(g.E), e, w, f, fault)
	}
	want := api.Graph{}
	if fault == api.OK {
		want = api.Graph{N: g.N, E: slices.Clone(g.E)}
		want.E[e] = edge(g.E[e].From, g.E[e].To, w)
	}
	checkGraph(t, "With", got, want)
	if fault != api.OK && got.E != nil {
		t.Errorf("With of the fault %d: edges that are not nil", fault)
	}
	spoil(got.E, edge(-7, -8, 9))
	edges.check(t, "With")
}

// P504 (With): each edge of a graph, and the first and the last one of great ones.
func TestWith(t *testing.T) {
	two := of(3, edge(0, 1, 5), edge(1, 2, 2))
	weights := []uint64{1, 2, 5, maxW - 1, maxW}
	for _, w := range weights {
		checkWith(t, two, 0, w, api.OK)
		checkWith(t, two, 1, w, api.OK)
		checkWith(t, of(2, edge(0, 1, 7), edge(0, 1, 7)), 1, w, api.OK)
	}
	for _, g := range rightGraphs() {
		if len(g.E) == 0 {
			continue
		}
		for _, e := range []int{0, len(g.E) / 2, len(g.E) - 1} {
			checkWith(t, g, e, 1, api.OK)
			checkWith(t, g, e, maxW, api.OK)
			checkWith(t, g, e, g.E[e].W, api.OK)
		}
	}
}

// P504 (With): an edge that is not there, a weight out of its range, and both at once.
func TestWithFaults(t *testing.T) {
	two := of(3, edge(0, 1, 5), edge(1, 2, 2))
	wrongWeights := []uint64{0, maxW + 1, maxW + 2, 2 * maxW, math.MaxUint64}
	for _, g := range []api.Graph{two, of(1), of(2, edge(0, 1, 5)), ring(api.MaxNodes, api.MaxEdges)} {
		for _, e := range []int{len(g.E), len(g.E) + 1, -1, -2, math.MinInt, math.MaxInt, api.MaxEdges} {
			checkWith(t, g, e, 9, api.NoEdge)
			for _, w := range wrongWeights {
				checkWith(t, g, e, w, api.NoEdge)
			}
		}
		for e := range min(len(g.E), 3) {
			for _, w := range wrongWeights {
				checkWith(t, g, e, w, api.Range)
			}
		}
	}
}

// P504 (With): a wrong graph, also where its edge, or its weight, is wrong as well, and where the weight would mend it.
func TestWithWrongGraph(t *testing.T) {
	for _, g := range wrongGraphs() {
		for e := -1; e <= 2; e++ {
			for _, w := range []uint64{0, 5, maxW, maxW + 1} {
				checkWith(t, g, e, w, api.BadArg)
			}
		}
	}
}

func checkSub(t *testing.T, g api.Graph, keep []bool, want api.Graph, was []int) {
	t.Helper()
	edges, kept := guardedEdges(g), guarded(keep, true)
	part, nodes := graph.Sub(api.Graph{N: g.N, E: edges.list}, kept.list)
	checkGraph(t, "Sub", part, want)
	checkInts(t, "the nodes of Sub", nodes, was)
	spoil(part.E, edge(-7, -8, 9))
	checkInts(t, "the nodes of Sub, when the edges are changed", nodes, was)
	spoil(nodes, -7)
	edges.check(t, "Sub")
	kept.check(t, "Sub")
}

// P504 (Sub): none, all and some of the nodes kept.
func TestSub(t *testing.T) {
	two := of(3, edge(0, 1, 5), edge(1, 2, 2))
	checkSub(t, two, []bool{false, true, true}, of(2, edge(0, 1, 2)), []int{1, 2})
	checkSub(t, two, []bool{true, true, false}, of(2, edge(0, 1, 5)), []int{0, 1})
	checkSub(t, two, []bool{true, false, true}, of(2), []int{0, 2})
	checkSub(t, two, []bool{false, true, false}, of(1), []int{1})
	checkSub(t, two, []bool{false, false, true}, of(1), []int{2})
	checkSub(t, two, []bool{false, false, false}, of(0), nil)
	checkSub(t, two, []bool{true, true, true}, two, []int{0, 1, 2})
	checkSub(t, of(1), []bool{true}, of(1), []int{0})
	checkSub(t, of(1), []bool{false}, of(0), nil)

	// Edges from and to nodes that go, edges that are there twice, and edges from a higher node to a lower one.
	g := of(6, edge(5, 2, 1), edge(0, 5, 2), edge(2, 3, 3), edge(2, 5, 4), edge(2, 5, 4), edge(4, 0, maxW), edge(1, 4, 6), edge(5, 1, 7), edge(5, 2, 8))
	checkSub(t, g, []bool{false, false, true, false, false, true}, of(2, edge(1, 0, 1), edge(0, 1, 4), edge(0, 1, 4), edge(1, 0, 8)), []int{2, 5})
	checkSub(t, g, []bool{true, true, false, true, true, false}, of(4, edge(3, 0, maxW), edge(1, 3, 6)), []int{0, 1, 3, 4})
	checkSub(t, g, []bool{true, false, true, false, true, true}, of(4, edge(3, 1, 1), edge(0, 3, 2), edge(1, 3, 4), edge(1, 3, 4), edge(2, 0, maxW), edge(3, 1, 8)), []int{0, 2, 4, 5})
}

// P504 (Sub): all nodes of valid graphs, none, and each one but one.
func TestSubOfAll(t *testing.T) {
	for _, g := range rightGraphs() {
		keep := make([]bool, g.N)
		checkSub(t, g, keep, of(0), nil)
		all := make([]int, g.N)
		for v := range g.N {
			keep[v], all[v] = true, v
		}
		checkSub(t, g, keep, g, all)

		keep[0] = false
		rest := of(g.N - 1)
		for _, e := range g.E {
			if e.From != 0 && e.To != 0 {
				rest.E = append(rest.E, edge(e.From-1, e.To-1, e.W))
			}
		}
		checkSub(t, g, keep, rest, all[1:])
	}
}

// P504 (Sub): against what it is defined by, for all choices of nodes.
func TestSubOfAllChoices(t *testing.T) {
	for _, g := range rightGraphs() {
		if g.N > 7 {
			continue
		}
		for choice := range 1 << g.N {
			keep := make([]bool, g.N)
			var was []int
			for v := range g.N {
				keep[v] = choice>>v&1 == 1
				if keep[v] {
					was = append(was, v)
				}
			}
			want := of(len(was))
			for _, e := range g.E {
				from, to := slices.Index(was, e.From), slices.Index(was, e.To)
				if from >= 0 && to >= 0 {
					want.E = append(want.E, edge(from, to, e.W))
				}
			}
			checkSub(t, g, keep, want, was)
		}
	}
}

// P504 (Sub): a keep that is too short or too long, for which the results are empty.
func TestSubOfOtherLengths(t *testing.T) {
	for _, g := range rightGraphs() {
		for _, n := range []int{0, g.N - 1, g.N + 1, 2 * g.N, api.MaxNodes + 1} {
			if n == g.N {
				continue
			}
			checkSub(t, g, slices.Repeat([]bool{true}, n), api.Graph{}, nil)
			checkSub(t, g, make([]bool, n), api.Graph{}, nil)
		}
		checkSub(t, g, nil, api.Graph{}, nil)
	}
}

// P503, P504: a graph that is not valid, for which the results are zero.
func TestWrongGraphs(t *testing.T) {
	for i, g := range wrongGraphs() {
		edges := guardedEdges(g)
		g.E = edges.list
		if back := graph.Reverse(g); back.N != 0 || back.E != nil {
			t.Errorf("Reverse of the wrong graph %d: %v", i, back.N)
		}
		if sum := graph.Total(g); sum != 0 {
			t.Errorf("Total of the wrong graph %d: %d", i, sum)
		}
		if out, in := graph.Degrees(g); out != nil || in != nil {
			t.Errorf("Degrees of the wrong graph %d: %v and %v", i, head(out), head(in))
		}
		for _, n := range []int{0, 1, 2, 3, api.MaxNodes + 1} {
			if part, was := graph.Sub(g, slices.Repeat([]bool{true}, n)); part.N != 0 || part.E != nil || was != nil {
				t.Errorf("Sub of the wrong graph %d: %v and %v", i, part.N, head(was))
			}
		}
		edges.check(t, "a wrong graph")
	}
}

// P501: no argument is changed.
func TestRightChangesNothing(t *testing.T) {
	for _, g := range allGraphs() {
		edges := guardedEdges(g)
		g.E = edges.list
		graph.Right(g)
		graph.Node(g, 0)
		graph.Edge(g, 0)
		edges.check(t, "Right, Node and Edge")
	}
}

// P505: reversing twice yields the graph.
func TestReverseTwice(t *testing.T) {
	for _, g := range rightGraphs() {
		twice := graph.Reverse(graph.Reverse(g))
		checkGraph(t, "Reverse, twice", twice, g)
		if !graph.Same(twice, g) {
			t.Errorf("Same of a graph of %d edges, reversed twice: false", len(g.E))
		}
	}
}

// P505: the sums of all degrees are the number of edges, and reversing exchanges them.
func TestSumsOfDegrees(t *testing.T) {
	sum := func(l []int) int {
		n := 0
		for _, k := range l {
			n += k
		}
		return n
	}
	for _, g := range rightGraphs() {
		out, in := graph.Degrees(g)
		if sum(out) != len(g.E) || sum(in) != len(g.E) {
			t.Errorf("the sums are %d and %d, not %d", sum(out), sum(in), len(g.E))
		}
		backOut, backIn := graph.Degrees(graph.Reverse(g))
		checkInts(t, "outgoing edges, reversed", backOut, in)
		checkInts(t, "incoming edges, reversed", backIn, out)
	}
}
