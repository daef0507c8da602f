package gtext_test

import (
	"fmt"
	"math"
	"slices"
	"strconv"
	"strings"
	"testing"

	"highroad/api"
	"highroad/gtext"
)

const (
	maxW = uint64(api.MaxW)
	most = (api.MaxWords - 2) / 3 // as many edges as fit in MaxWords words
)

// edge writes an edge in short.
func edge(from, to int, w uint64) api.Edge {
	return api.Edge{From: from, To: to, W: w}
}

// of writes a graph in short.
func of(n int, l ...api.Edge) api.Graph {
	return api.Graph{N: n, E: l}
}

// repeated is a graph with n times the same edge.
func repeated(nodes, n int, e api.Edge) api.Graph {
	return api.Graph{N: nodes, E: slices.Repeat([]api.Edge{e}, n)}
}

// ring is a graph whose edges lead from each node to the next one, round and round, with weights that differ.
func ring(nodes, edges int) api.Graph {
	g := api.Graph{N: nodes}
	for i := range edges {
		g.E = append(g.E, edge(i%nodes, (i+1)%nodes, maxW-uint64(i)))
	}
	return g
}

// rightGraphs are valid graphs: small ones, ones whose edges are there twice, and ones at each limit.
func rightGraphs() []api.Graph {
	return []api.Graph{
		of(1),
		{N: 1, E: []api.Edge{}},
		of(2),
		of(10),
		of(api.MaxNodes),
		of(2, edge(0, 1, 5)),
		of(2, edge(1, 0, maxW)),
		of(3, edge(0, 1, 4), edge(1, 2, 5)),
		of(3, edge(0, 1, 4), edge(0, 1, 4), edge(2, 0, 1), edge(0, 1, 3), edge(1, 0, 4), edge(0, 1, 4)),
		of(12, edge(10, 11, 100), edge(11, 9, 99), edge(9, 10, 1020304050)),
		of(api.MaxNodes, edge(0, api.MaxNodes-1, 1), edge(api.MaxNodes-1, 0, maxW), edge(api.MaxNodes-1, 0, maxW)),
		ring(7, 100),
		ring(api.MaxNodes, most),
		repeated(2, most, edge(1, 0, maxW)),
	}
}

// longGraphs are valid graphs of more than MaxWords words.
func longGraphs() []api.Graph {
	return []api.Graph{
		ring(2, most+1),
		ring(api.MaxNodes, most+1),
		ring(7, api.MaxEdges-1),
		ring(api.MaxNodes, api.MaxEdges),
		repeated(2, api.MaxEdges, edge(0, 1, maxW)),
		repeated(api.MaxNodes, api.MaxEdges, edge(api.MaxNodes-1, api.MaxNodes-2, maxW)),
	}
}

// wrongGraphs are graphs that are not valid, each for one reason.
func wrongGraphs() []api.Graph {
	return []api.Graph{
		{},
		of(-1),
		of(math.MinInt),
		of(math.MaxInt),
		of(api.MaxNodes + 1),
		of(0, edge(0, 1, 5)),
		of(api.MaxNodes+1, edge(0, 1, 5)),
		repeated(2, api.MaxEdges+1, edge(0, 1, 5)),
		of(2, edge(0, 2, 5)),
		of(2, edge(2, 0, 5)),
		of(2, edge(-1, 0, 5)),
		of(2, edge(0, -1, 5)),
		of(2, edge(0, 1, 5), edge(1, 1, 5)),
		of(2, edge(0, 1, 0)),
		of(2, edge(0, 1, maxW+1)),
		of(2, edge(0, 1, 5), edge(1, 0, math.MaxUint64)),
		repeated(2, most+1, edge(0, 1, 0)), // also of too many words
		repeated(2, api.MaxEdges, edge(0, 0, 5)),
	}
}

// wordsOf are the words of a graph, written otherwise than by the package that is tested.
func wordsOf(g api.Graph) []string {
	l := []string{fmt.Sprint(g.N), fmt.Sprint(len(g.E))}
	for _, e := range g.E {
		l = append(l, fmt.Sprint(e.From), fmt.Sprint(e.To), fmt.Sprint(e.W))
	}
	return l
}

// textOf is the text of a graph, likewise.
func textOf(g api.Graph) string {
	var b strings.Builder
	fmt.Fprintf(&b, "graph %d %d\n", g.N, len(g.E))
	for _, e := range g.E {
		fmt.Fprintf(&b, "e %d %d %d\n", e.From, e.To, e.W)
	}
	return b.String()
}

// split writes a list of words in short.
func split(s string) []string {
	return strings.Fields(s)
}

func equal(a, b api.Graph) bool {
	return a.N == b.N && slices.Equal(a.E, b.E)
}

// head is the beginning of a list, for messages.
func head[T any](l []T) []T {
	return l[:min(len(l), 12)]
}

// guard is an argument with spare capacity, and what all of its memory has to be.
type guard[T comparable] struct{ list, was []T }

// guarded copies a list to memory with spare capacity, full of what is to stay.
func guarded[T comparable](l []T, filling T) guard[T] {
	whole := append(slices.Clone(l), filling, filling, filling, filling)
	return guard[T]{whole[:len(l)], slices.Clone(whole)}
}

func (g guard[T]) check(t *testing.T, what string) {
	t.Helper()
	if whole := g.list[:len(g.was)]; !slices.Equal(whole, g.was) {
		t.Errorf("%s: an argument became %v, from %v", what, head(whole), head(g.was))
	}
}

// spoil overwrites all memory of a list, its spare capacity as well.
func spoil[T any](l []T, with T) {
	l = l[:cap(l)]
	for i := range l {
		l[i] = with
	}
}

// checkWords calls Words twice, and spoils what it returned in between.
func checkWords(t *testing.T, g api.Graph, want []string, fault api.Fault) {
	t.Helper()
	edges := guarded(g.E, edge(77, 78, 79))
	for range 2 {
		got, f := gtext.Words(api.Graph{N: g.N, E: edges.list})
		if !slices.Equal(got, want) || f != fault || f != api.OK && got != nil {
			t.Errorf("Words of N %d, edges %v: %d words %q and %d, not %d words %q and %d", g.N, head(g.E), len(got), head(got), f, len(want), head(want), fault)
		}
		spoil(got, "spoilt")
		edges.check(t, "Words")
	}
}

// P601 (Words): each word of it, from graphs without edges to those of just MaxWords words.
func TestWords(t *testing.T) {
	checkWords(t, of(2, edge(0, 1, 5)), split("2 1 0 1 5"), api.OK)
	checkWords(t, of(1), split("1 0"), api.OK)
	checkWords(t, api.Graph{N: 3, E: []api.Edge{}}, split("3 0"), api.OK)
	checkWords(t, of(3, edge(0, 1, 4), edge(1, 2, 5)), split("3 2 0 1 4 1 2 5"), api.OK)
	checkWords(t, of(3, edge(2, 0, 7), edge(2, 0, 7), edge(0, 2, 7)), split("3 3 2 0 7 2 0 7 0 2 7"), api.OK)
	checkWords(t, of(api.MaxNodes), split("4096 0"), api.OK)
	checkWords(t, of(api.MaxNodes, edge(4095, 10, maxW), edge(0, 4095, maxW-1)), split("4096 2 4095 10 4294967296 0 4095 4294967295"), api.OK)
	for _, g := range rightGraphs() {
		checkWords(t, g, wordsOf(g), api.OK)
	}
}

// P601 (Words): the greatest numbers of edges, and the first one that is too great.
func TestWordsTooBig(t *testing.T) {
	for _, n := range []int{most - 1, most} {
		g := ring(5, n)
		checkWords(t, g, wordsOf(g), api.OK)
	}
	for _, g := range longGraphs() {
		checkWords(t, g, nil, api.TooBig)
	}
}

// P601 (Words): a graph that is not valid, also where its words would be too many.
func TestWordsOfWrongGraphs(t *testing.T) {
	for _, g := range wrongGraphs() {
		checkWords(t, g, nil, api.BadArg)
	}
}

func checkPrint(t *testing.T, g api.Graph, want string, fault api.Fault) {
	t.Helper()
	edges := guarded(g.E, edge(77, 78, 79))
	if got, f := gtext.Print(api.Graph{N: g.N, E: edges.list}); got != want || f != fault {
		t.Errorf("Print of N %d, edges %v: %.80q and %d, not %.80q and %d", g.N, head(g.E), got, f, want, fault)
	}
	edges.check(t, "Print")
}

// P601 (Print): each line of it, also of graphs whose words would be too many.
func TestPrint(t *testing.T) {
	checkPrint(t, of(2, edge(0, 1, 5)), "graph 2 1\ne 0 1 5\n", api.OK)
	checkPrint(t, of(1), "graph 1 0\n", api.OK)
	checkPrint(t, api.Graph{N: 3, E: []api.Edge{}}, "graph 3 0\n", api.OK)
	checkPrint(t, of(3, edge(2, 0, 7), edge(2, 0, 7), edge(0, 1, 1)), "graph 3 3\ne 2 0 7\ne 2 0 7\ne 0 1 1\n", api.OK)
	checkPrint(t, of(api.MaxNodes, edge(4095, 0, maxW)), "graph 4096 1\ne 4095 0 4294967296\n", api.OK)
	for _, g := range append(rightGraphs(), longGraphs()...) {
		checkPrint(t, g, textOf(g), api.OK)
	}
}

// P601 (Print): a graph that is not valid.
func TestPrintOfWrongGraphs(t *testing.T) {
	for _, g := range wrongGraphs() {
		checkPrint(t, g, "", api.BadArg)
	}
}

// found is what Parse and Read return.
type found struct {
	g     api.Graph
	at    int
	fault api.Fault
}

// foundOf makes one of the results of a call.
func foundOf(g api.Graph, at int, fault api.Fault) found {
	return found{g, at, fault}
}

// is reports whether both are equal, and whether there are no edges at all beside a fault.
func (f found) is(want found) bool {
	return equal(f.g, want.g) && f.at == want.at && f.fault == want.fault && (f.fault == api.OK || f.g.E == nil)
}

func (f found) String() string {
	return fmt.Sprintf("N %d, %d edges %v, %d and %d", f.g.N, len(f.g.E), head(f.g.E), f.at, f.fault)
}

// checkParse calls Parse twice, and spoils what it returned in between.
func checkParse(t *testing.T, l []string, g api.Graph, at int, fault api.Fault) {
	t.Helper()
	words, want := guarded(l, "1"), found{g, at, fault}
	for range 2 {
		got := foundOf(gtext.Parse(words.list))
		if !got.is(want) {
			t.Errorf("Parse of %d words %q: %v, not %v", len(l), head(l), got, want)
		}
		spoil(got.g.E, edge(-7, -8, 9))
		words.check(t, "Parse")
	}
}

// checkWrong is checkParse of words of which the one at that place is wrong.
func checkWrong(t *testing.T, words string, at int, fault api.Fault) {
	t.Helper()
	checkParse(t, split(words), api.Graph{}, at, fault)
}

// P602: words of valid graphs, also more than MaxWords of them.
func TestParse(t *testing.T) {
	checkParse(t, split("2 1 0 1 5"), of(2, edge(0, 1, 5)), 0, api.OK)
	checkParse(t, split("1 0"), of(1), 0, api.OK)
	checkParse(t, split("4096 0"), of(4096), 0, api.OK)
	checkParse(t, split("3 3 2 0 7 2 0 7 0 1 4294967296"), of(3, edge(2, 0, 7), edge(2, 0, 7), edge(0, 1, maxW)), 0, api.OK)
	checkParse(t, split("4096 1 4095 0 1"), of(4096, edge(4095, 0, 1)), 0, api.OK)
	for _, g := range append(rightGraphs(), longGraphs()...) {
		checkParse(t, wordsOf(g), g, 0, api.OK)
	}
}

// P602: too few words, none at all, and one word, or several, too many.
func TestParseOfOtherLengths(t *testing.T) {
	checkParse(t, nil, api.Graph{}, 0, api.Syntax)
	checkParse(t, []string{}, api.Graph{}, 0, api.Syntax)
	checkWrong(t, "2 1 0", 3, api.Syntax)
	for _, g := range rightGraphs() {
		l := wordsOf(g)
		for n := range min(len(l), 20) {
			checkParse(t, l[:n], api.Graph{}, n, api.Syntax)
			checkParse(t, l[:len(l)-1-n], api.Graph{}, len(l)-1-n, api.Syntax)
		}
		for _, more := range []string{"0", "1", "5", "x", "", " ", "0 1 5", strings.Repeat("9", 30)} {
			checkParse(t, append(slices.Clone(l), more), api.Graph{}, len(l), api.Syntax)
			checkParse(t, append(slices.Clone(l), "0", "1", "5", more), api.Graph{}, len(l), api.Syntax)
		}
	}
	for _, g := range longGraphs() {
		l := wordsOf(g)
		checkParse(t, l[:api.MaxWords], api.Graph{}, api.MaxWords, api.Syntax)
		checkParse(t, l[:len(l)-1], api.Graph{}, len(l)-1, api.Syntax)
		checkParse(t, append(l, "0"), api.Graph{}, len(l), api.Syntax)
	}
}

// notNumbers are words that are no numbers, among them numbers that exceed 64 bits.
func notNumbers() []string {
	return []string{
		"", " ", "+1", "-1", "-0", "01", "00", "1 ", " 1", "1\n", "\t", "x", "1x", "x1", "1.0", "1e1", "0x1", "1_0", "1/1",
		"#", "e", "graph", "\x00", "\xff", "\u0661",
		"18446744073709551616", "18446744073709551617", "99999999999999999999", "1" + strings.Repeat("0", 300),
	}
}

// P602: a word that is not a number, in each place.
func TestParseOfNotNumbers(t *testing.T) {
	right := split("3 4 0 1 2 1 2 1 2 0 1 0 2 4294967296")
	for i := range right {
		for _, s := range notNumbers() {
			l := slices.Clone(right)
			l[i] = s
			checkParse(t, l, api.Graph{}, i, api.Syntax)
			checkParse(t, l[:i+1], api.Graph{}, i, api.Syntax)
		}
	}
}

// P602: each number just within its range, and just outside and far from it.
func TestParseOfLimits(t *testing.T) {
	checkParse(t, split("1 0"), of(1), 0, api.OK)
	checkParse(t, split("4096 0"), of(4096), 0, api.OK)
	for _, n := range []string{"0", "4097", "4294967297", "9223372036854775808", "18446744073709551615"} {
		checkWrong(t, n+" 0", 0, api.Range)
		checkWrong(t, n+" 1 0 1 5", 0, api.Range)
	}
	checkParse(t, split("3 1 0 1 5"), of(3, edge(0, 1, 5)), 0, api.OK)
	checkParse(t, split("3 1 2 1 5"), of(3, edge(2, 1, 5)), 0, api.OK)
	checkParse(t, split("3 1 1 0 5"), of(3, edge(1, 0, 5)), 0, api.OK)
	checkParse(t, split("3 1 1 2 5"), of(3, edge(1, 2, 5)), 0, api.OK)
	for _, v := range []string{"3", "4", "4096", "4294967296", "9223372036854775807", "9223372036854775808", "18446744073709551615"} {
		checkWrong(t, "3 1 "+v+" 1 5", 2, api.NoNode)
		checkWrong(t, "3 1 1 "+v+" 5", 3, api.NoNode)
		checkWrong(t, "3 2 0 1 5 "+v+" 1 5", 5, api.NoNode)
		checkWrong(t, "3 2 0 1 5 1 "+v+" 5", 6, api.NoNode)
	}
	for _, v := range []string{"0", "1", "2"} {
		checkWrong(t, "3 1 "+v+" "+v+" 5", 3, api.NoNode)
	}
	checkParse(t, split("4096 1 4095 4094 5"), of(4096, edge(4095, 4094, 5)), 0, api.OK)
	checkParse(t, split("4096 1 4094 4095 5"), of(4096, edge(4094, 4095, 5)), 0, api.OK)
	checkWrong(t, "4096 1 4096 0 5", 2, api.NoNode)
	checkWrong(t, "4096 1 0 4096 5", 3, api.NoNode)
	checkParse(t, split("2 2 0 1 1 0 1 4294967296"), of(2, edge(0, 1, 1), edge(0, 1, maxW)), 0, api.OK)
	for _, w := range []string{"0", "4294967297", "8589934592", "9223372036854775809", "18446744073709551615"} {
		checkWrong(t, "2 1 0 1 "+w, 4, api.Range)
		checkWrong(t, "2 2 0 1 5 1 0 "+w, 7, api.Range)
	}
}

// P602: the number of edges at its limit and beyond it, also where fewer words, or a wrong one, follow.
func TestParseOfNumbersOfEdges(t *testing.T) {
	full := ring(3, api.MaxEdges)
	checkParse(t, wordsOf(full), full, 0, api.OK)
	over := wordsOf(ring(3, api.MaxEdges+1))
	checkParse(t, over, api.Graph{}, 1, api.TooBig)
	for _, s := range []string{"16385", "16386", "32768", "4294967296", "9223372036854775808", "18446744073709551615"} {
		checkWrong(t, "2 "+s, 1, api.TooBig)
		checkWrong(t, "2 "+s+" 0 1 5", 1, api.TooBig)
		checkWrong(t, "2 "+s+" x 0 0", 1, api.TooBig)
		checkWrong(t, "1 "+s+" 0 1 5", 1, api.TooBig)
	}
	checkWrong(t, "2 16384", 2, api.Syntax)
	checkWrong(t, "2 16384 0 1 5", 5, api.Syntax)
	checkWrong(t, "2 0 0 1 5", 2, api.Syntax)
	checkWrong(t, "2 1 0 1 5 0 1 5", 5, api.Syntax)
	checkWrong(t, "2 2 0 1 5", 5, api.Syntax)
}

// P602: two faults, of which the one of the word ahead is told, and words that lack behind a wrong one.
func TestParseOrder(t *testing.T) {
	checkWrong(t, "2 1 0 0 5", 3, api.NoNode)
	checkWrong(t, "0 x", 0, api.Range)
	checkWrong(t, "x 99999", 0, api.Syntax)
	checkWrong(t, "0 99999", 0, api.Range)
	checkWrong(t, "4097", 0, api.Range)
	checkWrong(t, "0", 0, api.Range)
	checkWrong(t, "2 16385 0 0 0", 1, api.TooBig)
	checkWrong(t, "2 x 0 0 0", 1, api.Syntax)
	checkWrong(t, "2 2 2", 2, api.NoNode)
	checkWrong(t, "2 2 2 x", 2, api.NoNode)
	checkWrong(t, "2 2 x 2 0", 2, api.Syntax)
	checkWrong(t, "2 2 2 2 0", 2, api.NoNode)
	checkWrong(t, "2 2 1 1", 3, api.NoNode)
	checkWrong(t, "2 2 1 1 0", 3, api.NoNode)
	checkWrong(t, "2 2 1 2 x", 3, api.NoNode)
	checkWrong(t, "2 2 1 x 0", 3, api.Syntax)
	checkWrong(t, "2 2 1 0 0", 4, api.Range)
	checkWrong(t, "2 2 1 0 0 x", 4, api.Range)
	checkWrong(t, "2 2 1 0 x 2", 4, api.Syntax)
	checkWrong(t, "2 2 1 0 0 0 0 0", 4, api.Range)
	checkWrong(t, "2 2 1 0 5 0 0 0 7", 6, api.NoNode)
	checkWrong(t, "2 1 1 0 0 7", 4, api.Range)
	checkWrong(t, "1 1 0 0 5", 3, api.NoNode)
	checkWrong(t, "1 1 0 1 5", 3, api.NoNode)
	checkWrong(t, "1 1 1 0 5", 2, api.NoNode)
}

// parsed is Parse as the chapter says it, place by place.
func parsed(l []string) (api.Graph, int, api.Fault) {
	var g api.Graph
	edges, from, to := 0, 0, 0
	for i := 0; ; i++ {
		whole := i >= 2 && i == 2+3*edges
		switch {
		case whole && i == len(l):
			return g, 0, api.OK
		case whole || i == len(l):
			return api.Graph{}, i, api.Syntax
		}
		n, err := strconv.ParseUint(l[i], 10, 64)
		if err != nil || l[i] != strconv.FormatUint(n, 10) {
			return api.Graph{}, i, api.Syntax
		}
		fault := api.OK
		switch {
		case i == 0:
			if g.N = int(n); n == 0 || n > api.MaxNodes {
				fault = api.Range
			}
		case i == 1:
			if edges = int(n); n > api.MaxEdges {
				fault = api.TooBig
			}
		case i%3 == 2:
			if from = int(n); n >= uint64(g.N) {
				fault = api.NoNode
			}
		case i%3 == 0:
			if to = int(n); n >= uint64(g.N) || to == from {
				fault = api.NoNode
			}
		case n == 0 || n > api.MaxW:
			fault = api.Range
		default:
			g.E = append(g.E, edge(from, to, n))
		}
		if fault != api.OK {
			return api.Graph{}, i, fault
		}
	}
}

// lists calls f for all lists of at most n of the elements.
func lists(elements []string, n int, f func(l []string)) {
	var extend func(l []string)
	extend = func(l []string) {
		f(l)
		if len(l) == n {
			return
		}
		for _, s := range elements {
			extend(append(l, s))
		}
	}
	extend(make([]string, 0, n))
}

// P602: all short lists of a few words.
func TestParseOfAllShort(t *testing.T) {
	right := 0
	check := func(l []string) {
		want := foundOf(parsed(l))
		if got := foundOf(gtext.Parse(l)); !got.is(want) {
			t.Errorf("Parse of %q: %v, not %v", l, got, want)
		}
		if want.fault == api.OK {
			right++
		}
	}
	lists(split("0 1 2 3 x 4294967296 4294967297"), 6, check)
	lists(split("0 1 2"), 9, check)
	lists([]string{"2", "1", "", "16384", "16385", "4096", "4097", "18446744073709551616"}, 5, check)
	if right < 20 {
		t.Errorf("only %d lists were graphs", right)
	}
}

// checkRead calls Read twice, and spoils what it returned in between.
func checkRead(t *testing.T, s string, g api.Graph, at int, fault api.Fault) {
	t.Helper()
	want := found{g, at, fault}
	for range 2 {
		got := foundOf(gtext.Read(s))
		if !got.is(want) {
			t.Errorf("Read of %.80q: %v, not %v", s, got, want)
		}
		spoil(got.g.E, edge(-7, -8, 9))
	}
}

// checkLine is checkRead of a text of which the line of that number is wrong.
func checkLine(t *testing.T, s string, at int, fault api.Fault) {
	t.Helper()
	checkRead(t, s, api.Graph{}, at, fault)
}

// P603: texts of valid graphs, of any length.
func TestRead(t *testing.T) {
	checkRead(t, "graph 2 1\ne 0 1 5\n", of(2, edge(0, 1, 5)), 0, api.OK)
	checkRead(t, "graph 1 0\n", of(1), 0, api.OK)
	checkRead(t, "graph 4096 1\ne 4095 0 4294967296\n", of(4096, edge(4095, 0, maxW)), 0, api.OK)
	checkRead(t, "graph 3 3\ne 2 0 7\ne 2 0 7\ne 0 1 1\n", of(3, edge(2, 0, 7), edge(2, 0, 7), edge(0, 1, 1)), 0, api.OK)
	for _, g := range append(rightGraphs(), longGraphs()...) {
		checkRead(t, textOf(g), g, 0, api.OK)
	}
}

// P603: what token.Words and token.Lines let pass: blanks around words, and carriage returns ahead of line feeds.
func TestReadOfBlanks(t *testing.T) {
	g := of(2, edge(0, 1, 5))
	checkRead(t, "graph 2 1\r\ne 0 1 5\r\n", g, 0, api.OK)
	checkRead(t, "\r\n#\r\ngraph 2 1\r\n\r\ne 0 1 5\n\r\n", g, 0, api.OK)
	checkRead(t, "  graph\t2   1\t\n\te \t 0 1 5  \n", g, 0, api.OK)
	checkLine(t, "graph 2 1\r\r\ne 0 1 5\n", 1, api.Syntax)
	checkLine(t, "graph 2 1\n\re 0 1 5\n", 2, api.Syntax)
	checkLine(t, "graph 2 1\ne 0 1\r5\n", 2, api.Syntax)
	checkLine(t, "\r\r\ngraph 2 1\ne 0 1 5\n", 1, api.Syntax)
	checkLine(t, "graph 2 1\re 0 1 5\r", 1, api.Syntax)
}

// P603: empty lines, and lines that begin with #, ahead of, between and behind the others, and how they are counted.
func TestReadOfIgnoredLines(t *testing.T) {
	g := of(3, edge(0, 1, 5), edge(2, 0, 7))
	for _, ignored := range []string{
		"\n", "\r\n", "#\n", "#\r\n", "# note\n", "#graph 9 9\n", "#e 0 0 0\n", "##\n", "# \t \n", "\n\n\n", "#\n\n# a\n#b\n",
		"#\x00\n", "# \xff\u00e4\r\r\n", "#" + strings.Repeat("x", api.MaxLine) + "\n", "#" + strings.Repeat(" x", api.MaxWords) + "\n",
	} {
		n := strings.Count(ignored, "\n")
		checkRead(t, ignored+"graph 3 2\ne 0 1 5\ne 2 0 7\n", g, 0, api.OK)
		checkRead(t, "graph 3 2\n"+ignored+"e 0 1 5\ne 2 0 7\n", g, 0, api.OK)
		checkRead(t, "graph 3 2\ne 0 1 5\n"+ignored+"e 2 0 7\n", g, 0, api.OK)
		checkRead(t, "graph 3 2\ne 0 1 5\ne 2 0 7\n"+ignored, g, 0, api.OK)
		checkRead(t, ignored+"graph 3 2\n"+ignored+"e 0 1 5\n"+ignored+"e 2 0 7\n"+ignored, g, 0, api.OK)

		checkLine(t, ignored, n+1, api.Syntax)
		checkLine(t, ignored+"graph 0 2\n", n+1, api.Range)
		checkLine(t, ignored+"graph 3 2\n"+ignored+"e 1 1 5\n", 2*n+2, api.NoNode)
		checkLine(t, ignored+"graph 3 2\n"+ignored+"e 0 1 5\n"+ignored, 3*n+3, api.Syntax)
		checkLine(t, ignored+"graph 3 1\n"+ignored+"e 0 1 5\n"+ignored+"e 2 0 7\n", 3*n+3, api.Syntax)
		checkLine(t, ignored+"graph 3 1\n"+ignored+"e 0 1 5\n"+ignored+"x", 3*n+3, api.Syntax)
	}
}

// P603: lines that are not empty, and do not begin with #, though they have no word but that.
func TestReadOfLinesThatAreNotIgnored(t *testing.T) {
	for _, line := range []string{" ", "\t", " #", "\t# note", "\\#", "x#", "\ufeff#"} {
		checkLine(t, line+"\ngraph 2 1\ne 0 1 5\n", 1, api.Syntax)
		checkLine(t, "graph 2 1\n"+line+"\ne 0 1 5\n", 2, api.Syntax)
		checkLine(t, "graph 2 1\ne 0 1 5\n"+line+"\n", 3, api.Syntax)
	}
	checkLine(t, "graph 2 1 # note\ne 0 1 5\n", 1, api.Syntax)
	checkLine(t, "graph 2 1\ne 0 1 5 #\n", 2, api.Syntax)
}

// P603: lines that token.Words rejects: for a byte, for their length, and for their number of words.
func TestReadOfRejectedLines(t *testing.T) {
	long := func(line string, n int) string { return line + strings.Repeat(" ", n-len(line)) }
	g := of(2, edge(0, 1, 5))
	checkRead(t, long("graph 2 1", api.MaxLine)+"\n"+long("e 0 1 5", api.MaxLine)+"\r\n", g, 0, api.OK)
	checkLine(t, long("graph 2 1", api.MaxLine+1)+"\ne 0 1 5\n", 1, api.Syntax)
	checkLine(t, "graph 2 1\n"+long("e 0 1 5", api.MaxLine+1)+"\n", 2, api.Syntax)
	checkLine(t, "graph 2 1\ne 0 1 5\n"+long("e 0 1 5", api.MaxLine+1)+"\n", 3, api.Syntax)
	many := strings.Repeat(" 1", api.MaxWords)
	checkLine(t, "graph"+many+"\n", 1, api.Syntax)
	checkLine(t, "graph 2 1\ne"+many+"\n", 2, api.Syntax)
	for _, b := range []string{"\x00", "\x0b", "\x1f", "\x7f", "\x80", "\xff", "\u00a0", "\r"} {
		for _, line := range []string{b + "x", "e 0 1 5" + b + "x", "e 0 1" + b + "5", b + " e 0 1 5", "e 0 0 " + b + "x"} {
			checkLine(t, line+"\n", 1, api.Syntax)
			checkLine(t, "graph 2 1\n"+line+"\n", 2, api.Syntax)
			checkLine(t, "graph 2 1\ne 0 1 5\n"+line+"\n", 3, api.Syntax)
		}
		checkLine(t, "graph 0 0 "+b+"x\n", 1, api.Syntax)
		checkLine(t, "graph"+b+"2 1\n", 1, api.Syntax)
	}
}

// P603: a first line that is no line graph: of another name, or of too few or too many words.
func TestReadOfWrongHeads(t *testing.T) {
	for _, line := range []string{
		"x", "e", "e 0 1 5", "graph", "graph 2", "graph 2 1 0", "graph 2 1 e 0 1 5", "Graph 2 1", "GRAPH 2 1", "graphs 2 1", "grap 2 1",
		"2 1", "2 1 0", "1 graph 2", "\"graph\" 2 1", "graph2 1", "graph2 1 1", "graph, 2 1", "e 2 1", "graph 2,1",
		"graph 0", "graph x", "graph 0 0 0", "graph x 0 0", "graph 4097 99999 1", // a wrong word is told behind the form of the line
	} {
		checkLine(t, line+"\n", 1, api.Syntax)
		checkLine(t, line+"\ngraph 2 1\ne 0 1 5\n", 1, api.Syntax)
		checkLine(t, "# note\n\n"+line+"\ngraph 2 1\ne 0 1 5\n", 3, api.Syntax)
	}
}

// P603: a line that is no line e where that is required.
func TestReadOfWrongEdges(t *testing.T) {
	for _, line := range []string{
		"x", "graph 2 2", "graph 2 1 5", "E 0 1 5", "e", "e 0", "e 0 1", "e 0 1 5 9", "e 0 1 5 e 0 1 5", "e0 1 5", "e0 0 1 5", "ee 0 1 5",
		"0 1 5", "0 e 1 5", "0 1 5 9", "edge 0 1 5", "e 0,1,5", "-e 0 1 5",
		"e 0 0", "e 9", "e x", "e 9 9 0 0", "e x x x x", "e 0 1 0 1", // a wrong word is told behind the form of the line
	} {
		checkLine(t, "graph 2 1\n"+line+"\n", 2, api.Syntax)
		checkLine(t, "graph 2 2\n"+line+"\ne 0 1 5\n", 2, api.Syntax)
		checkLine(t, "graph 2 2\ne 0 1 5\n"+line+"\n", 3, api.Syntax)
		checkLine(t, "graph 2 2\ne 0 1 5\n#\n"+line+"\nx\n", 4, api.Syntax)
		checkLine(t, "graph 2 1\ne 0 1 5\n"+line+"\n", 3, api.Syntax)
	}
}

// P603: lines e too many and too few, also where the line too many has a wrong word.
func TestReadOfOtherNumbersOfLines(t *testing.T) {
	checkLine(t, "graph 2 1\n", 2, api.Syntax)
	checkLine(t, "graph 2 2\ne 0 1 5\n", 3, api.Syntax)
	checkLine(t, "graph 2 16384\n", 2, api.Syntax)
	checkLine(t, "graph 2 0\ne 0 1 5\n", 2, api.Syntax)
	checkLine(t, "graph 2 0\ne 0 0 5\n", 2, api.Syntax)
	checkLine(t, "graph 2 1\ne 0 1 5\ne 0 1 5\n", 3, api.Syntax)
	checkLine(t, "graph 2 1\ne 0 1 5\ne 9 9 0\n", 3, api.Syntax)
	checkLine(t, "graph 2 1\ne 0 1 5\ne 0 1 5\ne 0 1 5\n", 3, api.Syntax)
	for _, g := range append(rightGraphs(), longGraphs()...) {
		s := textOf(g)
		checkLine(t, s+"e 0 1 5\n", len(g.E)+2, api.Syntax)
		checkLine(t, s+s, len(g.E)+2, api.Syntax)
		if len(g.E) > 0 {
			last := strings.LastIndex(s[:len(s)-1], "\n") + 1
			checkLine(t, s[:last], len(g.E)+1, api.Syntax)
		}
	}
}

// P603: texts whose last line is not terminated, and a text without any line.
func TestReadOfRests(t *testing.T) {
	checkLine(t, "", 1, api.Syntax)
	checkLine(t, "\n", 2, api.Syntax)
	checkLine(t, "# note\n", 2, api.Syntax)
	for _, rest := range []string{"x", " ", "\t", "\r", "#", "# note", "e 0 1 5", "graph 2 1", "graph 1 0", "\x00", strings.Repeat("x", api.MaxLine+1)} {
		checkLine(t, rest, 1, api.Syntax)
		checkLine(t, "\n"+rest, 2, api.Syntax)
		checkLine(t, "graph 2 1\n"+rest, 2, api.Syntax)
		checkLine(t, "graph 2 1\ne 0 1 5\n"+rest, 3, api.Syntax)
		checkLine(t, "graph 2 1\ne 0 1 5\n\n"+rest, 4, api.Syntax)
		checkLine(t, "graph 2 1\ne 0 1 0\n"+rest, 2, api.Range)
	}
	g := ring(3, 20)
	s := textOf(g)
	for n := range len(s) {
		checkLine(t, s[:n], strings.Count(s[:n], "\n")+1, api.Syntax)
	}
}

// P603: the words behind the first one, in order: the fault of each, and the first one of two in a line.
func TestReadOfWrongWords(t *testing.T) {
	cases := []struct {
		line  string
		fault api.Fault
	}{
		{"e 0 1 0", api.Range}, {"e 0 1 4294967297", api.Range}, {"e 0 1 18446744073709551615", api.Range},
		{"e 0 0 5", api.NoNode}, {"e 1 1 5", api.NoNode}, {"e 2 1 5", api.NoNode}, {"e 0 2 5", api.NoNode},
		{"e 18446744073709551615 1 5", api.NoNode}, {"e 0 9223372036854775808 5", api.NoNode},
		{"e 0 0 0", api.NoNode}, {"e 0 2 x", api.NoNode}, {"e 2 x 0", api.NoNode}, {"e 2 2 0", api.NoNode}, {"e 1 0 x", api.Syntax},
		{"e x 2 0", api.Syntax}, {"e 0 x 0", api.Syntax}, {"e 0 1 x", api.Syntax}, {"e 0 1 #", api.Syntax}, {"e e e e", api.Syntax},
		{"e 0 1 18446744073709551616", api.Syntax}, {"e 18446744073709551616 1 5", api.Syntax}, {"e 0 01 5", api.Syntax},
		{"e 0 1 05", api.Syntax}, {"e 0 1 +5", api.Syntax}, {"e -1 0 5", api.Syntax}, {"e 0 1 -5", api.Syntax}, {"e 0 1 5.0", api.Syntax},
	}
	for _, c := range cases {
		checkLine(t, "graph 2 1\n"+c.line+"\n", 2, c.fault)
		checkLine(t, "graph 2 3\ne 0 1 5\n#\n"+c.line+"\ne 0 1 5\n", 4, c.fault)
		checkLine(t, "graph 2 2\ne 0 1 5\n"+c.line+"\ne 0 1 5\nx", 3, c.fault)
		checkLine(t, "graph 2 9\n"+c.line+"\nx\n", 2, c.fault)
	}
	heads := []struct {
		line  string
		fault api.Fault
	}{
		{"graph 0 0", api.Range}, {"graph 4097 0", api.Range}, {"graph 18446744073709551615 0", api.Range}, {"graph 0 x", api.Range}, {"graph 4097 16385", api.Range},
		{"graph 2 16385", api.TooBig}, {"graph 4096 16385", api.TooBig}, {"graph 1 18446744073709551615", api.TooBig},
		{"graph x 0", api.Syntax}, {"graph x 16385", api.Syntax}, {"graph 2 x", api.Syntax}, {"graph -1 0", api.Syntax}, {"graph 02 1", api.Syntax}, {"graph 2 +1", api.Syntax},
		{"graph 18446744073709551616 0", api.Syntax}, {"graph 2 18446744073709551616", api.Syntax}, {"graph graph graph", api.Syntax},
	}
	for _, c := range heads {
		checkLine(t, c.line+"\n", 1, c.fault)
		checkLine(t, "#\n\n"+c.line+"\ne 0 1 5\nx", 3, c.fault)
	}
}

// P603: two wrong lines, of which the first one is told, whatever is wrong with it.
func TestReadOrder(t *testing.T) {
	wrong := []struct {
		line  string
		fault api.Fault
	}{{"e 0 1 0", api.Range}, {"e 1 1 5", api.NoNode}, {"e 0 1 x", api.Syntax}, {"e 0 1", api.Syntax}, {"x", api.Syntax}, {"e 0 \x00 5", api.Syntax}}
	for _, a := range wrong {
		for _, b := range wrong {
			checkLine(t, "graph 2 2\n"+a.line+"\n"+b.line+"\n", 2, a.fault)
			checkLine(t, "graph 2 2\n"+a.line+"\ne 0 1 5\n"+b.line+"\nx", 2, a.fault)
			checkLine(t, "graph 2 3\ne 0 1 5\n"+a.line+"\n#\n"+b.line, 3, a.fault)
		}
		checkLine(t, "graph 0 1\n"+a.line+"\n", 1, api.Range)
		checkLine(t, "graph 2 16385\n"+a.line+"\n", 1, api.TooBig)
	}
}

// known is what a line is, for texts of a few of them.
type known struct {
	ignored, head, edge bool
	edges               int
	e                   api.Edge
	fault               api.Fault // of its words
}

func knownLines() map[string]known {
	return map[string]known{
		"":            {ignored: true},
		"# e 0 1 5":   {ignored: true},
		"graph 2 0":   {head: true},
		"graph 2 1":   {head: true, edges: 1},
		"graph 2 2":   {head: true, edges: 2},
		"graph 0 2":   {head: true, fault: api.Range},
		"e 0 1 5":     {edge: true, e: edge(0, 1, 5)},
		"e 1 0 5":     {edge: true, e: edge(1, 0, 5)},
		"e 0 1 0":     {edge: true, fault: api.Range},
		"e 0 2 0":     {edge: true, fault: api.NoNode},
		"e 0 1":       {},
		" # e 0 1 5 ": {},
	}
}

// readAs is Read as the chapter says it, for known lines and a rest.
func readAs(lines []string, rest string, all map[string]known) (api.Graph, int, api.Fault) {
	edges := -1
	g := api.Graph{N: 2}
	for i, line := range lines {
		k := all[line]
		switch {
		case k.ignored:
			continue
		case edges < 0 && !k.head, edges >= 0 && !k.edge, len(g.E) == edges:
			return api.Graph{}, i + 1, api.Syntax
		case k.fault != api.OK:
			return api.Graph{}, i + 1, k.fault
		case k.head:
			edges = k.edges
		default:
			g.E = append(g.E, k.e)
		}
	}
	if len(g.E) != edges || rest != "" {
		return api.Graph{}, len(lines) + 1, api.Syntax
	}
	return g, 0, api.OK
}

// P603: all texts of a few lines.
func TestReadOfAllShort(t *testing.T) {
	all := knownLines()
	var names []string
	for line := range all {
		names = append(names, line)
	}
	slices.Sort(names)
	right := 0
	lists(names, 4, func(lines []string) {
		for _, rest := range []string{"", "# e 0 1 5"} {
			s := rest
			if len(lines) > 0 {
				s = strings.Join(lines, "\n") + "\n" + rest
			}
			want := foundOf(readAs(lines, rest, all))
			if got := foundOf(gtext.Read(s)); !got.is(want) {
				t.Errorf("Read of %q: %v, not %v", s, got, want)
			}
			if want.fault == api.OK {
				right++
			}
		}
	})
	if right < 20 {
		t.Errorf("only %d texts were graphs", right)
	}
}

// P604: Parse inverts Words, and Read inverts Print; what has too many words is inverted as a text.
func TestInverses(t *testing.T) {
	for _, g := range append(rightGraphs(), longGraphs()...) {
		l, fault := gtext.Words(g)
		if fits := len(g.E) <= most; fits != (fault == api.OK) {
			t.Errorf("Words of %d and %d edges: %d", g.N, len(g.E), fault)
		} else if fits {
			checkParse(t, l, g, 0, api.OK)
		}
		s, fault := gtext.Print(g)
		if fault != api.OK {
			t.Errorf("Print of %d and %d edges: %d", g.N, len(g.E), fault)
		}
		checkRead(t, s, g, 0, api.OK)
	}
}

// P604: all graphs of three nodes and at most three edges, each of which may be there twice.
func TestInversesOfAllSmall(t *testing.T) {
	var edges []api.Edge
	for i := range 9 {
		if i/3 != i%3 {
			edges = append(edges, edge(i/3, i%3, 1), edge(i/3, i%3, maxW))
		}
	}
	var extend func(g api.Graph)
	extend = func(g api.Graph) {
		l, _ := gtext.Words(g)
		if back, _, fault := gtext.Parse(l); fault != api.OK || !equal(back, g) {
			t.Errorf("Parse of the words of %v: %v and %d", g, back, fault)
		}
		s, _ := gtext.Print(g)
		if back, _, fault := gtext.Read(s); fault != api.OK || !equal(back, g) {
			t.Errorf("Read of the text of %v: %v and %d", g, back, fault)
		}
		if len(g.E) == 3 {
			return
		}
		for _, e := range edges {
			extend(api.Graph{N: g.N, E: append(slices.Clone(g.E), e)})
		}
	}
	extend(of(3))
}
