package place_test

import (
	"math"
	"math/bits"
	"slices"
	"testing"

	"highroad/api"
	"highroad/place"
)

const (
	maxXY = api.MaxXY
	maxW  = uint64(api.MaxW)
)

// at writes a position in short.
func at(x, y int) api.Place {
	return api.Place{X: x, Y: y}
}

// edge writes an edge in short.
func edge(from, to int, w uint64) api.Edge {
	return api.Edge{From: from, To: to, W: w}
}

// of writes a graph in short.
func of(n int, l ...api.Edge) api.Graph {
	return api.Graph{N: n, E: l}
}

// repeated is a graph with n times the same edge.
func repeated(nodes, n int, e api.Edge) api.Graph {
	return api.Graph{N: nodes, E: slices.Repeat([]api.Edge{e}, n)}
}

// ring is a graph whose edges lead from each node to the next one, round and round, all of one weight.
func ring(nodes, edges int, w uint64) api.Graph {
	g := api.Graph{N: nodes}
	for i := range edges {
		g.E = append(g.E, edge(i%nodes, (i+1)%nodes, w))
	}
	return g
}

// wrongGraphs are graphs that are not valid, each for one reason; without it, the edge 0 would lead from 0 to 1 in most of them.
func wrongGraphs() []api.Graph {
	return []api.Graph{
		{},
		{N: 0, E: []api.Edge{}},
		of(-1),
		of(math.MinInt),
		of(math.MaxInt),
		of(api.MaxNodes + 1),
		of(0, edge(0, 1, 5)),
		of(-2, edge(0, 1, 5)),
		of(api.MaxNodes+1, edge(0, 1, 5)),
		repeated(2, api.MaxEdges+1, edge(0, 1, 5)),
		ring(api.MaxNodes, api.MaxEdges+1, 5),
		of(2, edge(0, 1, 5), edge(0, 2, 5)),
		of(2, edge(0, 1, 5), edge(2, 0, 5)),
		of(2, edge(0, 1, 5), edge(-1, 0, 5)),
		of(2, edge(0, 1, 5), edge(0, -1, 5)),
		of(2, edge(0, 1, 5), edge(0, math.MaxInt, 5)),
		of(2, edge(0, 1, 5), edge(math.MinInt, 1, 5)),
		of(2, edge(0, 2, 5)),
		of(1, edge(0, 1, 5)),
		of(1, edge(0, 0, 5)),
		of(2, edge(0, 1, 5), edge(1, 1, 5)),
		of(2, edge(0, 1, 0)),
		of(2, edge(0, 1, maxW+1)),
		of(2, edge(0, 1, 5), edge(1, 0, 0)),
		of(2, edge(0, 1, 5), edge(1, 0, math.MaxUint64)),
	}
}

// wrongParts are numbers that are neither the X nor the Y of a valid position: just beyond the limits, those of which fewer bits would be valid, and the extremes.
func wrongParts() []int {
	return []int{maxXY + 1, -maxXY - 1, maxXY + 2, 2 * maxXY, -2 * maxXY, 1 << 31, -1 << 31, 1 << 32, 1<<32 + 3, -1<<32 + 3, 1 << 53, 1 << 62, math.MaxInt, math.MaxInt - 1, math.MinInt, math.MinInt + 1}
}

// wrongPlaces are positions that are not valid, for X alone, for Y alone, and for both.
func wrongPlaces() []api.Place {
	var l []api.Place
	for _, part := range wrongParts() {
		l = append(l, at(part, 0), at(0, part), at(part, maxXY), at(-maxXY, part), at(part, part), at(part, -1-part))
	}
	return l
}

// sides are the numbers at each limit of a valid position, and next to it, and about 0.
func sides() []int {
	return []int{-maxXY, 1 - maxXY, -maxXY / 2, -3, -1, 0, 1, 2, maxXY/2 + 1, maxXY - 1, maxXY}
}

// grid are the positions of which both parts are among those numbers.
func grid(parts ...int) []api.Place {
	var l []api.Place
	for _, x := range parts {
		for _, y := range parts {
			l = append(l, at(x, y))
		}
	}
	return l
}

// manyPlaces are valid positions: the extremes, close ones, and some of no pattern.
func manyPlaces() []api.Place {
	l := slices.Concat(grid(sides()...), grid(-3, -2, 1, 2))
	x, y := 12345, -54321
	for range 40 {
		x, y = (x*7919+y)%maxXY, (y*104729-x)%maxXY
		l = append(l, at(x, y))
	}
	return l
}

// lists are all lists of some positions, up to a length.
func lists(from []api.Place, longest int) [][]api.Place {
	all := [][]api.Place{nil}
	last := all
	for range longest {
		var longer [][]api.Place
		for _, l := range last {
			for _, p := range from {
				longer = append(longer, append(slices.Clone(l), p))
			}
		}
		all, last = append(all, longer...), longer
	}
	return all
}

// head is the beginning of a list, for messages.
func head[T any](l []T) []T {
	return l[:min(len(l), 8)]
}

// guard is an argument with spare capacity, and what all of its memory has to be.
type guard[T comparable] struct{ list, was []T }

// guarded copies a list to memory with spare capacity, full of what is to stay.
func guarded[T comparable](l []T, filling T) guard[T] {
	whole := append(slices.Clone(l), filling, filling, filling)
	return guard[T]{whole[:len(l)], slices.Clone(whole)}
}

func (g guard[T]) check(t *testing.T, what string) {
	t.Helper()
	if whole := g.list[:len(g.was)]; !slices.Equal(whole, g.was) {
		t.Errorf("%s: an argument became %v, from %v", what, head(whole), head(g.was))
	}
}

// fillings are what may stand behind a list: the first one is not valid, the others are nearer and farther than all.
func fillings() []api.Place {
	return []api.Place{at(maxXY+1, 0), at(0, 0), at(maxXY, -maxXY), at(-maxXY, maxXY)}
}

func checkRight(t *testing.T, l []api.Place, want bool) {
	t.Helper()
	for _, filling := range fillings() {
		list := guarded(l, filling)
		if got := place.Right(list.list); got != want {
			t.Errorf("Right(%v): %t", head(l), got)
		}
		list.check(t, "Right")
	}
	if got := place.Right(l); got != want {
		t.Errorf("Right(%v) without spare capacity: %t", head(l), got)
	}
}

// placed is a list of n valid positions with another one at i.
func placed(n, i int, p api.Place) []api.Place {
	l := slices.Repeat([]api.Place{at(3, 4), at(-maxXY, maxXY)}, n)[:n]
	l[i] = p
	return l
}

// P901 (Right): no positions, both sides of each limit, and one wrong position at each place.
func TestRight(t *testing.T) {
	checkRight(t, nil, true)
	checkRight(t, []api.Place{}, true)
	checkRight(t, []api.Place{at(1<<20+1, 0)}, false)
	checkRight(t, grid(sides()...), true)
	for _, p := range manyPlaces() {
		checkRight(t, []api.Place{p}, true)
		checkRight(t, placed(4, 2, p), true)
	}
	for _, p := range wrongPlaces() {
		checkRight(t, []api.Place{p}, false)
		checkRight(t, []api.Place{p, p}, false)
		for i := range 5 {
			checkRight(t, placed(5, i, p), false)
		}
	}
	for _, i := range []int{0, 1, 50000, 99998, 99999} {
		checkRight(t, placed(100000, i, at(0, -maxXY-1)), false)
		checkRight(t, placed(100000, i, at(0, -maxXY)), true)
	}
}

// sameBits tells a negative zero from 0 as well.
func sameBits(a, b float64) bool {
	return math.Float64bits(a) == math.Float64bits(b)
}

// P901 (At): X is the real part, Y the imaginary one; 0 where the position is not valid.
func TestAt(t *testing.T) {
	cases := []struct {
		p    api.Place
		want complex128
	}{
		{at(0, 0), 0},
		{at(1, 0), 1},
		{at(0, 1), 1i},
		{at(1, -2), 1 - 2i},
		{at(-2, 1), -2 + 1i},
		{at(3, 4), 3 + 4i},
		{at(1<<20, -1<<20), 1048576 - 1048576i},
		{at(-1<<20, 1<<20-1), -1048576 + 1048575i},
	}
	for _, c := range cases {
		if got := place.At(c.p); got != c.want {
			t.Errorf("At(%v): %v, not %v", c.p, got, c.want)
		}
	}
	for _, p := range manyPlaces() {
		if z := place.At(p); !sameBits(real(z), float64(p.X)) || !sameBits(imag(z), float64(p.Y)) {
			t.Errorf("At(%v): %v", p, z)
		}
	}
	for _, p := range wrongPlaces() {
		if z := place.At(p); !sameBits(real(z), 0) || !sameBits(imag(z), 0) {
			t.Errorf("At(%v): %v, not 0", p, z)
		}
	}
}

func checkOf(t *testing.T, z complex128, want api.Place, wantOK bool) {
	t.Helper()
	if got, ok := place.Of(z); got != want || ok != wantOK {
		t.Errorf("Of(%v): %v and %t, not %v and %t", z, got, ok, want, wantOK)
	}
}

// P901 (Of): the chapter's examples, each corner of what is valid, and a step beyond it on each side.
func TestOf(t *testing.T) {
	checkOf(t, 1-2i, at(1, -2), true)
	checkOf(t, 0.5, at(0, 0), false)
	checkOf(t, 0.5i, at(0, 0), false)
	checkOf(t, 0, at(0, 0), true)
	checkOf(t, -3+4i, at(-3, 4), true)
	for _, p := range manyPlaces() {
		checkOf(t, complex(float64(p.X), float64(p.Y)), p, true)
	}
	for _, x := range []int{-maxXY - 1, -maxXY, 1 - maxXY, maxXY - 1, maxXY, maxXY + 1} {
		for _, y := range []int{-maxXY - 1, -maxXY, 1 - maxXY, maxXY - 1, maxXY, maxXY + 1} {
			want, ok := at(x, y), max(x, y, -x, -y) <= maxXY
			if !ok {
				want = api.Place{}
			}
			checkOf(t, complex(float64(x), float64(y)), want, ok)
		}
	}
}

// wrongFloats are floats that are no part of the number of a valid position.
func wrongFloats() []float64 {
	l := []float64{math.NaN(), math.Inf(1), math.Inf(-1)}
	for _, f := range []float64{
		0.5, 0.25, 1.5, 2.5, 0.1, math.Pi, 1e-9, math.SmallestNonzeroFloat64,
		math.Nextafter(1, 0), math.Nextafter(1, 2), math.Nextafter(2, 3), maxXY - 0.5, maxXY + 0.5,
		math.Nextafter(maxXY, 0), math.Nextafter(maxXY, 2*maxXY), maxXY + 1, 2 * maxXY,
		1 << 31, 1 << 32, 1<<32 + 3, 1 << 52, 1 << 53, 1 << 62, 1 << 63, 1 << 64, 1<<64 + 1<<20, 1 << 65, 1e19, 1e100, math.MaxFloat64,
	} {
		l = append(l, f, -f)
	}
	return l
}

// P901 (Of): parts that are no integer, beyond the limits, infinite, or not a number, in either part and in both.
func TestOfWrongNumbers(t *testing.T) {
	for _, f := range wrongFloats() {
		for _, other := range []float64{0, math.Copysign(0, -1), 1, -2, maxXY, -maxXY} {
			checkOf(t, complex(f, other), api.Place{}, false)
			checkOf(t, complex(other, f), api.Place{}, false)
		}
		for _, other := range wrongFloats() {
			checkOf(t, complex(f, other), api.Place{}, false)
		}
	}
}

// P901 (Of): a negative zero is equal to 0.
func TestOfNegativeZero(t *testing.T) {
	zero := math.Copysign(0, -1)
	checkOf(t, complex(zero, zero), at(0, 0), true)
	checkOf(t, complex(zero, 0), at(0, 0), true)
	checkOf(t, complex(0, zero), at(0, 0), true)
	for _, part := range sides() {
		checkOf(t, complex(zero, float64(part)), at(0, part), true)
		checkOf(t, complex(float64(part), zero), at(part, 0), true)
	}
}

// P901 (At, Of): each is the inverse of the other.
func TestAtAndOf(t *testing.T) {
	for _, p := range manyPlaces() {
		checkOf(t, place.At(p), p, true)
	}
	for _, x := range sides() {
		for _, y := range sides() {
			z := complex(float64(x), float64(y))
			if p, ok := place.Of(z); !ok || place.At(p) != z {
				t.Errorf("Of(%v): %v and %t, whose number is %v", z, p, ok, place.At(p))
			}
		}
	}
}

// square is what Square has to be of valid positions.
func square(a, b api.Place) uint64 {
	x, y := a.X-b.X, a.Y-b.Y
	return uint64(x*x + y*y)
}

// isRoot reports whether r is the greatest integer whose square is at most n.
func isRoot(r, n uint64) bool {
	over, rest := bits.Mul64(r, r)
	more, next := bits.Mul64(r+1, r+1)
	return over == 0 && rest <= n && (more > 0 || next > n)
}

// checkDistance holds Square and Crow in both orders.
func checkDistance(t *testing.T, a, b api.Place, wantSquare, wantCrow uint64) {
	t.Helper()
	if got := place.Square(a, b); got != wantSquare {
		t.Errorf("Square(%v, %v): %d, not %d", a, b, got, wantSquare)
	}
	if got := place.Square(b, a); got != wantSquare {
		t.Errorf("Square(%v, %v): %d, not %d", b, a, got, wantSquare)
	}
	if got := place.Crow(a, b); got != wantCrow {
		t.Errorf("Crow(%v, %v): %d, not %d", a, b, got, wantCrow)
	}
	if got := place.Crow(b, a); got != wantCrow {
		t.Errorf("Crow(%v, %v): %d, not %d", b, a, got, wantCrow)
	}
}

// P902 (Square, Crow): the chapter's example, positions twice, opposite corners, and distances that are no integer.
func TestSquareAndCrow(t *testing.T) {
	cases := []struct {
		a, b         api.Place
		square, crow uint64
	}{
		{at(0, 0), at(3, 4), 25, 5},
		{at(0, 0), at(-3, 4), 25, 5},
		{at(0, 0), at(3, -4), 25, 5},
		{at(0, 0), at(-4, -3), 25, 5},
		{at(1, 1), at(4, 5), 25, 5},
		{at(-1, -2), at(2, 2), 25, 5},
		{at(0, 0), at(0, 0), 0, 0},
		{at(3, 4), at(3, 4), 0, 0},
		{at(maxXY, -maxXY), at(maxXY, -maxXY), 0, 0},
		{at(0, 0), at(1, 0), 1, 1},
		{at(0, 0), at(0, -1), 1, 1},
		{at(0, 0), at(1, 1), 2, 1},
		{at(0, 0), at(1, -1), 2, 1},
		{at(0, 0), at(2, 1), 5, 2},
		{at(0, 0), at(2, 2), 8, 2},
		{at(5, 5), at(7, 8), 13, 3},
		{at(0, 0), at(4, 2), 20, 4},
		{at(0, 0), at(7, 7), 98, 9},
		{at(-1, 0), at(1, 0), 4, 2},
		{at(-5, 0), at(7, 5), 169, 13},
		{at(-maxXY, -maxXY), at(maxXY, maxXY), 1 << 43, 2965820},
		{at(-maxXY, maxXY), at(maxXY, -maxXY), 1 << 43, 2965820},
		{at(-maxXY, 0), at(maxXY, 0), 1 << 42, 1 << 21},
		{at(7, maxXY), at(7, -maxXY), 1 << 42, 1 << 21},
		{at(-maxXY, 0), at(maxXY, 1), 1<<42 + 1, 1 << 21},
		{at(-maxXY, 0), at(maxXY-1, 0), (1<<21 - 1) * (1<<21 - 1), 1<<21 - 1},
		{at(1-maxXY, -maxXY), at(maxXY, maxXY), 1<<42 + (1<<21-1)*(1<<21-1), 2965820},
		{at(0, 0), at(maxXY, maxXY), 1 << 41, 1482910},
		{at(0, 0), at(maxXY, 1-maxXY), 1<<40 + (1<<20-1)*(1<<20-1), 1482909},
	}
	for _, c := range cases {
		checkDistance(t, c.a, c.b, c.square, c.crow)
	}
	all := manyPlaces()
	for _, a := range all {
		for _, b := range all {
			if got := place.Square(a, b); got != square(a, b) {
				t.Errorf("Square(%v, %v): %d, not %d", a, b, got, square(a, b))
			}
			if got := place.Crow(a, b); !isRoot(got, square(a, b)) || got != place.Root(place.Square(a, b)) {
				t.Errorf("Crow(%v, %v): %d, of the square %d", a, b, got, square(a, b))
			}
		}
	}
}

// P902 (Square, Crow): all distances between close positions, by their definition.
func TestSquareOfClosePlaces(t *testing.T) {
	for x := -40; x <= 40; x++ {
		for y := -40; y <= 40; y++ {
			want := uint64(0)
			for range max(x, -x) {
				want += uint64(max(x, -x))
			}
			for range max(y, -y) {
				want += uint64(max(y, -y))
			}
			crow := uint64(0)
			for (crow+1)*(crow+1) <= want {
				crow++
			}
			checkDistance(t, at(0, 0), at(x, y), want, crow)
			checkDistance(t, at(-maxXY+40, maxXY-40), at(-maxXY+40+x, maxXY-40+y), want, crow)
		}
	}
}

// P902 (Square, Crow): 0 where a position is not valid, whichever it is.
func TestSquareOfWrongPlaces(t *testing.T) {
	for _, p := range wrongPlaces() {
		for _, q := range []api.Place{at(0, 0), at(3, 4), at(maxXY, maxXY), at(-maxXY, 7), p, at(p.Y, p.X), at(maxXY+1, 0), at(0, math.MinInt)} {
			checkDistance(t, p, q, 0, 0)
		}
	}
}

// P902 (Root): all small numbers, by counting.
func TestRoot(t *testing.T) {
	cases := []struct{ n, want uint64 }{
		{24, 4}, {25, 5}, {26, 5}, {0, 0}, {1, 1}, {2, 1}, {3, 1}, {4, 2}, {8, 2}, {9, 3},
		{1<<32 - 1, 1<<16 - 1},
		{1 << 32, 1 << 16},
		{1<<32 + 1, 1 << 16},
		{(1<<16 - 1) * (1<<16 - 1), 1<<16 - 1},
		{(1<<16-1)*(1<<16-1) - 1, 1<<16 - 2},
		{(1<<16+1)*(1<<16+1) - 1, 1 << 16},
		{(1<<16 + 1) * (1<<16 + 1), 1<<16 + 1},
		{1 << 43, 2965820},
		{1<<62 - 1, 1<<31 - 1},
		{1 << 62, 1 << 31},
		{(1<<32 - 1) * (1<<32 - 1), 1<<32 - 1},
		{(1<<32-1)*(1<<32-1) - 1, 1<<32 - 2},
		{(1<<32-1)*(1<<32-1) + 1, 1<<32 - 1},
		{(1<<32 - 2) * (1<<32 - 2), 1<<32 - 2},
		{(1<<32-2)*(1<<32-2) - 1, 1<<32 - 3},
		{1<<63 - 1, 3037000499},
		{1 << 63, 3037000499},
		{math.MaxUint64 - 1, 1<<32 - 1},
		{math.MaxUint64, 1<<32 - 1},
	}
	for _, c := range cases {
		if got := place.Root(c.n); got != c.want {
			t.Errorf("Root(%d): %d, not %d", c.n, got, c.want)
		}
	}
	root := uint64(0)
	for n := range uint64(100000) {
		if n == (root+1)*(root+1) {
			root++
		}
		if got := place.Root(n); got != root {
			t.Errorf("Root(%d): %d, not %d", n, got, root)
		}
	}
}

// P902 (Root): squares of all sizes, and the numbers about them.
func TestRootAboutSquares(t *testing.T) {
	last := uint64(1<<32 - 1)
	roots := []uint64{94906265, 94906266, 94906267, 2965820, 2965821, 3037000499, 3037000500, 4294967295 - 65536}
	for shift := range 32 {
		for more := range uint64(3) {
			roots = append(roots, uint64(1)<<shift+more, uint64(3)<<shift>>1+more, last>>shift, last>>shift-min(more, last>>shift))
		}
	}
	for _, r := range roots {
		if r = min(r, last); r == 0 {
			continue
		}
		for _, n := range []uint64{r*r - 1, r * r, r*r + 1, r*r + r, r*r + 2*r} {
			if got := place.Root(n); !isRoot(got, n) {
				t.Errorf("Root(%d), about the square of %d: %d", n, r, got)
			}
		}
	}
	for n := uint64(1); n > 0; n <<= 1 {
		for _, m := range []uint64{n - 1, n, n + 1, n + n/3, ^n} {
			if got := place.Root(m); !isRoot(got, m) {
				t.Errorf("Root(%d): %d", m, got)
			}
		}
	}
}

func checkBound(t *testing.T, g api.Graph, l []api.Place, want uint64) {
	t.Helper()
	edges := guarded(g.E, edge(0, 1, 1))
	for _, filling := range fillings() {
		list := guarded(l, filling)
		if got := place.Bound(api.Graph{N: g.N, E: edges.list}, list.list); got != want {
			t.Errorf("Bound(%d nodes, %v, %v): %d, not %d", g.N, head(g.E), head(l), got, want)
		}
		edges.check(t, "Bound")
		list.check(t, "Bound")
	}
	if got := place.Bound(g, l); got != want {
		t.Errorf("Bound(%d nodes, %v, %v) without spare capacity: %d, not %d", g.N, head(g.E), head(l), got, want)
	}
}

// P903 (Bound): the chapter's example; weights about each multiple of a distance.
func TestBound(t *testing.T) {
	two := []api.Place{at(0, 0), at(3, 4)}
	checkBound(t, of(2, edge(0, 1, 11)), two, 2)
	checkBound(t, of(2, edge(1, 0, 11)), two, 2)
	cases := []struct{ w, want uint64 }{
		{1, 0}, {4, 0}, {5, 1}, {6, 1}, {9, 1}, {10, 2}, {11, 2}, {14, 2}, {15, 3},
		{5*1023 - 1, 1022}, {5 * 1023, 1023}, {5*1024 - 1, 1023}, {5 * 1024, 1024}, {5*1024 + 1, 1024},
		{5*1025 - 1, 1024}, {5 * 1025, 1024}, {5 * 2048, 1024}, {maxW - 1, 1024}, {maxW, 1024},
	}
	for _, c := range cases {
		checkBound(t, of(2, edge(0, 1, c.w)), two, c.want)
	}
	far := []api.Place{at(-maxXY, -maxXY), at(maxXY, maxXY)}
	for _, c := range []struct{ w, want uint64 }{
		{1, 0}, {2965819, 0}, {2965820, 1}, {2965821, 1}, {2*2965820 - 1, 1}, {2 * 2965820, 2},
		{1023 * 2965820, 1023}, {1024*2965820 - 1, 1023}, {1024 * 2965820, 1024}, {maxW, 1024},
	} {
		checkBound(t, of(2, edge(0, 1, c.w)), far, c.want)
		checkBound(t, of(2, edge(1, 0, c.w)), far, c.want)
	}
	for n := range uint64(3000) {
		w, crow := n+1, uint64(3)
		checkBound(t, of(2, edge(0, 1, w)), []api.Place{at(5, 5), at(7, 8)}, min(w/crow, 1024))
	}
}

// P903 (Bound): no edges, and edges between nodes at the same position, set no bound.
func TestBoundWithoutDistance(t *testing.T) {
	checkBound(t, of(1), []api.Place{at(0, 0)}, 1024)
	checkBound(t, api.Graph{N: 1, E: []api.Edge{}}, []api.Place{at(maxXY, -maxXY)}, 1024)
	checkBound(t, of(3), []api.Place{at(0, 0), at(3, 4), at(0, 0)}, 1024)
	checkBound(t, of(api.MaxNodes), make([]api.Place, api.MaxNodes), 1024)
	same := []api.Place{at(-3, 7), at(-3, 7), at(0, 7)}
	checkBound(t, of(3, edge(0, 1, 1)), same, 1024)
	checkBound(t, of(3, edge(0, 1, 1), edge(1, 0, 1), edge(0, 1, maxW)), same, 1024)
	checkBound(t, of(3, edge(0, 1, 1), edge(1, 2, 8)), same, 2)
	checkBound(t, of(3, edge(1, 2, 8), edge(0, 1, 1)), same, 2)
	checkBound(t, of(3, edge(2, 0, 2), edge(0, 1, 1)), same, 0)
	checkBound(t, of(3, edge(0, 1, 1), edge(1, 2, maxW)), same, 1024)
}

// P903 (Bound): the edge that decides, first, in the midst and last; the index of a node is that of its position.
func TestBoundOfTheLightest(t *testing.T) {
	l := []api.Place{at(0, 0), at(10, 0), at(10, 5), at(0, 100)}
	checkBound(t, of(4, edge(0, 1, 35), edge(1, 2, 40), edge(3, 0, 900)), l, 3)
	checkBound(t, of(4, edge(1, 2, 40), edge(0, 1, 35), edge(3, 0, 900)), l, 3)
	checkBound(t, of(4, edge(1, 2, 40), edge(3, 0, 900), edge(0, 1, 35)), l, 3)
	checkBound(t, of(4, edge(1, 2, 40), edge(0, 1, 70), edge(3, 0, 699)), l, 6) // not the lightest one
	checkBound(t, of(4, edge(1, 2, 40), edge(2, 1, 12), edge(1, 2, 41)), l, 2)
	checkBound(t, of(4, edge(0, 1, 9), edge(1, 2, 40)), l, 0)
	checkBound(t, of(4, edge(1, 2, 40), edge(0, 1, 9)), l, 0)
	checkBound(t, of(4, edge(1, 2, maxW), edge(0, 1, maxW)), l, 1024)
	checkBound(t, of(4, edge(0, 3, 300)), l, 3)
	checkBound(t, of(4, edge(3, 0, 300)), l, 3)
	checkBound(t, of(4, edge(1, 3, 200)), l, 2) // the distance is 100.4, taken as 100
}

// bound is what Bound has to be of a valid graph: the greatest number that all edges bear, from the top down.
func bound(g api.Graph, l []api.Place) uint64 {
	for k := uint64(1024); k > 0; k-- {
		bears := func(e api.Edge) bool {
			n := square(l[e.From], l[e.To])
			crow := uint64(math.Sqrt(float64(n)))
			for crow*crow > n {
				crow--
			}
			for (crow+1)*(crow+1) <= n {
				crow++
			}
			return e.W >= k*crow
		}
		if !slices.ContainsFunc(g.E, func(e api.Edge) bool { return !bears(e) }) {
			return k
		}
	}
	return 0
}

// P903 (Bound): graphs of three nodes, for positions and weights of all kinds, and graphs at the limits.
func TestBoundOfManyGraphs(t *testing.T) {
	weights := []uint64{1, 2, 7, 2900, 5 << 20, maxW}
	all := []api.Place{at(0, 0), at(1, 1), at(-2, 5), at(maxXY, 3), at(-maxXY, -maxXY)}
	for _, l := range lists(all, 3) {
		for _, w := range weights {
			for _, v := range weights {
				if len(l) == 3 {
					g := of(3, edge(0, 1, w), edge(2, 1, v))
					checkBound(t, g, l, bound(g, l))
				}
			}
		}
	}
	var far []api.Place
	for i := range api.MaxNodes {
		far = append(far, at(i%64*30, i/64*40))
	}
	// Back from the last node to the first one it is 1890 by 2520, thus 3150; from row to row it is 1890 by 40, thus 1890.
	checkBound(t, ring(api.MaxNodes, api.MaxEdges, 3149), far, 0)
	checkBound(t, ring(api.MaxNodes, api.MaxEdges, 3150), far, 1)
	checkBound(t, ring(api.MaxNodes, api.MaxEdges, 2*3150-1), far, 1)
	checkBound(t, ring(api.MaxNodes, api.MaxNodes-1, 1890*7), far, 7)
	checkBound(t, ring(api.MaxNodes, api.MaxNodes-1, 1890*7-1), far, 6)
	checkBound(t, ring(api.MaxNodes, api.MaxNodes, 1890*7), far, 4)
	checkBound(t, repeated(api.MaxNodes, api.MaxEdges, edge(0, 1, 30*17+29)), far, 17)
}

// P903 (Bound): 0 with graphs that are not valid, of each kind, with as many positions as nodes, where there can be, and without.
func TestBoundOfWrongGraphs(t *testing.T) {
	for _, g := range wrongGraphs() {
		for _, n := range []int{0, 1, 2, 3, g.N, len(g.E)} {
			if n >= 0 && n < 1<<20 {
				checkBound(t, g, make([]api.Place, n), 0)
				checkBound(t, g, slices.Repeat([]api.Place{at(1, 2)}, n), 0)
			}
		}
	}
}

// P903 (Bound): 0 with fewer or more positions than nodes, and with one that is not valid, of a node with edges or without.
func TestBoundOfWrongPlaces(t *testing.T) {
	graphs := []api.Graph{of(1), of(3), of(3, edge(0, 1, 9)), of(5, edge(0, 1, 9), edge(1, 2, 90)), ring(4, 9, 77), of(api.MaxNodes, edge(0, 1, 9))}
	for _, g := range graphs {
		for _, n := range []int{0, 1, 2, g.N - 1, g.N + 1, 2 * g.N, len(g.E)} {
			if n != g.N {
				checkBound(t, g, make([]api.Place, n), 0)
			}
		}
		checkBound(t, g, nil, 0)
		checkBound(t, g, make([]api.Place, g.N), 1024)
		for _, i := range []int{0, g.N / 2, g.N - 1} {
			for _, p := range wrongPlaces() {
				l := make([]api.Place, g.N)
				l[i] = p
				if got := place.Bound(g, l); got != 0 {
					t.Errorf("Bound of %d nodes, with %v at %d: %d, not 0", g.N, p, i, got)
				}
			}
		}
	}
}

func checkBox(t *testing.T, l []api.Place, wantLow, wantHigh api.Place) {
	t.Helper()
	for _, filling := range fillings() {
		list := guarded(l, filling)
		if low, high := place.Box(list.list); low != wantLow || high != wantHigh {
			t.Errorf("Box(%v): %v and %v, not %v and %v", head(l), low, high, wantLow, wantHigh)
		}
		list.check(t, "Box")
	}
	if low, high := place.Box(l); low != wantLow || high != wantHigh {
		t.Errorf("Box(%v) without spare capacity: %v and %v, not %v and %v", head(l), low, high, wantLow, wantHigh)
	}
}

// P903 (Box): the chapter's example; none, one, and extremes at different positions.
func TestBox(t *testing.T) {
	cases := []struct {
		l         []api.Place
		low, high api.Place
	}{
		{[]api.Place{at(1, 5), at(-2, 7)}, at(-2, 5), at(1, 7)},
		{nil, at(0, 0), at(0, 0)},
		{[]api.Place{}, at(0, 0), at(0, 0)},
		{[]api.Place{at(3, -4)}, at(3, -4), at(3, -4)},
		{[]api.Place{at(3, 4), at(3, 4), at(3, 4)}, at(3, 4), at(3, 4)},
		{[]api.Place{at(-3, -4), at(-3, -4)}, at(-3, -4), at(-3, -4)},
		{[]api.Place{at(5, 6), at(3, 9)}, at(3, 6), at(5, 9)},         // 0 lies outside
		{[]api.Place{at(-5, -6), at(-3, -9)}, at(-5, -9), at(-3, -6)}, // the same, on the other side
		{[]api.Place{at(1, 2), at(2, 1), at(9, 5), at(5, 9)}, at(1, 1), at(9, 9)},
		{[]api.Place{at(5, 9), at(9, 5), at(2, 1), at(1, 2)}, at(1, 1), at(9, 9)},
		{[]api.Place{at(0, 8), at(4, 0), at(4, 4), at(7, 4)}, at(0, 0), at(7, 8)},
		{grid(sides()...), at(-maxXY, -maxXY), at(maxXY, maxXY)},
		{[]api.Place{at(maxXY, maxXY), at(-maxXY, -maxXY)}, at(-maxXY, -maxXY), at(maxXY, maxXY)},
		{[]api.Place{at(maxXY, maxXY)}, at(maxXY, maxXY), at(maxXY, maxXY)},
		{[]api.Place{at(-maxXY, -maxXY)}, at(-maxXY, -maxXY), at(-maxXY, -maxXY)},
		{placed(100000, 99999, at(7, -8)), at(-maxXY, -8), at(7, maxXY)},
	}
	for _, c := range cases {
		checkBox(t, c.l, c.low, c.high)
	}
}

// P903 (Box): all short lists, against their parts in order.
func TestBoxOfAllLists(t *testing.T) {
	for _, l := range lists([]api.Place{at(-2, 1), at(1, -2), at(3, 3), at(1, 4), at(-2, -5)}, 4) {
		if len(l) == 0 {
			continue
		}
		var x, y []int
		for _, p := range l {
			x, y = append(x, p.X), append(y, p.Y)
		}
		slices.Sort(x)
		slices.Sort(y)
		checkBox(t, l, at(x[0], y[0]), at(x[len(x)-1], y[len(y)-1]))
	}
}

// P903 (Box): the zero positions where one is not valid, first, in the midst or last.
func TestBoxOfWrongPlaces(t *testing.T) {
	for _, p := range wrongPlaces() {
		checkBox(t, []api.Place{p}, api.Place{}, api.Place{})
		for i := range 3 {
			checkBox(t, placed(3, i, p), api.Place{}, api.Place{})
		}
	}
}

func checkNear(t *testing.T, l []api.Place, p api.Place, want int) {
	t.Helper()
	for _, filling := range append(fillings(), p) {
		list := guarded(l, filling)
		if got := place.Near(list.list, p); got != want {
			t.Errorf("Near(%v, %v): %d, not %d", head(l), p, got, want)
		}
		list.check(t, "Near")
	}
	if got := place.Near(l, p); got != want {
		t.Errorf("Near(%v, %v) without spare capacity: %d, not %d", head(l), p, got, want)
	}
}

// P903 (Near): none, p itself, the first of several, and distances that only their squares tell apart.
func TestNear(t *testing.T) {
	cases := []struct {
		l    []api.Place
		p    api.Place
		want int
	}{
		{nil, at(0, 0), -1},
		{[]api.Place{}, at(maxXY, 1), -1},
		{[]api.Place{at(3, 4)}, at(0, 0), 0},
		{[]api.Place{at(maxXY, maxXY)}, at(-maxXY, -maxXY), 0},
		{[]api.Place{at(3, 4), at(0, 0), at(0, 0)}, at(0, 0), 1},
		{[]api.Place{at(1, 1), at(7, 7), at(7, 7), at(7, 8)}, at(7, 7), 1},
		{[]api.Place{at(7, 7)}, at(7, 7), 0},
		{[]api.Place{at(3, 4), at(5, 0), at(0, -5), at(-4, 3)}, at(0, 0), 0},
		{[]api.Place{at(9, 9), at(5, 0), at(3, 4), at(0, 5)}, at(0, 0), 1},
		{[]api.Place{at(2, 2), at(2, 1), at(2, 0)}, at(0, 0), 2}, // at 2.8, 2.2 and 2
		{[]api.Place{at(2, 2), at(1, 2), at(2, 1)}, at(0, 0), 1},
		{[]api.Place{at(6, 3), at(5, 4), at(7, 0)}, at(0, 0), 1}, // X and Y together, neither of them alone
		{[]api.Place{at(0, 3), at(2, 2)}, at(0, 0), 1},
		{[]api.Place{at(2, 2), at(0, 3)}, at(0, 0), 0},
		{[]api.Place{at(0, 0), at(9, 9)}, at(8, 8), 1}, // near p, not near 0
		{[]api.Place{at(maxXY, maxXY), at(maxXY, maxXY-1)}, at(-maxXY, -maxXY), 1},
		{[]api.Place{at(maxXY, 1), at(maxXY, 0), at(maxXY, -1)}, at(-maxXY, 0), 1},
		{[]api.Place{at(-maxXY, 0), at(maxXY, 0)}, at(0, 0), 0},
		{[]api.Place{at(-maxXY, 0), at(maxXY, 0)}, at(1, 0), 1},
		{placed(100000, 99999, at(3, 3)), at(2, 3), 99999},
		{placed(100000, 99999, at(3, 3)), at(3, 4), 0},
	}
	for _, c := range cases {
		checkNear(t, c.l, c.p, c.want)
	}
}

// P903 (Near): all short lists, against the first one that no other is nearer than.
func TestNearOfAllLists(t *testing.T) {
	from := []api.Place{at(0, 0), at(1, 0), at(0, 1), at(2, 2), at(-2, 1), at(3, 0)}
	for _, l := range lists(from, 3) {
		for _, p := range append(from, at(1, 1), at(-1, 3), at(maxXY, -maxXY)) {
			want := slices.IndexFunc(l, func(q api.Place) bool {
				return !slices.ContainsFunc(l, func(r api.Place) bool { return square(r, p) < square(q, p) })
			})
			checkNear(t, l, p, want)
		}
	}
}

// P903 (Near): -1 where p, or any of the positions, is not valid.
func TestNearOfWrongPlaces(t *testing.T) {
	for _, p := range wrongPlaces() {
		checkNear(t, nil, p, -1)
		checkNear(t, []api.Place{p}, p, -1)
		checkNear(t, []api.Place{at(0, 0)}, p, -1)
		checkNear(t, []api.Place{at(3, 4), at(maxXY, maxXY), at(0, -maxXY)}, p, -1)
		for i := range 3 {
			checkNear(t, placed(3, i, p), at(3, 4), -1)
			checkNear(t, placed(3, i, p), at(0, 0), -1)
		}
	}
}

// P904: distances are the same both ways.
func TestDistancesAreSymmetric(t *testing.T) {
	all := append(manyPlaces(), wrongPlaces()...)
	for _, a := range all {
		for _, b := range all {
			if one, other := place.Square(a, b), place.Square(b, a); one != other {
				t.Errorf("Square(%v, %v): %d, and %d the other way", a, b, one, other)
			}
			if one, other := place.Crow(a, b), place.Crow(b, a); one != other {
				t.Errorf("Crow(%v, %v): %d, and %d the other way", a, b, one, other)
			}
		}
	}
}

// P904: no Crow is more than the sum of those by way of a third position plus 1; some are as much.
func TestDistancesByAThird(t *testing.T) {
	all := append(manyPlaces(), grid(0, 4, 5)...)
	// Each is computed once, and used for many threes.
	crows := make([][]uint64, len(all))
	for i, a := range all {
		for _, b := range all {
			crows[i] = append(crows[i], place.Crow(a, b))
		}
	}
	most := false
	for i := range all {
		for j := range all {
			for k := range all {
				direct, by := crows[i][k], crows[i][j]+crows[j][k]
				if direct > by+1 {
					t.Errorf("from %v to %v: %d, but %d by %v", all[i], all[k], direct, by, all[j])
				}
				most = most || direct == by+1
			}
		}
	}
	if !most {
		t.Errorf("no distance is more than those by a third position")
	}
}
