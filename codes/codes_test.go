package codes_test

import (
	"errors"
	"fmt"
	"math"
	"slices"
	"strings"
	"testing"

	"highroad/api"
	"highroad/codes"
)

// known is a fault and its word.
type known struct {
	fault api.Fault
	word  string
}

// table has all faults, in ascending order.
func table() []known {
	return []known{
		{0, "ok"}, {1, "badarg"}, {2, "range"}, {3, "syntax"}, {4, "form"},
		{5, "toobig"}, {6, "overflow"}, {7, "nonode"}, {8, "noedge"}, {9, "nopath"},
		{10, "unknown"}, {11, "nograph"}, {12, "nobuild"}, {13, "stale"}, {14, "closed"},
	}
}

// notFaults are values just outside of the faults, and far from them.
func notFaults() []api.Fault {
	l := []api.Fault{math.MinInt, math.MinInt + 1, math.MinInt + 13, math.MaxInt - 1, math.MaxInt}
	for i := 1; i <= 300; i++ {
		l = append(l, api.Fault(-i), api.Fault(14+i))
	}
	for shift := 8; shift < 63; shift++ {
		l = append(l, 1<<shift, 1<<shift+13, -1<<shift, -1<<shift+13)
	}
	return l
}

// abouts are texts of what an error may be about.
func abouts() []string {
	return []string{"", "0 3", "x", " ", "  x ", "\n", "a\r\nb", "\x00", "\xff\x80", "nopath", "ok", "\u00e9", strings.Repeat("long ", 10000)}
}

// wrap wraps one error.
type wrap struct{ inner error }

func (w wrap) Error() string { return "wrap" }
func (w wrap) Unwrap() error { return w.inner }

// pair wraps two errors, the first one first.
type pair struct{ a, b error }

func (p *pair) Error() string   { return "pair" }
func (p *pair) Unwrap() []error { return []error{p.a, p.b} }

// disguise wraps nothing, but lets itself be seen as an Error.
type disguise struct{ e *codes.Error }

func (d disguise) Error() string { return "disguise" }

func (d disguise) As(target any) bool {
	p, ok := target.(**codes.Error)
	if ok {
		*p = d.e
	}
	return ok
}

// refusal sets what it is asked for, but says that it has not.
type refusal struct{ e *codes.Error }

func (r refusal) Error() string { return "refusal" }

func (r refusal) As(target any) bool {
	disguise{r.e}.As(target)
	return false
}

// part is an Error under a name that leaves the name of its method free.
type part = codes.Error

// embedder has an Error within it, but is not one, and wraps another error.
type embedder struct {
	*part
	inner error
}

func (e embedder) Unwrap() error { return e.inner }

// imitation has the text of an Error.
type imitation string

func (i imitation) Error() string { return string(i) }

// list can't be compared.
type list []string

func (l list) Error() string { return "list" }

// panicking panics when it is unwrapped.
type panicking struct{ value any }

func (p panicking) Error() string { return "panicking" }
func (p panicking) Unwrap() error { panic(p.value) }

// panickingAs panics after it has let itself be seen as an Error.
type panickingAs struct{ e *codes.Error }

func (p panickingAs) Error() string { return "panicking" }

func (p panickingAs) As(target any) bool {
	disguise{p.e}.As(target)
	panic("as")
}

// own returns a new error as the *codes.Error that it is.
func own(t *testing.T, f api.Fault, about string) *codes.Error {
	t.Helper()
	e, ok := codes.New(f, about).(*codes.Error)
	if !ok || e == nil {
		t.Fatalf("New(%d, %.40q) is no *Error", f, about)
	}
	return e
}

// wrappings returns err wrapped in all the ways in which only it can be found.
func wrappings(err error) []error {
	once := wrap{err}
	more := wrap{wrap{&pair{once, errors.New("x")}}}
	return []error{
		once,
		wrap{once},
		wrap{wrap{wrap{wrap{err}}}},
		&pair{err, errors.New("x")},
		&pair{errors.New("x"), err},
		&pair{wrap{nil}, wrap{err}},
		&pair{nil, err},
		more,
		&pair{imitation("stale"), more},
		fmt.Errorf("more: %w", err),
		fmt.Errorf("%w and %w", errors.New("x"), once),
		errors.Join(nil, errors.New("x"), err),
		embedder{nil, err},
	}
}

// others are errors in whose chains there is none of the type of this package.
func others() []error {
	return []error{
		errors.New("x"), errors.New(""), errors.New("stale"), errors.New("nopath 0 3"),
		imitation("stale"), imitation("nopath 0 3"), list{"stale"},
		wrap{nil}, wrap{errors.New("x")}, wrap{wrap{wrap{nil}}},
		&pair{nil, nil}, &pair{errors.New("x"), wrap{nil}},
		fmt.Errorf("more: %w", errors.New("stale")), errors.Join(errors.New("x"), errors.New("y")),
		wrap{list{"x"}},
	}
}

// P401 (Word).
func TestWord(t *testing.T) {
	for _, k := range table() {
		if got := codes.Word(k.fault); got != k.word {
			t.Errorf("Word(%d): %q, not %q", k.fault, got, k.word)
		}
	}
	for _, f := range notFaults() {
		if got := codes.Word(f); got != "" {
			t.Errorf("Word(%d): %q", f, got)
		}
	}
	if got := codes.Word(api.Stale); got != "stale" {
		t.Errorf("Word(Stale): %q", got)
	}
}

// P401: the words by the names of the faults.
func TestWordIsTheName(t *testing.T) {
	names := map[string]api.Fault{
		"OK": api.OK, "BadArg": api.BadArg, "Range": api.Range, "Syntax": api.Syntax, "Form": api.Form,
		"TooBig": api.TooBig, "Overflow": api.Overflow, "NoNode": api.NoNode, "NoEdge": api.NoEdge, "NoPath": api.NoPath,
		"Unknown": api.Unknown, "NoGraph": api.NoGraph, "NoBuild": api.NoBuild, "Stale": api.Stale, "Closed": api.Closed,
	}
	for name, f := range names {
		if got := codes.Word(f); got != strings.ToLower(name) {
			t.Errorf("Word(%s): %q", name, got)
		}
	}
}

// P401 (Of).
func TestOf(t *testing.T) {
	for _, k := range table() {
		if f, ok := codes.Of(k.word); f != k.fault || !ok {
			t.Errorf("Of(%q): %d and %t, not %d and true", k.word, f, ok, k.fault)
		}
		if f, ok := codes.Of(string([]byte(k.word))); f != k.fault || !ok {
			t.Errorf("Of of another %q: %d and %t, not %d and true", k.word, f, ok, k.fault)
		}
	}
}

// P401: strings that are no words of faults.
func TestOfWrongWords(t *testing.T) {
	wrong := []string{
		"", " ", "\t", "\n", "\x00", "x", "OK", "Ok", "oK", "fault", "error", "none", "nil", "stale closed", "staleclosed", "ok ok", "okok",
		"0", "1", "13", "14", "15", "-1", "no", "no path", "bad arg", "bad-arg", "too big", "nonodes", "\u00f6k", "\uff4f\uff4b", "o\u212a",
		"toobig\xff", "st\u0430le", strings.Repeat("ok", 100000), "nothing",
	}
	for _, k := range table() {
		w := k.word
		wrong = append(wrong, strings.ToUpper(w), w+w, w+" "+w, " "+w+" ")
		for _, other := range table() {
			wrong = append(wrong, w+other.word, w+" "+other.word, w+","+other.word)
		}
		for i := range len(w) + 1 {
			for _, s := range []string{" ", "x", "\t", "\n", "\r", "\x00", "-", w[:1]} {
				wrong = append(wrong, w[:i]+s+w[i:])
			}
		}
		for i := range len(w) {
			for _, s := range []string{"", " ", "z", strings.ToUpper(w[i : i+1])} {
				wrong = append(wrong, w[:i]+s+w[i+1:])
			}
			wrong = append(wrong, w[:i], w[i+1:])
		}
	}
	for _, s := range wrong {
		if f, ok := codes.Of(s); f != 0 || ok {
			t.Errorf("Of(%.40q): %d and %t", s, f, ok)
		}
	}
}

// P401 (Is).
func TestIs(t *testing.T) {
	for _, k := range table() {
		if !codes.Is(k.fault) {
			t.Errorf("Is(%d): false", k.fault)
		}
	}
	for _, f := range notFaults() {
		if codes.Is(f) {
			t.Errorf("Is(%d): true", f)
		}
	}
}

// P401 (All).
func TestAll(t *testing.T) {
	want := []api.Fault{0, 1, 2, 3, 4, 5, 6, 7, 8, 9, 10, 11, 12, 13, 14}
	if got := codes.All(); !slices.Equal(got, want) {
		t.Errorf("All: %d", got)
	}
}

// P401, rule 4: what a caller does to the faults of one call is not seen by the next one.
func TestAllIsNewMemory(t *testing.T) {
	first, second := codes.All(), codes.All()
	want := slices.Clone(second)
	for i := range first {
		first[i] = -7
	}
	first = append(first[:3], 99, 98, 97)
	clear(first[:cap(first)])
	if !slices.Equal(second, want) {
		t.Errorf("the faults of another call became %d", second)
	}
	if got := codes.All(); !slices.Equal(got, want) {
		t.Errorf("All, again: %d", got)
	}
	for _, k := range table() {
		if f, ok := codes.Of(k.word); codes.Word(k.fault) != k.word || f != k.fault || !ok {
			t.Errorf("the fault %d is %q, and %q is %d", k.fault, codes.Word(k.fault), k.word, f)
		}
	}
}

// P402 (New): each fault, without an about and with one.
func TestNew(t *testing.T) {
	for _, k := range table()[1:] {
		for _, about := range abouts() {
			want := k.word
			if about != "" {
				want += " " + about
			}
			err := codes.New(k.fault, about)
			if e, ok := err.(*codes.Error); !ok || e == nil {
				t.Fatalf("New(%d, %.40q) is no *Error", k.fault, about)
			}
			if got := err.Error(); got != want {
				t.Errorf("New(%d, %.40q): %.40q, not %.40q", k.fault, about, got, want)
			}
		}
	}
	if got := codes.New(api.NoPath, "0 3").Error(); got != "nopath 0 3" {
		t.Errorf("New(NoPath, 0 3): %q", got)
	}
}

// P402: OK, and values that are no fault, make no error.
func TestNewOfNoFault(t *testing.T) {
	for _, f := range append(notFaults(), api.OK) {
		for _, about := range abouts() {
			if err := codes.New(f, about); err != nil {
				t.Errorf("New(%d, %.40q) is not nil", f, about)
			}
		}
	}
}

// P402: an error is not changed by others.
func TestNewIsNewMemory(t *testing.T) {
	a, b := codes.New(api.Stale, "a"), codes.New(api.Stale, "b")
	c := codes.New(api.Stale, "a")
	if a == b || a == c {
		t.Error("two errors are one")
	}
	if a.Error() != "stale a" || b.Error() != "stale b" || codes.About(a) != "a" || codes.About(b) != "b" {
		t.Errorf("the errors are %q and %q", a, b)
	}
}

func checkIs(t *testing.T, err, target error, want bool) {
	t.Helper()
	if got := errors.Is(err, target); got != want {
		t.Errorf("errors.Is(%T %.40q, %T %.40q): %t", err, err, target, target, got)
	}
}

// P402: errors.Is, by the fault alone, for each two faults and with other abouts.
func TestErrorsIs(t *testing.T) {
	for _, a := range table()[1:] {
		for _, b := range table()[1:] {
			for _, about := range []string{"", "0 3", "x"} {
				for _, other := range []string{"", "0 3", b.word} {
					checkIs(t, codes.New(a.fault, about), codes.New(b.fault, other), a == b)
				}
			}
		}
	}
}

// P402: errors.Is finds an error that is wrapped, but what wraps one is not of this type.
func TestErrorsIsOfWrapped(t *testing.T) {
	for _, a := range table()[1:] {
		err := codes.New(a.fault, "0 3")
		for _, w := range wrappings(err) {
			for _, b := range table()[1:] {
				checkIs(t, w, codes.New(b.fault, ""), a == b)
				checkIs(t, codes.New(b.fault, ""), w, false)
			}
		}
		both := &pair{codes.New(api.Stale, "0"), wrap{err}}
		checkIs(t, both, codes.New(a.fault, ""), true)
		checkIs(t, both, codes.New(api.Stale, ""), true)
	}
}

// P402: no error of another type is equal to one of this type.
func TestErrorsIsOfOthers(t *testing.T) {
	err := codes.New(api.Stale, "")
	e := own(t, api.Stale, "")
	targets := append(others(), nil, disguise{e}, refusal{e}, embedder{e, nil}, panicking{"x"}, panickingAs{e})
	for _, target := range targets {
		checkIs(t, err, target, false)
		if e.Is(target) {
			t.Errorf("Is of %T: true", target)
		}
	}
	for _, other := range others() {
		checkIs(t, other, err, false)
	}
	checkIs(t, nil, err, false)
}

func checkFault(t *testing.T, err error, fault api.Fault, about string) {
	t.Helper()
	if got := codes.Fault(err); got != fault {
		t.Errorf("Fault of %T: %d, not %d", err, got, fault)
	}
	if got := codes.About(err); got != about {
		t.Errorf("About of %T: %.40q, not %.40q", err, got, about)
	}
}

// P402 (Fault, About): nil, and errors that are none of this type.
func TestFaultOfOthers(t *testing.T) {
	checkFault(t, nil, api.OK, "")
	for _, err := range others() {
		checkFault(t, err, api.BadArg, "")
	}
	e := own(t, api.Stale, "x")
	checkFault(t, embedder{e, nil}, api.BadArg, "")
	checkFault(t, embedder{e, errors.New("x")}, api.BadArg, "")
	checkFault(t, refusal{e}, api.BadArg, "")
	checkFault(t, wrap{refusal{e}}, api.BadArg, "")
}

// P402: an error of this type, as it is, and wrapped once and more often.
func TestFaultOfWrapped(t *testing.T) {
	for _, k := range table()[1:] {
		for _, about := range abouts() {
			err := codes.New(k.fault, about)
			checkFault(t, err, k.fault, about)
			for _, w := range wrappings(err) {
				checkFault(t, w, k.fault, about)
			}
			checkFault(t, disguise{own(t, k.fault, about)}, k.fault, about)
		}
	}
	var deep error = codes.New(api.NoPath, "0 3")
	for range 10000 {
		deep = wrap{deep}
	}
	checkFault(t, deep, api.NoPath, "0 3")
}

// P402: the first one of several, where one stands behind another.
func TestFaultOfTheFirst(t *testing.T) {
	for _, a := range table()[1:] {
		for _, b := range table()[1:] {
			first, second := codes.New(a.fault, "first"), codes.New(b.fault, "")
			chains := []error{
				&pair{first, second},
				&pair{wrap{wrap{first}}, second},
				&pair{&pair{errors.New("x"), first}, wrap{second}},
				&pair{wrap{nil}, &pair{wrap{first}, second}},
				wrap{&pair{first, wrap{second}}},
				errors.Join(first, second),
				fmt.Errorf("%w ahead of %w", first, second),
				embedder{own(t, b.fault, "within"), first},
			}
			for _, err := range chains {
				checkFault(t, err, a.fault, "first")
			}
		}
	}
}

// Rule 1: no call panics, whatever the methods of others do.
func TestFaultOfPanicking(t *testing.T) {
	e := own(t, api.Stale, "x")
	for _, err := range []error{panicking{"x"}, panicking{errors.New("x")}, panicking{nil}, panicking{e}, panickingAs{e}, (*pair)(nil)} {
		checkFault(t, err, api.BadArg, "")
		checkFault(t, wrap{err}, api.BadArg, "")
		checkFault(t, &pair{err, e}, api.BadArg, "")
		checkFault(t, &pair{e, err}, api.Stale, "x")
	}
}

// Rule 1: errors that New has not made, of which one is a nil pointer.
func TestErrorsOfNoFault(t *testing.T) {
	for _, e := range []*codes.Error{nil, {}} {
		if e.Error() != "ok" {
			t.Errorf("the text is %q", e.Error())
		}
		for _, err := range []error{e, wrap{e}, disguise{e}} {
			checkFault(t, err, api.OK, "")
			checkIs(t, err, codes.New(api.BadArg, ""), false)
			checkIs(t, codes.New(api.BadArg, ""), err, false)
			checkIs(t, err, nil, false)
		}
		checkIs(t, e, &codes.Error{}, true)
		checkIs(t, wrap{e}, (*codes.Error)(nil), true)
	}
}

// P403: Of inverts Word, and Word inverts Of.
func TestOfInvertsWord(t *testing.T) {
	seen := map[string]int{}
	for _, f := range codes.All() {
		w := codes.Word(f)
		if got, ok := codes.Of(w); got != f || !ok {
			t.Errorf("Of(Word(%d)): %d and %t", f, got, ok)
		}
		seen[w]++
	}
	for _, k := range table() {
		if f, _ := codes.Of(k.word); codes.Word(f) != k.word || seen[k.word] != 1 {
			t.Errorf("Word(Of(%q)): %q, which is the word of %d faults", k.word, codes.Word(f), seen[k.word])
		}
	}
	for _, f := range notFaults() {
		if got, ok := codes.Of(codes.Word(f)); got != 0 || ok {
			t.Errorf("Of(Word(%d)): %d and %t", f, got, ok)
		}
	}
}

// P403: Fault inverts New, and About returns what it was about.
func TestFaultInvertsNew(t *testing.T) {
	for _, f := range codes.All() {
		for _, about := range abouts() {
			want := about
			if f == api.OK {
				want = ""
			}
			checkFault(t, codes.New(f, about), f, want)
		}
	}
}
