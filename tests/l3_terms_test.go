package tests

import (
	"cmp"
	"fmt"
	"math"
	"reflect"
	"slices"
	"strconv"
	"strings"
	"testing"

	"loop.example/g01078/impl"
)

// The signatures and limits of chapter 3 are promised to other packages.
var (
	_ func(impl.Algebra, []int) bool                      = impl.IsTerm
	_ func(impl.Algebra, []int) ([]int, bool)             = impl.VarsOf
	_ func(impl.Algebra, []int) (int, bool)               = impl.DepthOf
	_ func(impl.Algebra, []int, int) ([]int, bool)        = impl.SubtermAt
	_ func(impl.Algebra, []int, int, []int) ([]int, bool) = impl.ReplaceAt
	_ func(impl.Algebra, []int, [][]int) ([]int, bool)    = impl.SubstituteIn
	_ func(impl.Algebra, []int, []int) (int, bool)        = impl.EvalTerm
	_ func(impl.Algebra, []int, int) (impl.Op, bool)      = impl.TermOp
	_ func(impl.Algebra, []int, []int) (int, bool)        = impl.CompareTerms
	_ func(impl.Algebra, []int) ([]int, bool)             = impl.NormalVars
	_ func(impl.Algebra, []int, []int) ([][]int, bool)    = impl.MatchTerm
	_ func(impl.Algebra, []int) (string, bool)            = impl.TermText
	_ func(impl.Algebra, string) ([]int, bool)            = impl.ParseTerm
	_ func(impl.Algebra, impl.Identity) (bool, bool)      = impl.DoesHold
	_ func(impl.Algebra, impl.Identity) ([]int, bool)     = impl.FirstCounter
	_ func(impl.Algebra, []impl.Identity) (int, bool)     = impl.FirstBroken
	_ struct{ Left, Right []int }                         = struct{ Left, Right []int }(impl.Identity{})
)

func TestTermLimits(t *testing.T) {
	if impl.MaxVars != 6 || impl.MaxTerm != 60 || impl.MaxValues != 5000 {
		t.Error("limits", impl.MaxVars, impl.MaxTerm, impl.MaxValues)
	}
}

// tree is a term as one draws it. What the program says of lists is checked against it.
type tree struct {
	head int
	kids []tree
}

func (x tree) list() []int {
	l := []int{x.head}
	for _, k := range x.kids {
		l = append(l, k.list()...)
	}
	return l
}

func (x tree) text() string {
	if x.head >= 0 {
		return "x" + strconv.Itoa(x.head)
	}
	name := "f" + strconv.Itoa(-1-x.head)
	if len(x.kids) == 0 {
		return name
	}
	var parts []string
	for _, k := range x.kids {
		parts = append(parts, k.text())
	}
	return name + "(" + strings.Join(parts, ",") + ")"
}

func (x tree) depth() int {
	if x.head >= 0 {
		return 0
	}
	d := 1
	for _, k := range x.kids {
		d = max(d, 1+k.depth())
	}
	return d
}

func (x tree) value(a impl.Algebra, values []int) int {
	if x.head >= 0 {
		return values[x.head]
	}
	at := 0
	for _, k := range x.kids {
		at = at*a.Size + k.value(a, values)
	}
	return a.Ops[-1-x.head].Table[at]
}

func (x tree) vars() []int {
	var l []int
	for _, n := range x.list() {
		if n >= 0 {
			l = append(l, n)
		}
	}
	slices.Sort(l)
	return slices.Compact(l)
}

// subtrees returns all subterms in the order of their places.
func (x tree) subtrees() []tree {
	all := []tree{x}
	for _, k := range x.kids {
		all = append(all, k.subtrees()...)
	}
	return all
}

func (x tree) put(terms []tree) tree {
	if x.head >= 0 {
		return terms[x.head]
	}
	y := tree{head: x.head}
	for _, k := range x.kids {
		y.kids = append(y.kids, k.put(terms))
	}
	return y
}

// replace returns the tree with another one at a place.
func (x tree) replace(at int, by tree) tree {
	if at == 0 {
		return by
	}
	y := tree{head: x.head}
	at--
	for _, k := range x.kids {
		n := len(k.list())
		if at >= 0 && at < n {
			k = k.replace(at, by)
		}
		at -= n
		y.kids = append(y.kids, k)
	}
	return y
}

// treesUpTo returns all trees of at most n numbers for an Algebra that have some variables, the
// smaller ones first.
func treesUpTo(a impl.Algebra, n int, vars ...int) []tree {
	sized := make([][]tree, n+1)
	for size := 1; size <= n; size++ {
		if size == 1 {
			for _, v := range vars {
				sized[1] = append(sized[1], tree{head: v})
			}
		}
		for k, f := range a.Ops {
			for _, kids := range forests(sized, f.Arity, size-1) {
				sized[size] = append(sized[size], tree{head: -1 - k, kids: kids})
			}
		}
	}
	return slices.Concat(sized...)
}

// forests returns all lists of count trees that have total numbers together.
func forests(sized [][]tree, count, total int) [][]tree {
	if count == 0 {
		if total == 0 {
			return [][]tree{nil}
		}
		return nil
	}
	var all [][]tree
	for first := 1; first <= total; first++ {
		for _, rest := range forests(sized, count-1, total-first) {
			for _, x := range sized[first] {
				all = append(all, append([]tree{x}, rest...))
			}
		}
	}
	return all
}

// nested returns the list of n times an operation of the Arity 1, and a term behind them.
func nested(op, n int, behind ...int) []int {
	return append(slices.Repeat([]int{-1 - op}, n), behind...)
}

// comb returns the list of n times an operation of the Arity 2 and n+1 times a variable.
func comb(op, n, v int) []int {
	return append(slices.Repeat([]int{-1 - op}, n), slices.Repeat([]int{v}, n+1)...)
}

// termAlgebras returns Algebras with some known laws and others with none, of several types.
func termAlgebras() []impl.Algebra {
	semilattice := impl.Algebra{Size: 2, Ops: []impl.Op{{Arity: 2, Table: []int{0, 0, 0, 1}}, {Arity: 1, Table: []int{1, 0}}, {Table: []int{1}}}}
	group := algebraOf(3, []int{2, 1, 0}, func(op, at int) int { return []int{(at/3 + at) % 3, (3 - at) % 3, 0}[op] })
	return []impl.Algebra{semilattice, group, unevenOf(2, 2, 1, 0), unevenOf(3, 0, 2, 1), unevenOf(2, 3, 0, 1), unevenOf(1, 2, 1, 0), unevenOf(4, 1, 1, 0, 0), {Size: 3}}
}

func zeroOp(f impl.Op) bool { return f.Arity == 0 && len(f.Table) == 0 }

// isTermByRule tells by recursion whether some list is a term, without a limit of its length.
func isTermByRule(a impl.Algebra, list []int) bool {
	var rest func(l []int, count int) bool
	rest = func(l []int, count int) bool {
		switch {
		case count == 0 || len(l) == 0:
			return count == 0 && len(l) == 0
		case l[0] >= 0 && l[0] < 6:
			return rest(l[1:], count-1)
		case l[0] < 0 && l[0] >= -len(a.Ops):
			return rest(l[1:], count-1+a.Ops[-1-l[0]].Arity)
		}
		return false
	}
	return rest(list, 1)
}

func TestIsTermOfAllShortLists(t *testing.T) {
	for _, a := range termAlgebras() {
		written := map[string]bool{}
		for _, x := range treesUpTo(a, 5, 0, 1, 5) {
			written[fmt.Sprint(x.list())] = true
		}
		signs := []int{0, 1, 5, 6, -1, -2, -3, -4, -5}
		found := 0
		for n := range 6 {
			for _, places := range argsOf(len(signs), n) {
				list := []int{}
				for _, p := range places {
					list = append(list, signs[p])
				}
				want := written[fmt.Sprint(list)]
				if impl.IsTerm(a, list) != want || isTermByRule(a, list) != want {
					t.Fatal("term", a, list, want)
				}
				if want {
					found++
				}
			}
		}
		if found != len(written) {
			t.Error("terms", a, found, len(written))
		}
	}
}

func TestIsTermOfEachNumber(t *testing.T) {
	a := unevenOf(2, 0, 0, 1, 0)
	for _, n := range []int{0, 1, 2, 3, 4, 5, -1, -2, -4} {
		if !impl.IsTerm(a, []int{n}) || !impl.IsTerm(a, []int{-3, n}) {
			t.Error("is a term", n)
		}
	}
	for _, n := range []int{6, 7, 60, -5, -6, -61, math.MaxInt, math.MinInt, math.MinInt + 1, math.MaxInt - 1, 1 << 32, -1 - 1<<32} {
		if impl.IsTerm(a, []int{n}) || impl.IsTerm(a, []int{-3, n}) || impl.IsTerm(a, []int{n, 0}) || impl.IsTerm(a, []int{0, n}) {
			t.Error("is no term", n)
		}
	}
	if !impl.IsTerm(impl.Algebra{Size: 1}, []int{5}) || impl.IsTerm(impl.Algebra{Size: 1}, []int{-1}) {
		t.Error("without operations")
	}
	if impl.IsTerm(a, nil) || impl.IsTerm(a, []int{}) || impl.IsTerm(a, []int{-3}) || impl.IsTerm(a, []int{-1, 0}) {
		t.Error("empty, too short or too long")
	}
}

func TestIsTermAtTheLimit(t *testing.T) {
	a := unevenOf(2, 2, 1, 0, 3)
	long := append([]int{-4, -3, -3}, nested(1, 56, 5)...)
	for _, list := range [][]int{nested(1, 59, 0), nested(1, 59, -3), long, append([]int{-2}, comb(0, 29, 2)...), comb(0, 29, 5)} {
		if !impl.IsTerm(a, list) {
			t.Error("is a term", len(list))
		}
		longer := append([]int{-2}, list...)
		if impl.IsTerm(a, longer) != (len(longer) <= 60) || !isTermByRule(a, longer) {
			t.Error("one more", len(longer))
		}
		if impl.IsTerm(a, list[:len(list)-1]) || impl.IsTerm(a, append(slices.Clone(list), 0)) || impl.IsTerm(a, append([]int{-1}, list...)) {
			t.Error("ends too early or too late", len(list))
		}
	}
	for _, list := range [][]int{comb(0, 30, 0), nested(1, 60, 0), nested(1, 100000, 0), make([]int, 1<<20), slices.Repeat([]int{-1}, 1<<20)} {
		if impl.IsTerm(a, list) {
			t.Error("too long", len(list))
		}
	}
}

// badLists returns lists that are no terms for an Algebra of the type 2, 1, 0.
func badLists() [][]int {
	return [][]int{
		nil, {}, {-1}, {-1, 0}, {-2}, {-1, -1, 0, 0}, {-1, 0, -2}, {-2, -1, 0},
		{0, 0}, {-3, 0}, {-2, 0, 1}, {-1, 0, 1, 2}, {-3, -3}, {5, -3},
		{6}, {-4}, {-5}, {-2, 6}, {-1, 0, 6}, {-1, 6, 0}, {-1, -4, 0}, {-4, 0}, {7}, {math.MaxInt}, {math.MinInt}, {-2, math.MinInt}, {-2, math.MaxInt},
		nested(1, 60, 0), nested(1, 60, -3), comb(0, 30, 1), slices.Repeat([]int{-1}, 60), make([]int, 60), make([]int, 100000), nested(1, 100000, 0),
	}
}

// notRefused returns the names of the functions that do not refuse a list as a term for an
// Algebra, at each place where they take one.
func notRefused(a impl.Algebra, list []int) []string {
	var names []string
	refused := func(name string, is bool) {
		if !is {
			names = append(names, name)
		}
	}
	ints := func(name string) func([]int, bool) {
		return func(l []int, ok bool) { refused(name, len(l) == 0 && !ok) }
	}
	number := func(name string) func(int, bool) {
		return func(n int, ok bool) { refused(name, n == 0 && !ok) }
	}
	good, values := []int{-2, 0}, make([]int, 6)
	refused("IsTerm", !impl.IsTerm(a, list))
	ints("VarsOf")(impl.VarsOf(a, list))
	number("DepthOf")(impl.DepthOf(a, list))
	ints("SubtermAt")(impl.SubtermAt(a, list, 0))
	ints("ReplaceAt")(impl.ReplaceAt(a, list, 0, good))
	ints("ReplaceAt by")(impl.ReplaceAt(a, good, 0, list))
	ints("SubstituteIn")(impl.SubstituteIn(a, list, [][]int{{0}, {1}, {2}, {3}, {4}, {5}}))
	ints("SubstituteIn first")(impl.SubstituteIn(a, good, [][]int{list, {1}}))
	ints("SubstituteIn one that is not needed")(impl.SubstituteIn(a, good, [][]int{{0}, {1}, list}))
	number("EvalTerm")(impl.EvalTerm(a, list, values))
	number("CompareTerms")(impl.CompareTerms(a, list, good))
	number("CompareTerms second")(impl.CompareTerms(a, good, list))
	ints("NormalVars")(impl.NormalVars(a, list))
	ints("FirstCounter")(impl.FirstCounter(a, impl.Identity{Left: list, Right: good}))
	ints("FirstCounter right")(impl.FirstCounter(a, impl.Identity{Left: []int{0}, Right: list}))
	for arity := range 4 {
		f, ok := impl.TermOp(a, list, arity)
		refused("TermOp", zeroOp(f) && !ok)
	}
	m, ok := impl.MatchTerm(a, list, good)
	n, fine := impl.MatchTerm(a, []int{0}, list)
	s, well := impl.TermText(a, list)
	refused("MatchTerm", len(m) == 0 && !ok)
	refused("MatchTerm second", len(n) == 0 && !fine)
	refused("TermText", s == "" && !well)
	for _, e := range []impl.Identity{{Left: list, Right: good}, {Left: good, Right: list}, {Left: list, Right: list}} {
		is, ok := impl.DoesHold(a, e)
		refused("DoesHold", !is && !ok)
		number("FirstBroken")(impl.FirstBroken(a, []impl.Identity{e}))
		number("FirstBroken last")(impl.FirstBroken(a, []impl.Identity{{Left: good, Right: good}, {Left: good, Right: []int{0}}, e}))
	}
	return names
}

func TestTermFunctionsRefuseOtherLists(t *testing.T) {
	for _, a := range []impl.Algebra{unevenOf(2, 2, 1, 0), unevenOf(3, 2, 1, 0), unevenOf(1, 2, 1, 0)} {
		if got := notRefused(a, []int{-2, 0}); len(got) < 15 {
			t.Error("a term is refused", got)
		}
		for _, list := range badLists() {
			if got := notRefused(a, list); len(got) != 0 {
				t.Errorf("%.60s: %v", fmt.Sprint(list), got)
			}
		}
	}
}

func TestTermFunctionsRefuseInvalidAlgebras(t *testing.T) {
	for _, a := range invalidAlgebras() {
		for _, list := range [][]int{{0}, {-1}, {-2, 0}, {-1, 0, 1}, nil, {5}} {
			if got := notRefused(a, list); len(got) != 0 {
				t.Errorf("Size %d, %.60s: %v", a.Size, fmt.Sprint(a.Ops), got)
			}
		}
		for _, s := range []string{"", "x0", "f0", "f0(x0)", "f0(x0,x1)"} {
			if l, ok := impl.ParseTerm(a, s); ok || len(l) != 0 {
				t.Error("read", a.Size, s, l)
			}
		}
		if n, ok := impl.FirstBroken(a, nil); ok || n != 0 {
			t.Error("none is broken", a.Size, n)
		}
	}
}

func TestVarsOfAndDepthOf(t *testing.T) {
	for _, a := range termAlgebras() {
		for _, x := range treesUpTo(a, 5, 0, 3, 5) {
			v, one := impl.VarsOf(a, x.list())
			d, two := impl.DepthOf(a, x.list())
			if !one || !two || !slices.Equal(v, x.vars()) || d != x.depth() {
				t.Fatal("variables and depth", x.text(), v, one, d, two)
			}
		}
	}
	a := unevenOf(2, 2, 1, 0, 3)
	cases := []struct {
		list, vars []int
		depth      int
	}{
		{[]int{5}, []int{5}, 0},
		{[]int{-3}, nil, 1},
		{[]int{-2, -3}, nil, 2},
		{[]int{-4, -3, -3, -3}, nil, 2},
		{[]int{-4, 5, 3, 1}, []int{1, 3, 5}, 1},
		{[]int{-1, 4, -1, 4, 0}, []int{0, 4}, 2},
		{[]int{-1, -1, -2, 0, 1, 2}, []int{0, 1, 2}, 3},
		{[]int{-4, 0, -2, -2, -3, 1}, []int{0, 1}, 4},
		{[]int{-1, -1, -1, -1, -1, 5, 4, 3, 2, 1, 0}, []int{0, 1, 2, 3, 4, 5}, 5},
		{nested(1, 59, 2), []int{2}, 59},
		{nested(1, 59, -3), nil, 60},
		{comb(0, 29, 1), []int{1}, 29},
	}
	for _, c := range cases {
		v, one := impl.VarsOf(a, c.list)
		d, two := impl.DepthOf(a, c.list)
		if !one || !two || !slices.Equal(v, c.vars) || d != c.depth {
			t.Error("variables and depth", c.list, v, d)
		}
	}
}

func TestSubtermAt(t *testing.T) {
	for _, a := range termAlgebras() {
		for _, x := range treesUpTo(a, 5, 0, 4) {
			list := x.list()
			for at, y := range x.subtrees() {
				if s, ok := impl.SubtermAt(a, list, at); !ok || !slices.Equal(s, y.list()) {
					t.Fatal("subterm", list, at, s, ok)
				}
			}
			for _, at := range []int{-1, len(list), len(list) + 1, -len(list), 60, math.MaxInt, math.MinInt} {
				if s, ok := impl.SubtermAt(a, list, at); ok || len(s) != 0 {
					t.Fatal("no such place", list, at, s)
				}
			}
		}
	}
	a, long := unevenOf(2, 2, 1), nested(1, 59, 4)
	for at := range 60 {
		if s, ok := impl.SubtermAt(a, long, at); !ok || !slices.Equal(s, long[at:]) {
			t.Error("subterm", at, s)
		}
	}
	if s, ok := impl.SubtermAt(a, long, 60); ok || len(s) != 0 {
		t.Error("behind the end", s)
	}
}

func TestReplaceAt(t *testing.T) {
	for _, a := range termAlgebras() {
		by := treesUpTo(a, 3, 1, 5)
		for _, x := range treesUpTo(a, 4, 0, 1) {
			list := x.list()
			for at := range list {
				for _, y := range by {
					if s, ok := impl.ReplaceAt(a, list, at, y.list()); !ok || !slices.Equal(s, x.replace(at, y).list()) {
						t.Fatal("replaced", list, at, y.list(), s, ok)
					}
				}
			}
			for _, at := range []int{-1, len(list), len(list) + 1, 60, math.MaxInt, math.MinInt} {
				if s, ok := impl.ReplaceAt(a, list, at, []int{0}); ok || len(s) != 0 {
					t.Fatal("no such place", list, at, s)
				}
			}
		}
	}
}

func TestReplaceAtTheLimit(t *testing.T) {
	a := unevenOf(2, 2, 1, 0)
	full, forty := nested(1, 59, 0), nested(1, 39, 1)
	cases := []struct {
		list []int
		at   int
		by   []int
		size int
	}{
		{full, 0, full, 60}, {full, 0, []int{5}, 1}, {full, 59, []int{-3}, 60}, {full, 59, []int{-2, 0}, 61}, {full, 58, []int{-2, -3}, 60},
		{full, 58, []int{-1, 0, 1}, 61}, {full, 57, []int{-1, 0, 1}, 60}, {full, 1, full, 61}, {full, 1, full[1:], 60}, {full, 59, full, 119},
		{forty, 39, nested(1, 20, 2), 60}, {forty, 39, nested(1, 21, 2), 61}, {forty, 20, forty, 60}, {forty, 21, forty, 61},
		{[]int{-1, 0, 1}, 1, nested(1, 57, 0), 60}, {[]int{-1, 0, 1}, 2, nested(1, 57, 0), 60},
		{[]int{-1, 0, 1}, 1, nested(1, 58, 0), 61}, {[]int{-1, 0, 1}, 2, nested(1, 58, 0), 61},
		{comb(0, 29, 3), 58, []int{-2, 4}, 60}, {comb(0, 29, 3), 58, []int{-1, 4, 4}, 61}, {comb(0, 29, 3), 0, comb(0, 29, 3), 59},
	}
	for _, c := range cases {
		s, ok := impl.ReplaceAt(a, c.list, c.at, c.by)
		if ok != (c.size <= 60) || ok && (len(s) != c.size || !slices.Equal(s[:c.at], c.list[:c.at]) || !impl.IsTerm(a, s)) || !ok && len(s) != 0 {
			t.Error("replaced", len(c.list), c.at, len(c.by), len(s), ok)
		}
	}
}

func listsOf(trees []tree) [][]int {
	var lists [][]int
	for _, x := range trees {
		lists = append(lists, x.list())
	}
	return lists
}

// someSubstitutions returns lists of six trees with different ones for different variables.
func someSubstitutions(a impl.Algebra) [][]tree {
	all := treesUpTo(a, 3, 0, 2, 5)
	var lists [][]tree
	for _, step := range []int{1, 2, 5, 7} {
		var list []tree
		for v := range 6 {
			list = append(list, all[(v*step+step)%len(all)])
		}
		lists = append(lists, list)
	}
	return append(lists, []tree{{head: 1}, {head: 0}, {head: 3}, {head: 4}, {head: 5}, {head: 2}})
}

func TestSubstituteIn(t *testing.T) {
	for _, a := range termAlgebras() {
		for _, x := range treesUpTo(a, 4, 0, 1, 5) {
			for _, terms := range someSubstitutions(a) {
				if s, ok := impl.SubstituteIn(a, x.list(), listsOf(terms)); !ok || !slices.Equal(s, x.put(terms).list()) {
					t.Fatal("put", x.text(), listsOf(terms), s, ok)
				}
			}
		}
	}
}

func TestSubstituteInNumbersOfTerms(t *testing.T) {
	a := unevenOf(2, 2, 1, 0)
	six := [][]int{{5}, {4}, {3}, {2}, {1}, {-3}}
	for _, x := range treesUpTo(a, 4, 0, 2, 5) {
		needed := 0
		for _, v := range x.vars() {
			needed = v + 1
		}
		for n := range 7 {
			s, ok := impl.SubstituteIn(a, x.list(), six[:n])
			if ok != (n >= needed) || ok != (len(s) > 0) {
				t.Fatal("put", x.text(), n, s, ok)
			}
		}
		for _, many := range [][][]int{append(slices.Clone(six), []int{0}), slices.Repeat([][]int{{0}}, 100000), append(slices.Clone(six), nil)} {
			if s, ok := impl.SubstituteIn(a, x.list(), many); ok || len(s) != 0 {
				t.Fatal("too many terms", x.text(), s)
			}
		}
	}
	if s, ok := impl.SubstituteIn(a, []int{-3}, nil); !ok || !slices.Equal(s, []int{-3}) {
		t.Error("a constant needs no terms", s, ok)
	}
	if s, ok := impl.SubstituteIn(a, []int{-1, 0, 1}, [][]int{{1}, {0}}); !ok || !slices.Equal(s, []int{-1, 1, 0}) {
		t.Error("all at once", s, ok)
	}
	if s, ok := impl.SubstituteIn(a, []int{-1, 0, 1}, [][]int{{-2, 1}, {-2, 0}}); !ok || !slices.Equal(s, []int{-1, -2, 1, -2, 0}) {
		t.Error("all at once", s, ok)
	}
}

func TestSubstituteInAtTheLimit(t *testing.T) {
	a := unevenOf(2, 2, 1, 0)
	full := nested(1, 59, 0)
	cases := []struct {
		list  []int
		terms [][]int
		size  int
	}{
		{[]int{0}, [][]int{full}, 60}, {full, [][]int{{1}}, 60}, {full, [][]int{{-3}}, 60}, {full, [][]int{{-2, 0}}, 61}, {full, [][]int{full}, 119},
		{[]int{-1, 0, 1}, [][]int{full[31:], full[30:]}, 60}, {[]int{-1, 0, 1}, [][]int{full[30:], full[30:]}, 61}, {[]int{-1, 1, 0}, [][]int{full[58:], full[3:]}, 60},
		{[]int{-1, 1, 0}, [][]int{full[58:], full[2:]}, 61}, {[]int{-1, 0, 0}, [][]int{full[31:]}, 59}, {[]int{-1, 0, 0}, [][]int{full[30:]}, 61},
		{comb(0, 29, 0), [][]int{{3}}, 59}, {comb(0, 29, 0), [][]int{{-2, 3}}, 89}, {comb(0, 14, 0), [][]int{{-1, 0, 0}}, 59}, {comb(0, 11, 1), [][]int{full, {-2, -1, 0, 0}}, 59},
		{append([]int{-1, 1}, comb(0, 14, 0)...), [][]int{{-2, 4}, full[45:]}, 60}, {append([]int{-1, 1}, comb(0, 14, 0)...), [][]int{{-2, 4}, full[44:]}, 61},
		{[]int{-2, 1}, [][]int{full, {0}}, 2}, {[]int{-3}, [][]int{full, full, full, full, full, full}, 1}, {comb(0, 29, 5), [][]int{full, full, full, full, full, full}, 29 + 30*60},
	}
	for _, c := range cases {
		s, ok := impl.SubstituteIn(a, c.list, c.terms)
		if ok != (c.size <= 60) || ok && (len(s) != c.size || !impl.IsTerm(a, s)) || !ok && len(s) != 0 {
			t.Error("put", c.list, len(s), c.size, ok)
		}
	}
}

func TestEvalTerm(t *testing.T) {
	for _, a := range termAlgebras() {
		for _, x := range treesUpTo(a, 4, 0, 1, 2) {
			for _, values := range argsOf(a.Size, 3) {
				if v, ok := impl.EvalTerm(a, x.list(), values); !ok || v != x.value(a, values) {
					t.Fatal("value", a, x.text(), values, v, ok)
				}
			}
		}
	}
	a := algebraOf(8, []int{2, 1, 0, 3}, func(op, at int) int {
		return []int{(at/8 + 7*at) % 8, (at + 1) % 8, 3, (at/64 + 2*(at/8) + 4*at) % 8}[op]
	})
	cases := []struct {
		list, values []int
		want         int
	}{
		{[]int{5}, []int{0, 1, 2, 3, 4, 7}, 7}, {[]int{0}, []int{6}, 6}, {[]int{-3}, nil, 3}, {[]int{-3}, []int{1}, 3}, {[]int{-2, -3}, nil, 4},
		{[]int{-1, 0, 1}, []int{5, 3}, 2}, {[]int{-1, 1, 0}, []int{5, 3}, 6}, {[]int{-1, -1, 0, 1, 2}, []int{7, 1, 2}, 4}, {[]int{-1, 0, -1, 1, 2}, []int{7, 1, 2}, 0},
		{[]int{-4, 0, 1, 2}, []int{1, 2, 0}, 5}, {[]int{-4, 2, 1, 0}, []int{1, 2, 0}, 0}, {nested(1, 59, 0), []int{0}, 3}, {nested(1, 59, -3), nil, 6},
	}
	for _, c := range cases {
		if v, ok := impl.EvalTerm(a, c.list, c.values); !ok || v != c.want {
			t.Error("value", c.list, c.values, v, ok)
		}
	}
}

func TestEvalTermRefusesValues(t *testing.T) {
	a := unevenOf(3, 2, 1, 0)
	cases := []struct{ list, values []int }{
		{[]int{0}, nil}, {[]int{1}, []int{0}}, {[]int{5}, []int{0, 0, 0, 0, 0}}, {[]int{-1, 0, 2}, []int{0, 1}}, {[]int{-2, 0}, []int{}},
		{[]int{0}, []int{3}}, {[]int{0}, []int{-1}}, {[]int{0}, []int{0, 3}}, {[]int{0}, []int{0, 0, 0, 0, 0, -1}}, {[]int{-3}, []int{3}}, {[]int{0}, []int{math.MaxInt}}, {[]int{0}, []int{math.MinInt}},
		{[]int{0}, make([]int, 7)}, {[]int{-3}, make([]int, 7)}, {[]int{5}, make([]int, 7)}, {[]int{0}, make([]int, 100000)},
	}
	for _, c := range cases {
		if v, ok := impl.EvalTerm(a, c.list, c.values); ok || v != 0 {
			t.Errorf("value %v %.30s: %d, %v", c.list, fmt.Sprint(c.values), v, ok)
		}
	}
	if v, ok := impl.EvalTerm(a, []int{5}, []int{0, 0, 0, 0, 0, 2}); !ok || v != 2 {
		t.Error("six values", v, ok)
	}
}

// The guarantee of the chapter: putting terms for the variables is taking their values for them.
func TestValueOfASubstitution(t *testing.T) {
	for _, a := range termAlgebras() {
		checked := 0
		for _, x := range treesUpTo(a, 4, 0, 1, 5) {
			for _, terms := range someSubstitutions(a) {
				s, ok := impl.SubstituteIn(a, x.list(), listsOf(terms))
				if !ok {
					t.Fatal("not put", x.text())
				}
				for _, three := range argsOf(a.Size, 3) {
					values := []int{three[0], three[1], three[1], 0, three[0], three[2]}
					var inner []int
					for _, y := range terms {
						v, ok := impl.EvalTerm(a, y.list(), values)
						if !ok {
							t.Fatal("no value", y.text())
						}
						inner = append(inner, v)
					}
					v, one := impl.EvalTerm(a, s, values)
					w, two := impl.EvalTerm(a, x.list(), inner)
					if !one || !two || v != w {
						t.Fatal("values", a, x.text(), listsOf(terms), values, v, w)
					}
					checked++
				}
			}
		}
		if checked == 0 {
			t.Error("nothing checked")
		}
	}
}

func TestTermOp(t *testing.T) {
	for _, a := range termAlgebras() {
		for _, x := range treesUpTo(a, 4, 0, 1, 2) {
			vars := x.vars()
			for arity := -2; arity <= 6; arity++ {
				f, ok := impl.TermOp(a, x.list(), arity)
				if want := arity >= 0 && arity <= 3 && (len(vars) == 0 || vars[len(vars)-1] < arity); ok != want {
					t.Fatal("operation", x.text(), arity, f, ok)
				}
				if !ok {
					if !zeroOp(f) {
						t.Fatal("operation", x.text(), arity, f)
					}
					continue
				}
				if f.Arity != arity || len(f.Table) != power(a.Size, arity) || !impl.IsAlgebra(impl.Algebra{Size: a.Size, Ops: []impl.Op{f}}) {
					t.Fatal("operation", x.text(), arity, f)
				}
				for at, values := range argsOf(a.Size, arity) {
					if f.Table[at] != x.value(a, values) {
						t.Fatal("operation", x.text(), values, f)
					}
				}
			}
		}
	}
	for _, v := range []int{3, 4, 5} {
		for _, arity := range []int{0, 3, 4, 5, 6, math.MaxInt, math.MinInt, -1} {
			if f, ok := impl.TermOp(unevenOf(2, 2), []int{v}, arity); ok || !zeroOp(f) {
				t.Error("operation", v, arity, f)
			}
		}
	}
}

// An operation is the one of the term that has it in front of the variables.
func TestTermOpOfOperations(t *testing.T) {
	for _, a := range someAlgebras() {
		for k, f := range a.Ops {
			list := append([]int{-1 - k}, firstNumbers(f.Arity)...)
			if g, ok := impl.TermOp(a, list, f.Arity); !ok || g.Arity != f.Arity || !slices.Equal(g.Table, f.Table) {
				t.Error("operation", a.Size, k, g, ok)
			}
		}
	}
}

func TestCompareTerms(t *testing.T) {
	for _, a := range termAlgebras() {
		trees := treesUpTo(a, 4, 0, 1, 5)
		for _, x := range trees {
			for _, y := range trees {
				l, m := x.list(), y.list()
				want := cmp.Compare(len(l), len(m))
				for i := 0; want == 0 && i < len(l); i++ {
					want = cmp.Compare(l[i], m[i])
				}
				if n, ok := impl.CompareTerms(a, l, m); !ok || n != want {
					t.Fatal("order", l, m, n, ok)
				}
			}
		}
	}
	a := unevenOf(2, 2, 1, 0)
	sorted := [][]int{{-3}, {0}, {1}, {5}, {-2, -3}, {-2, 0}, {-2, 5}, {-2, -2, -3}, {-2, -2, 5}, {-1, -3, -3}, {-1, -3, 0}, {-1, 0, -3}, {-1, 0, 1}, {-1, 1, 0}, nested(1, 59, -3), nested(1, 59, 4)}
	for i, l := range sorted {
		for j, m := range sorted {
			if n, ok := impl.CompareTerms(a, l, m); !ok || n != cmp.Compare(i, j) {
				t.Error("order", l, m, n, ok)
			}
		}
	}
}

func TestNormalVars(t *testing.T) {
	for _, a := range termAlgebras() {
		for _, x := range treesUpTo(a, 5, 0, 1, 4) {
			names := map[int]int{}
			want := x.list()
			for i, n := range want {
				if n < 0 {
					continue
				}
				if _, met := names[n]; !met {
					names[n] = len(names)
				}
				want[i] = names[n]
			}
			s, ok := impl.NormalVars(a, x.list())
			if !ok || !slices.Equal(s, want) {
				t.Fatal("renamed", x.text(), s, ok)
			}
			if r, ok := impl.NormalVars(a, s); !ok || !slices.Equal(r, s) {
				t.Fatal("renamed twice", x.text(), r, ok)
			}
		}
	}
	a := unevenOf(2, 2, 1, 0)
	for _, c := range [][2][]int{
		{{5}, {0}}, {{0}, {0}}, {{-3}, {-3}}, {{-2, -3}, {-2, -3}}, {{-1, 1, 0}, {-1, 0, 1}}, {{-1, 3, 3}, {-1, 0, 0}}, {{-1, 2, -1, 1, 2}, {-1, 0, -1, 1, 0}},
		{{-1, 5, -1, 4, -1, 3, -1, 2, -1, 1, 0}, {-1, 0, -1, 1, -1, 2, -1, 3, -1, 4, 5}}, {{-1, -1, 1, 2, -1, 2, 0}, {-1, -1, 0, 1, -1, 1, 2}}, {nested(1, 59, 3), nested(1, 59, 0)},
	} {
		if s, ok := impl.NormalVars(a, c[0]); !ok || !slices.Equal(s, c[1]) {
			t.Error("renamed", c[0], s, ok)
		}
	}
}

// matchByTrial tries all subterms of a tree for the variables of a pattern.
func matchByTrial(pattern, x tree) ([]tree, bool) {
	parts, vars := x.subtrees(), pattern.vars()
	for _, places := range argsOf(len(parts), len(vars)) {
		terms := make([]tree, 6)
		for i, p := range places {
			terms[vars[i]] = parts[p]
		}
		if slices.Equal(pattern.put(terms).list(), x.list()) {
			return terms, true
		}
	}
	return nil, false
}

func TestMatchTerm(t *testing.T) {
	for _, a := range []impl.Algebra{unevenOf(2, 2, 1, 0), unevenOf(1, 3, 0), unevenOf(2, 0, 1)} {
		matches := 0
		for _, pattern := range treesUpTo(a, 4, 0, 3) {
			for _, x := range treesUpTo(a, 5, 0, 1) {
				want, is := matchByTrial(pattern, x)
				m, ok := impl.MatchTerm(a, pattern.list(), x.list())
				if ok != is || !ok && len(m) != 0 || ok && len(m) != 6 {
					t.Fatal("match", pattern.text(), x.text(), m, ok)
				}
				if ok {
					matches++
					checkMatch(t, a, pattern, x, m, want)
				}
			}
		}
		if matches == 0 {
			t.Error("no matches")
		}
	}
}

func checkMatch(t *testing.T, a impl.Algebra, pattern, x tree, m [][]int, want []tree) {
	var filled [][]int
	for v, list := range m {
		if !slices.Contains(pattern.vars(), v) {
			if len(list) != 0 {
				t.Fatal("no variable of the pattern", pattern.text(), v, list)
			}
			filled = append(filled, []int{v})
			continue
		}
		if !slices.Equal(list, want[v].list()) {
			t.Fatal("match", pattern.text(), x.text(), v, list)
		}
		filled = append(filled, list)
	}
	if s, ok := impl.SubstituteIn(a, pattern.list(), filled); !ok || !slices.Equal(s, x.list()) {
		t.Fatal("put back", pattern.text(), x.text(), s, ok)
	}
}

func TestMatchTermCases(t *testing.T) {
	a := unevenOf(2, 2, 1, 0, 0)
	cases := []struct {
		pattern, list []int
		want          [][]int
	}{
		{[]int{0}, []int{-1, 0, 1}, [][]int{{-1, 0, 1}, nil, nil, nil, nil, nil}},
		{[]int{5}, []int{-3}, [][]int{nil, nil, nil, nil, nil, {-3}}},
		{[]int{2}, []int{5}, [][]int{nil, nil, {5}, nil, nil, nil}},
		{[]int{-1, 0, 0}, []int{-1, -2, 1, -2, 1}, [][]int{{-2, 1}, nil, nil, nil, nil, nil}},
		{[]int{-1, 0, 0}, []int{-1, -2, 1, -2, 2}, nil},
		{[]int{-1, 0, 0}, []int{-1, -2, 1, 1}, nil},
		{[]int{-1, 0, 0}, []int{-1, 1, -2, 1}, nil},
		{[]int{-1, 1, 0}, []int{-1, 0, 1}, [][]int{{1}, {0}, nil, nil, nil, nil}},
		{[]int{-1, 0, -1, 4, 0}, []int{-1, 3, -1, -2, 3, 3}, [][]int{{3}, nil, nil, nil, {-2, 3}, nil}},
		{[]int{-1, 0, -1, 4, 0}, []int{-1, 3, -1, -2, 3, 4}, nil},
		{[]int{-1, 0, 1}, []int{0}, nil},
		{[]int{-2, 0}, []int{0}, nil},
		{[]int{-2, 0}, []int{-1, 0, 0}, nil},
		{[]int{-3}, []int{-3}, make([][]int, 6)},
		{[]int{-3}, []int{-4}, nil},
		{[]int{-3}, []int{0}, nil},
		{[]int{-2, -3}, []int{-2, -4}, nil},
		{[]int{-2, -3}, []int{-2, -3}, make([][]int, 6)},
		{nested(1, 59, 3), nested(1, 59, -4), [][]int{nil, nil, nil, {-4}, nil, nil}},
		{nested(1, 59, -3), nested(1, 58, 0), nil},
		{nested(1, 58, 1), nested(1, 59, 0), [][]int{nil, {-2, 0}, nil, nil, nil, nil}},
		{[]int{1}, nested(1, 59, 0), [][]int{nil, nested(1, 59, 0), nil, nil, nil, nil}},
	}
	for _, c := range cases {
		m, ok := impl.MatchTerm(a, c.pattern, c.list)
		if ok != (c.want != nil) || !slices.EqualFunc(m, c.want, slices.Equal[[]int]) {
			t.Error("match", c.pattern, c.list, m, ok)
		}
	}
}

func TestTermText(t *testing.T) {
	for _, a := range termAlgebras() {
		for _, x := range treesUpTo(a, 5, 0, 1, 5) {
			s, ok := impl.TermText(a, x.list())
			if !ok || s != x.text() {
				t.Fatal("text", x.list(), s, ok)
			}
			if l, ok := impl.ParseTerm(a, s); !ok || !slices.Equal(l, x.list()) {
				t.Fatal("read", s, l, ok)
			}
		}
	}
	a := unevenOf(2, 2, 1, 0, 3)
	cases := map[string][]int{
		"x0": {0}, "x5": {5}, "f2": {-3}, "f1(x4)": {-2, 4}, "f1(f2)": {-2, -3}, "f0(x0,f1(x2))": {-1, 0, -2, 2}, "f0(f0(x0,x1),f2)": {-1, -1, 0, 1, -3}, "f3(f2,f2,f2)": {-4, -3, -3, -3},
		"f3(x0,f3(x1,x2,x3),f0(x4,x5))": {-4, 0, -4, 1, 2, 3, -1, 4, 5}, strings.Repeat("f1(", 59) + "x3" + strings.Repeat(")", 59): nested(1, 59, 3),
		strings.Repeat("f0(", 29) + "x1" + strings.Repeat(",x1)", 29): comb(0, 29, 1),
	}
	for want, list := range cases {
		if s, ok := impl.TermText(a, list); !ok || s != want {
			t.Error("text", list, s, ok)
		}
		if l, ok := impl.ParseTerm(a, want); !ok || !slices.Equal(l, list) {
			t.Error("read", want, l, ok)
		}
	}
}

func TestParseTermRefuses(t *testing.T) {
	a := unevenOf(2, 2, 1, 0)
	cases := []string{
		"", " ", "x", "f", "0", "(", ")", ",", "()", "x()", "f()", "-1", "x-1", "x+1", "f-1", "x 0", " x0", "x0 ", "x0\n", "x0\x00", "X0", "F2", "y0", "x0x1", "x0,x1", "(x0)", "x0()", "x0(x1)", "x0,", ",x0",
		"x6", "x7", "x9", "x10", "x00", "x01", "x05", "x50", "x000", "x\u0660", "x\xff", "x/", "x:", "f/", "f:", "f/(x0)", "f1(x/)", "x18446744073709551616", "x4294967296", "x256", "x1.0",
		"f3", "f4", "f9", "f02", "f00(x0,x1)", "f01(x0)", "f10(x0)", "f21", "f20", "f2()", "f2(x0)", "f2 ", "f2(f2)", "f1(f2())", "f2,", "f2)", "f3()", "f3(x0)",
		"f1", "f1(", "f1()", "f1)", "f1x0", "f1 x0", "f1(x0", "f1x0)", "f1((x0)", "f1(x0))", "f1((x0))", "f1[x0]", "f1{x0}", "f1 (x0)", "f1( x0)", "f1(x0 )", "f1(x0,)", "f1(,x0)", "f1(x0,x1)", "f1(x0)(x0)", "f1(x0)x0", "f1(x0),", "f1(x0),x0", "f1(x6)", "f1(x00)", "f1(f3)",
		"f0", "f0()", "f0(x0)", "f0(x0,)", "f0(,x0)", "f0(,)", "f0(x0 x1)", "f0(x0, x1)", "f0(x0 ,x1)", "f0(x0;x1)", "f0(x0,x1", "f0(x0x1)", "f0(x0,x1))", "f0((x0,x1)", "f0(x0,,x1)", "f0(x0,x1,x2)", "f0(x0,x1),x2", "f0x0,x1", "f0,x0,x1", "f0(x0)(x1)", "f0((x0),x1)", "f0(f1(x0,x1))", "f0(f1(x0),x1", "f0(f1(x0,x1)", "f0(f1x0,x1)", "f0(x0,x6)", "f0(x0,f3)",
		strings.Repeat("f1(", 60) + "x0" + strings.Repeat(")", 60), strings.Repeat("f0(", 30) + "x1" + strings.Repeat(",x1)", 30), strings.Repeat("f1(", 59) + "x0" + strings.Repeat(")", 58), strings.Repeat("f1(", 59) + "x0" + strings.Repeat(")", 60), strings.Repeat("f1(", 60),
		strings.Repeat("f1(", 1<<18), strings.Repeat("f1(", 1<<18) + "x0" + strings.Repeat(")", 1<<18), strings.Repeat("x0", 1<<18), strings.Repeat("(", 1<<20), strings.Repeat("x", 1<<20), "f1(x0)" + strings.Repeat(")", 1<<20), strings.Repeat(" ", 1<<20) + "x0", "x" + strings.Repeat("0", 1<<20), strings.Repeat(",", 1<<20),
	}
	for _, s := range cases {
		if l, ok := impl.ParseTerm(a, s); ok || len(l) != 0 {
			t.Errorf("read %.40q: %v, %v", s, l, ok)
		}
	}
}

// Of all short texts, just those are read that are the text of a term.
func TestParseTermReadsWhatIsWritten(t *testing.T) {
	for _, a := range []impl.Algebra{unevenOf(2, 1, 0), unevenOf(1, 0, 1), unevenOf(2, 2, 2), {Size: 1}} {
		written := map[string][]int{}
		for _, x := range treesUpTo(a, 3, 0, 1) {
			if len(x.text()) <= 6 {
				written[x.text()] = x.list()
			}
		}
		read := 0
		for _, s := range stringsUpTo(6, "x01f(),") {
			want, is := written[s]
			l, ok := impl.ParseTerm(a, s)
			if ok != is || !slices.Equal(l, want) {
				t.Fatalf("read %q: %v, %v", s, l, ok)
			}
			if ok {
				read++
			}
		}
		if read != len(written) || read < 2 {
			t.Error("texts read", read, len(written))
		}
	}
}

// Each single byte of a text that is changed, added or left out makes it the text of another term
// or of none.
func TestParseTermOfChangedTexts(t *testing.T) {
	a := unevenOf(2, 2, 1, 0, 3)
	for _, s := range []string{"x3", "f2", "f1(f2)", "f0(x0,f1(x2))", "f3(x5,f2,f0(x1,x0))"} {
		for _, x := range changedTexts(s) {
			l, ok := impl.ParseTerm(a, x)
			if !ok && len(l) != 0 {
				t.Fatalf("read %q: %v", x, l)
			}
			if r, fine := impl.TermText(a, l); ok && (!fine || r != x) {
				t.Fatalf("read %q: %v", x, l)
			}
		}
	}
}

// counterByTrial tries all values of all variables from 0 to the greatest one, in order.
func counterByTrial(a impl.Algebra, x, y tree) ([]int, bool) {
	width := 0
	for _, v := range append(x.vars(), y.vars()...) {
		width = max(width, v+1)
	}
	for _, values := range argsOf(a.Size, width) {
		if x.value(a, values) != y.value(a, values) {
			return values, true
		}
	}
	return nil, false
}

func identityOf(x, y tree) impl.Identity { return impl.Identity{Left: x.list(), Right: y.list()} }

// An identity holds exactly if no values refute it, and the first ones that do are told.
func TestDoesHoldAndFirstCounter(t *testing.T) {
	for _, a := range termAlgebras() {
		held, broken := 0, 0
		trees := treesUpTo(a, 3, 0, 2, 3)
		trees = append(trees, treesUpTo(a, 4, 1)...)
		for _, x := range trees {
			for _, y := range trees {
				want, is := counterByTrial(a, x, y)
				h, one := impl.DoesHold(a, identityOf(x, y))
				c, two := impl.FirstCounter(a, identityOf(x, y))
				if !one || h == is || two != is || !slices.Equal(c, want) {
					t.Fatal("identity", a, x.text(), y.text(), h, one, c, two, want)
				}
				if h {
					held++
				} else {
					broken++
				}
			}
		}
		if held <= len(trees) && len(a.Ops) > 0 || broken == 0 && a.Size > 1 {
			t.Error("identities", a, held, broken)
		}
	}
}

// A counter is refuted by EvalTerm itself, and if there is none, no values do.
func TestCountersByEvalTerm(t *testing.T) {
	for _, a := range termAlgebras() {
		trees := treesUpTo(a, 4, 0, 1)
		for _, x := range trees {
			for _, y := range trees {
				e := identityOf(x, y)
				refuted := false
				for _, values := range argsOf(a.Size, 2) {
					v, one := impl.EvalTerm(a, e.Left, values)
					w, two := impl.EvalTerm(a, e.Right, values)
					if !one || !two {
						t.Fatal("no value", e)
					}
					refuted = refuted || v != w
				}
				h, ok := impl.DoesHold(a, e)
				if !ok || h == refuted {
					t.Fatal("identity", a, e, h, ok)
				}
				if c, ok := impl.FirstCounter(a, e); ok {
					values := append(c, 0, 0)
					v, one := impl.EvalTerm(a, e.Left, values)
					w, two := impl.EvalTerm(a, e.Right, values)
					if !one || !two || v == w {
						t.Fatal("no counter", a, e, c)
					}
				} else if refuted || len(c) != 0 {
					t.Fatal("counter", a, e, c)
				}
			}
		}
	}
}

// rightComb returns a term with one operation of the Arity 2 and these variables in order.
func rightComb(vars ...int) []int {
	var list []int
	for i, v := range vars {
		if i < len(vars)-1 {
			list = append(list, -1)
		}
		list = append(list, v)
	}
	return list
}

func TestCasesOfIdentities(t *testing.T) {
	group := algebraOf(5, []int{2, 1, 0}, func(op, at int) int { return []int{(at/5 + at) % 5, (5 - at) % 5, 0}[op] })
	minus := opOf(4, 2, func(x []int) int { return (x[0] - x[1] + 4) % 4 })
	// 2 times 2 is 2 here.
	third := opOf(3, 2, func(x []int) int { return min(x[0]*x[1], 2) })
	consts := unevenOf(2, 0, 0)
	cases := []struct {
		a           impl.Algebra
		left, right []int
		counter     []int
		holds       bool
	}{
		{group, []int{-1, 0, -1, 1, 2}, []int{-1, -1, 0, 1, 2}, nil, true},
		{group, []int{-1, 0, 1}, []int{-1, 1, 0}, nil, true},
		{group, []int{-1, 3, -2, 3}, []int{-3}, nil, true},
		{group, []int{-1, 3, -2, 3}, []int{-1, 5, -2, 5}, nil, true},
		{group, []int{-1, 0, 0}, []int{0}, []int{1}, false},
		{group, []int{0}, []int{1}, []int{0, 1}, false},
		{group, []int{1}, []int{0}, []int{0, 1}, false},
		{group, []int{2}, []int{-3}, []int{0, 0, 1}, false},
		{group, []int{-3}, []int{5}, []int{0, 0, 0, 0, 0, 1}, false},
		{group, []int{-1, 1, 4}, []int{1}, []int{0, 0, 0, 0, 1}, false},
		{group, []int{1}, []int{-1, 1, 4}, []int{0, 0, 0, 0, 1}, false},
		{group, []int{-2, -3}, []int{-3}, nil, true},
		{minus, []int{-1, 0, 1}, []int{-1, 1, 0}, []int{0, 1}, false},
		{minus, []int{-1, -1, 0, 1, 2}, []int{-1, 0, -1, 1, 2}, []int{0, 0, 1}, false},
		{minus, []int{-1, 1, 3}, []int{-1, 3, 1}, []int{0, 0, 0, 1}, false},
		{minus, []int{-1, -1, 0, 0, -1, 0, 0}, []int{-1, 5, 5}, nil, true},
		{third, []int{-1, 0, 1}, []int{0}, []int{1, 0}, false},
		{third, []int{-1, 2, -1, 2, 2}, []int{-1, 2, 2}, nil, true},
		{third, []int{-1, 2, 2}, []int{2}, nil, true},
		{third, []int{-1, 0, -1, 4, 4}, []int{-1, 0, 4}, nil, true},
		{third, []int{-1, 0, -1, 4, 4}, []int{4}, []int{0, 0, 0, 0, 1}, false},
		{consts, []int{-1}, []int{-2}, []int{}, false},
		{consts, []int{-1}, []int{-1}, nil, true},
		{unevenOf(1, 0, 2), []int{0}, []int{5}, nil, true},
		{unevenOf(1, 0, 2), []int{-1}, []int{-2, 3, 4}, nil, true},
	}
	for _, c := range cases {
		e := impl.Identity{Left: c.left, Right: c.right}
		h, ok := impl.DoesHold(c.a, e)
		l, found := impl.FirstCounter(c.a, e)
		if !ok || h != c.holds || found == c.holds || !slices.Equal(l, c.counter) {
			t.Error("identity", c.a.Size, e, h, ok, l, found)
		}
	}
}

// A number of variables has few enough values up to 4096 for 4 elements or 8, and too many from
// 7776 for 6 elements on.
func TestNumbersOfValues(t *testing.T) {
	most := []int{0, 6, 6, 6, 6, 5, 4, 4, 4}
	for size := 1; size <= 8; size++ {
		a := opOf(size, 2, func(x []int) int { return max(x[0], x[1]) })
		for n := 1; n <= 6; n++ {
			vars := firstNumbers(n)
			up, down := rightComb(vars...), slices.Clone(vars)
			slices.Reverse(down)
			for i, e := range []impl.Identity{
				{Left: up, Right: rightComb(down...)}, {Left: up, Right: up}, {Left: up, Right: []int{0}}, {Left: []int{n - 1}, Right: up},
				{Left: rightComb(vars[:n/2+1]...), Right: rightComb(vars[n/2:]...)},
			} {
				h, one := impl.DoesHold(a, e)
				l, found := impl.FirstCounter(a, e)
				if n > most[size] {
					if h || one || found || len(l) != 0 {
						t.Error("too many values", size, n, i, h, one, l)
					}
					continue
				}
				want, is := counterByTrial(a, treeOf(a, e.Left), treeOf(a, e.Right))
				if !one || h == is || found != is || !slices.Equal(l, want) || is != (i >= 2 && n > 1 && size > 1) {
					t.Error("identity", size, n, i, h, one, l, want)
				}
			}
		}
	}
}

// treeOf returns the tree of a term.
func treeOf(a impl.Algebra, list []int) tree {
	var read func() tree
	read = func() tree {
		x := tree{head: list[0]}
		list = list[1:]
		if x.head < 0 {
			for range a.Ops[-1-x.head].Arity {
				x.kids = append(x.kids, read())
			}
		}
		return x
	}
	return read()
}

// It is the number of variables that counts, not the greatest one, and each counts once.
func TestVariablesThatCount(t *testing.T) {
	a := opOf(8, 2, func(x []int) int { return min(x[0], x[1]) })
	cases := []struct {
		left, right []int
		ok, holds   bool
	}{
		{rightComb(0, 1, 4, 5), rightComb(5, 4, 1, 0), true, true},
		{rightComb(2, 3, 4, 5, 5, 5, 4, 3), rightComb(5, 4, 3, 2), true, true},
		{rightComb(0, 1), rightComb(4, 5), true, false},
		{rightComb(0, 1, 2), rightComb(3, 4), false, false},
		{rightComb(0, 1, 2, 3), rightComb(4), false, false},
		{rightComb(4), rightComb(0, 1, 2, 3), false, false},
		{rightComb(0, 1, 2, 3, 4), rightComb(0, 1, 2, 3, 4), false, false},
		{rightComb(0, 0, 0, 0, 0), rightComb(0), true, true},
		{rightComb(5), rightComb(5, 5), true, true},
	}
	for _, c := range cases {
		e := impl.Identity{Left: c.left, Right: c.right}
		h, ok := impl.DoesHold(a, e)
		l, found := impl.FirstCounter(a, e)
		n, fine := impl.FirstBroken(a, []impl.Identity{e})
		if ok != c.ok || h != c.holds || found != (ok && !h) || fine != ok || found != (len(l) != 0) {
			t.Error("identity", e, h, ok, l, found, n, fine)
		}
		if want := map[bool]int{true: -1}[h]; fine && n != want || !fine && n != 0 {
			t.Error("first broken", e, n)
		}
	}
	if l, ok := impl.FirstCounter(a, impl.Identity{Left: rightComb(0, 1), Right: rightComb(4, 5)}); !ok || !slices.Equal(l, []int{0, 0, 0, 0, 1, 1}) {
		t.Error("counter", l, ok)
	}
}

func TestFirstBroken(t *testing.T) {
	a := opOf(5, 2, func(x []int) int { return min(x[0], x[1]) })
	good := impl.Identity{Left: []int{-1, 0, 1}, Right: []int{-1, 1, 0}}
	bad := impl.Identity{Left: []int{-1, 0, 1}, Right: []int{0}}
	open := impl.Identity{Left: rightComb(0, 1, 2, 3, 4, 5), Right: []int{0}}
	none := impl.Identity{Left: []int{0}}
	if n, ok := impl.FirstBroken(a, nil); !ok || n != -1 {
		t.Error("of none", n, ok)
	}
	if n, ok := impl.FirstBroken(a, []impl.Identity{}); !ok || n != -1 {
		t.Error("of none", n, ok)
	}
	for size := 1; size <= 22; size++ {
		all := slices.Repeat([]impl.Identity{good}, size)
		if n, ok := impl.FirstBroken(a, all); ok != (size <= 20) || ok && n != -1 || !ok && n != 0 {
			t.Error("all hold", size, n, ok)
		}
		for i := range size {
			list := slices.Clone(all)
			list[i] = bad
			list[size-1] = bad
			if n, ok := impl.FirstBroken(a, list); ok != (size <= 20) || ok && n != i || !ok && n != 0 {
				t.Error("one is broken", size, i, n, ok)
			}
			for _, e := range []impl.Identity{open, none} {
				for _, rest := range []impl.Identity{good, bad} {
					list := slices.Repeat([]impl.Identity{rest}, size)
					list[i] = e
					if n, ok := impl.FirstBroken(a, list); ok || n != 0 {
						t.Error("one can't be checked", size, i, n, ok)
					}
				}
			}
		}
	}
	if n, ok := impl.FirstBroken(a, make([]impl.Identity, 100000)); ok || n != 0 {
		t.Error("too many", n, ok)
	}
}

// termResults calls each function of the chapter and returns all results.
func termResults(a impl.Algebra, s, t []int, terms [][]int, values []int) []any {
	var all []any
	keep := func(results ...any) { all = append(all, results...) }
	two := func(l []int, ok bool) { keep(l, ok) }
	keep(impl.IsTerm(a, t))
	two(impl.VarsOf(a, t))
	two(impl.SubtermAt(a, t, 0))
	two(impl.SubtermAt(a, t, len(t)-1))
	two(impl.ReplaceAt(a, t, 0, s))
	two(impl.ReplaceAt(a, t, len(t)-1, s))
	two(impl.SubstituteIn(a, t, terms))
	two(impl.NormalVars(a, t))
	two(impl.FirstCounter(a, impl.Identity{Left: s, Right: t}))
	f, ok := impl.TermOp(a, t, 3)
	m, fine := impl.MatchTerm(a, s, t)
	text, well := impl.TermText(a, t)
	keep(impl.Algebra{Ops: []impl.Op{f}}, ok, m, fine, text, well)
	two(impl.ParseTerm(a, text))
	d, one := impl.DepthOf(a, t)
	v, good := impl.EvalTerm(a, t, values)
	c, right := impl.CompareTerms(a, s, t)
	h, full := impl.DoesHold(a, impl.Identity{Left: s, Right: t})
	b, last := impl.FirstBroken(a, []impl.Identity{{Left: t, Right: t}, {Left: s, Right: t}})
	keep(d, one, v, good, c, right, h, full, b, last)
	return all
}

// spoilLists writes into all slices of results, and behind their ends.
func spoilLists(results []any) {
	spoil(results)
	for _, r := range results {
		switch x := r.(type) {
		case []int:
			for i := range x[:cap(x)] {
				x[:cap(x)][i] = -99
			}
		case [][]int:
			for i, l := range x {
				for j := range l[:cap(l)] {
					l[:cap(l)][j] = -99
				}
				x[i] = nil
			}
		}
	}
}

// roomy returns a copy with room behind its end, in which nothing may be written.
func roomy(list []int) []int { return append(slices.Clone(list), -77, -78, 6, 99)[:len(list)] }

func TestTermFunctionsLeaveTheirArguments(t *testing.T) {
	for _, a := range termAlgebras() {
		trees := treesUpTo(a, 4, 0, 2)
		for i, x := range trees {
			s, list := roomy(trees[(i*7+3)%len(trees)].list()), roomy(x.list())
			terms := [][]int{roomy(trees[i/2].list()), roomy([]int{5}), roomy([]int{0}), roomy([]int{88})}[:3]
			values := roomy([]int{a.Size - 1, 0, 0})
			before := fmt.Sprint(a, s[:cap(s)], list[:cap(list)], terms[:4], values[:cap(values)])
			first := termResults(a, s, list, terms, values)
			second := termResults(a, s, list, terms, values)
			if !reflect.DeepEqual(first, second) {
				t.Fatal("another result", x.text())
			}
			spoilLists(first)
			if after := fmt.Sprint(a, s[:cap(s)], list[:cap(list)], terms[:4], values[:cap(values)]); after != before {
				t.Fatal("changed", before, after)
			}
			if !reflect.DeepEqual(termResults(a, s, list, terms, values), second) {
				t.Fatal("a result shares memory", x.text())
			}
		}
	}
}

// The lists of a match share no memory with each other, even where one is told by another place.
func TestMatchedTermsAreApart(t *testing.T) {
	a := unevenOf(2, 2, 1, 0)
	list := []int{-1, -1, -2, 4, -2, 5, -2, 4}
	m, ok := impl.MatchTerm(a, []int{-1, -1, 0, 1, 0}, list)
	if !ok || !slices.Equal(m[0], []int{-2, 4}) || !slices.Equal(m[1], []int{-2, 5}) {
		t.Fatal("match", m, ok)
	}
	_ = append(m[0], -9, -9, -9)
	m[0][0], m[0][1] = -9, -9
	if !slices.Equal(m[1], []int{-2, 5}) || !slices.Equal(list, []int{-1, -1, -2, 4, -2, 5, -2, 4}) {
		t.Error("memory is shared", m, list)
	}
}
