package tests

import (
	"cmp"
	"fmt"
	"math"
	"slices"
	"strings"
	"testing"

	"loop.example/g01078/impl"
)

// The signatures and limits of chapter 4 are promised to other packages.
var (
	_ func(impl.Algebra, []impl.Identity, []impl.EqStep, int) (bool, bool)                    = impl.IsEqStep
	_ func(impl.Algebra, []impl.Identity, []impl.EqStep) (int, bool)                          = impl.FirstBadStep
	_ func(impl.Algebra, []impl.Identity, []impl.EqStep) (bool, bool)                         = impl.IsEqProof
	_ func(impl.Algebra, []impl.Identity, []impl.EqStep) (impl.Identity, bool)                = impl.ProvedBy
	_ func(impl.Algebra, []impl.Identity, []impl.EqStep) ([]int, bool)                        = impl.UsedGiven
	_ func(impl.Algebra, []impl.Identity, []impl.EqStep) ([]impl.EqStep, bool)                = impl.TrimEqProof
	_ func(impl.Algebra, []impl.Identity, []impl.EqStep) ([]impl.EqStep, bool)                = impl.ExchangeProof
	_ func(impl.Algebra, []impl.Identity, []impl.EqStep, []impl.EqStep) ([]impl.EqStep, bool) = impl.ChainProofs
	_ func(impl.Algebra, []impl.Identity, []int) ([][]int, bool)                              = impl.RewritesOf
	_ func(impl.Algebra, []impl.Identity, []int, []int, int) ([][]int, bool)                  = impl.ReachTerm
	_ func(impl.Algebra, []impl.Identity, []int, []int) ([]impl.EqStep, bool)                 = impl.ProveStep
	_ func(impl.Algebra, []impl.Identity, []int, []int, int) ([]impl.EqStep, bool)            = impl.ProveByReach
	_ struct {
		Rule     int
		Eq       impl.Identity
		A, B, At int
		Terms    [][]int
	} = struct {
		Rule     int
		Eq       impl.Identity
		A, B, At int
		Terms    [][]int
	}(impl.EqStep{})
)

func TestProofLimits(t *testing.T) {
	if impl.MaxEqSteps != 60 || impl.MaxGiven != 10 || impl.MaxReached != 300 {
		t.Error("limits", impl.MaxEqSteps, impl.MaxGiven, impl.MaxReached)
	}
	rules := []int{impl.EqGiven, impl.EqReflect, impl.EqExchange, impl.EqChain, impl.EqPut, impl.EqReplace}
	if !slices.Equal(rules, []int{1, 2, 3, 4, 5, 6}) {
		t.Error("Rules", rules)
	}
}

// wordsAlgebra has the type 2, 1, 0, 0: terms for it are written with f0(,), f1(), f2 and f3.
func wordsAlgebra() impl.Algebra { return unevenOf(2, 2, 1, 0, 0) }

// word returns the term of a text for wordsAlgebra.
func word(text string) []int {
	list, ok := impl.ParseTerm(wordsAlgebra(), text)
	if !ok {
		panic("no term: " + text)
	}
	return list
}

// eq returns the Identity of a text such as "x0 = f1(x1)".
func eq(text string) impl.Identity {
	left, right, _ := strings.Cut(text, " = ")
	return impl.Identity{Left: word(left), Right: word(right)}
}

func eqs(texts ...string) []impl.Identity {
	var list []impl.Identity
	for _, text := range texts {
		list = append(list, eq(text))
	}
	return list
}

// words returns the terms of some texts.
func words(texts ...string) [][]int {
	var list [][]int
	for _, text := range texts {
		list = append(list, word(text))
	}
	return list
}

func turned(e impl.Identity) impl.Identity { return impl.Identity{Left: e.Right, Right: e.Left} }

// The six ways to write a step.
func stepGiven(given []impl.Identity, index int) impl.EqStep {
	return impl.EqStep{Rule: impl.EqGiven, Eq: given[index], A: index}
}

func stepReflect(text string) impl.EqStep {
	return impl.EqStep{Rule: impl.EqReflect, Eq: impl.Identity{Left: word(text), Right: word(text)}}
}

func stepExchange(text string, a int) impl.EqStep {
	return impl.EqStep{Rule: impl.EqExchange, Eq: eq(text), A: a}
}

func stepChain(text string, a, b int) impl.EqStep {
	return impl.EqStep{Rule: impl.EqChain, Eq: eq(text), A: a, B: b}
}

func stepPut(text string, a int, terms ...string) impl.EqStep {
	return impl.EqStep{Rule: impl.EqPut, Eq: eq(text), A: a, Terms: words(terms...)}
}

func stepReplace(text string, a, at int, terms ...string) impl.EqStep {
	return impl.EqStep{Rule: impl.EqReplace, Eq: eq(text), A: a, At: at, Terms: words(terms...)}
}

func isWord(a impl.Algebra, list []int) bool { return len(list) <= 60 && isTermByRule(a, list) }

// putByTrial puts lists for the variables of a term; it fails as SubstituteIn must.
func putByTrial(a impl.Algebra, list []int, terms [][]int) ([]int, bool) {
	if len(terms) > 6 {
		return nil, false
	}
	for _, l := range terms {
		if !isWord(a, l) {
			return nil, false
		}
	}
	trees := make([]tree, len(terms))
	for i, l := range terms {
		trees[i] = treeOf(a, slices.Clone(l))
	}
	x := treeOf(a, slices.Clone(list))
	for _, v := range x.vars() {
		if v >= len(terms) {
			return nil, false
		}
	}
	r := x.put(trees).list()
	return r, len(r) <= 60
}

// stepByRule tells by the text of the chapter whether a step is correct.
func stepByRule(a impl.Algebra, given []impl.Identity, steps []impl.EqStep, k int) bool {
	s := steps[k]
	two := func(e impl.Identity) bool { return isWord(a, e.Left) && isWord(a, e.Right) }
	before := func(i int) bool { return i >= 0 && i < k && two(steps[i].Eq) }
	if !two(s.Eq) {
		return false
	}
	switch s.Rule {
	case 1:
		return s.B == 0 && s.At == 0 && len(s.Terms) == 0 && s.A >= 0 && s.A < len(given) && fmt.Sprint(s.Eq) == fmt.Sprint(given[s.A])
	case 2:
		return s.A == 0 && s.B == 0 && s.At == 0 && len(s.Terms) == 0 && slices.Equal(s.Eq.Left, s.Eq.Right)
	case 3:
		return s.B == 0 && s.At == 0 && len(s.Terms) == 0 && before(s.A) && fmt.Sprint(s.Eq) == fmt.Sprint(turned(steps[s.A].Eq))
	case 4:
		if s.At != 0 || len(s.Terms) != 0 || !before(s.A) || !before(s.B) {
			return false
		}
		e, f := steps[s.A].Eq, steps[s.B].Eq
		return slices.Equal(s.Eq.Left, e.Left) && slices.Equal(e.Right, f.Left) && slices.Equal(f.Right, s.Eq.Right)
	case 5:
		if s.B != 0 || s.At != 0 || !before(s.A) {
			return false
		}
		l, one := putByTrial(a, steps[s.A].Eq.Left, s.Terms)
		r, other := putByTrial(a, steps[s.A].Eq.Right, s.Terms)
		return one && other && slices.Equal(s.Eq.Left, l) && slices.Equal(s.Eq.Right, r)
	case 6:
		if s.B != 0 || !before(s.A) || len(s.Terms) != 1 || !isWord(a, s.Terms[0]) || s.At < 0 || s.At >= len(s.Terms[0]) {
			return false
		}
		x, e := treeOf(a, slices.Clone(s.Terms[0])), steps[s.A].Eq
		by := treeOf(a, slices.Clone(e.Right))
		return slices.Equal(x.subtrees()[s.At].list(), e.Left) && slices.Equal(x.list(), s.Eq.Left) && slices.Equal(x.replace(s.At, by).list(), s.Eq.Right)
	}
	return false
}

// markNeeded marks a step and those on which it rests.
func markNeeded(steps []impl.EqStep, k int, marks []bool) {
	marks[k] = true
	switch s := steps[k]; s.Rule {
	case 3, 5, 6:
		markNeeded(steps, s.A, marks)
	case 4:
		markNeeded(steps, s.A, marks)
		markNeeded(steps, s.B, marks)
	}
}

// renumbered returns steps with other indices of earlier ones.
func renumbered(steps []impl.EqStep, name func(int) int) []impl.EqStep {
	list := slices.Clone(steps)
	for i, s := range list {
		if s.Rule >= 3 {
			list[i].A = name(s.A)
		}
		if s.Rule == 4 {
			list[i].B = name(s.B)
		}
	}
	return list
}

// trimmedByTrial returns the steps that are needed, and the given Identities of these.
func trimmedByTrial(steps []impl.EqStep) ([]impl.EqStep, []int) {
	marks := make([]bool, len(steps))
	markNeeded(steps, len(steps)-1, marks)
	var kept []impl.EqStep
	var used []int
	for k, is := range marks {
		if is {
			kept = append(kept, steps[k])
		}
		if is && steps[k].Rule == 1 {
			used = append(used, steps[k].A)
		}
	}
	slices.Sort(used)
	place := func(k int) int {
		n := 0
		for _, is := range marks[:k] {
			if is {
				n++
			}
		}
		return n
	}
	return renumbered(kept, place), slices.Compact(used)
}

// sameSteps reports whether two lists of steps are the same.
func sameSteps(x, y []impl.EqStep) bool {
	return slices.EqualFunc(x, y, func(s, r impl.EqStep) bool {
		same := s.Rule == r.Rule && s.A == r.A && s.B == r.B && s.At == r.At
		return same && sameEq(s.Eq, r.Eq) && slices.EqualFunc(s.Terms, r.Terms, slices.Equal[[]int])
	})
}

func sameEq(e, f impl.Identity) bool {
	return slices.Equal(e.Left, f.Left) && slices.Equal(e.Right, f.Right)
}

func isZeroEq(e impl.Identity) bool { return len(e.Left) == 0 && len(e.Right) == 0 }

// noProof returns the names of the functions that do not refuse steps that are no proof or empty.
func noProof(a impl.Algebra, given []impl.Identity, steps []impl.EqStep) []string {
	var names []string
	e, one := impl.ProvedBy(a, given, steps)
	u, two := impl.UsedGiven(a, given, steps)
	if one || !isZeroEq(e) {
		names = append(names, "ProvedBy")
	}
	if two || len(u) != 0 {
		names = append(names, "UsedGiven")
	}
	list := func(name string) func(l []impl.EqStep, ok bool) {
		return func(l []impl.EqStep, ok bool) {
			if ok || len(l) != 0 {
				names = append(names, name)
			}
		}
	}
	good := []impl.EqStep{stepReflect("x0")}
	list("TrimEqProof")(impl.TrimEqProof(a, given, steps))
	list("ExchangeProof")(impl.ExchangeProof(a, given, steps))
	list("ChainProofs")(impl.ChainProofs(a, given, steps, steps))
	list("ChainProofs first")(impl.ChainProofs(a, given, steps, good))
	list("ChainProofs second")(impl.ChainProofs(a, given, good, steps))
	return names
}

// checkSteps compares all that is said of steps with what the chapter says. It returns whether
// they are a proof and not empty.
func checkSteps(t *testing.T, a impl.Algebra, given []impl.Identity, steps []impl.EqStep) bool {
	t.Helper()
	bad := -1
	for k := range steps {
		want := stepByRule(a, given, steps, k)
		if is, ok := impl.IsEqStep(a, given, steps, k); !ok || is != want {
			t.Fatal("step", steps, k, is, ok, want)
		}
		if !want && bad < 0 {
			bad = k
		}
	}
	if n, ok := impl.FirstBadStep(a, given, steps); !ok || n != bad {
		t.Fatal("bad step", steps, n, ok, bad)
	}
	want := bad < 0 && len(steps) > 0
	if is, ok := impl.IsEqProof(a, given, steps); !ok || is != want {
		t.Fatal("proof", steps, is, ok)
	}
	if !want {
		if names := noProof(a, given, steps); len(names) != 0 {
			t.Fatal("no proof", steps, names)
		}
		return false
	}
	checkProof(t, a, given, steps)
	return true
}

// checkProof compares what is made of a proof with what the chapter says.
func checkProof(t *testing.T, a impl.Algebra, given []impl.Identity, steps []impl.EqStep) {
	t.Helper()
	last := len(steps) - 1
	kept, indices := trimmedByTrial(steps)
	if e, ok := impl.ProvedBy(a, given, steps); !ok || !sameEq(e, steps[last].Eq) {
		t.Fatal("proved", steps, e, ok)
	}
	if u, ok := impl.UsedGiven(a, given, steps); !ok || !slices.Equal(u, indices) {
		t.Fatal("used", steps, u, ok, indices)
	}
	if l, ok := impl.TrimEqProof(a, given, steps); !ok || !sameSteps(l, kept) {
		t.Fatal("trimmed", steps, l, ok, kept)
	}
	turn := impl.EqStep{Rule: impl.EqExchange, Eq: turned(steps[last].Eq), A: last}
	back := append(slices.Clone(steps), turn)
	if l, ok := impl.ExchangeProof(a, given, steps); ok != (len(steps) < 60) || ok && !sameSteps(l, back) || !ok && len(l) != 0 {
		t.Fatal("exchanged", steps, l, ok)
	}
	if len(back) > 60 {
		return
	}
	checkChain(t, a, given, steps, back)
	checkChain(t, a, given, back, steps)
	checkChain(t, a, given, steps, steps)
}

// checkChain compares ChainProofs of two proofs with what the chapter says.
func checkChain(t *testing.T, a impl.Algebra, given []impl.Identity, one, two []impl.EqStep) {
	t.Helper()
	e, f := one[len(one)-1].Eq, two[len(two)-1].Eq
	want := slices.Concat(one, renumbered(two, func(k int) int { return k + len(one) }))
	chain := impl.EqStep{Rule: impl.EqChain, Eq: impl.Identity{Left: e.Left, Right: f.Right}, A: len(one) - 1, B: len(want) - 1}
	want = append(want, chain)
	fits := slices.Equal(e.Right, f.Left) && len(want) <= 60
	l, ok := impl.ChainProofs(a, given, one, two)
	if ok != fits || ok && !sameSteps(l, want) || !ok && len(l) != 0 {
		t.Fatal("chained", one, two, l, ok)
	}
	if !fits {
		return
	}
	for k := range l {
		if !stepByRule(a, given, l, k) {
			t.Fatal("chained", one, two, l, k)
		}
	}
}

// longProof returns given Identities and a proof in which each Rule and each field comes, one step
// is not needed, and one is used through several others.
func longProof() ([]impl.Identity, []impl.EqStep) {
	given := eqs("f0(f0(x0,x1),x2) = f0(x0,f0(x1,x2))", "f0(x0,x1) = f0(x1,x0)", "f1(f1(x0)) = x0")
	return given, []impl.EqStep{
		stepGiven(given, 1),
		stepGiven(given, 0),
		stepReflect("f0(x3,f2)"),
		stepPut("f0(f1(x0),x2) = f0(x2,f1(x0))", 0, "f1(x0)", "x2"),
		stepExchange("f0(x2,f1(x0)) = f0(f1(x0),x2)", 3),
		stepReplace("f1(f0(x2,f1(x0))) = f1(f0(f1(x0),x2))", 4, 1, "f1(f0(x2,f1(x0)))"),
		stepReplace("f1(f0(f1(x0),x2)) = f1(f0(x2,f1(x0)))", 3, 1, "f1(f0(f1(x0),x2))"),
		stepChain("f1(f0(x2,f1(x0))) = f1(f0(x2,f1(x0)))", 5, 6),
		stepChain("f1(f0(x2,f1(x0))) = f1(f0(x2,f1(x0)))", 7, 7),
		stepGiven(given, 2),
		stepReplace("f1(f1(x0)) = x0", 9, 0, "f1(f1(x0))"),
		stepPut("f1(f1(f0(x2,f1(x0)))) = f0(x2,f1(x0))", 10, "f0(x2,f1(x0))"),
		stepReplace("f0(x5,f1(f0(x2,f1(x0)))) = f0(x5,f1(f0(x2,f1(x0))))", 8, 2, "f0(x5,f1(f0(x2,f1(x0))))"),
	}
}

func TestLongProof(t *testing.T) {
	a := wordsAlgebra()
	given, steps := longProof()
	for n := range len(steps) + 1 {
		if is := checkSteps(t, a, given, steps[:n]); is != (n > 0) {
			t.Error("proof of", n, is)
		}
	}
	if u, ok := impl.UsedGiven(a, given, steps); !ok || !slices.Equal(u, []int{1}) {
		t.Error("used", u, ok)
	}
	l, ok := impl.TrimEqProof(a, given, steps)
	if !ok || len(l) != 8 || l[1].A != 0 || l[2].A != 1 || l[3].A != 2 || l[4].A != 1 || l[5].A != 3 || l[5].B != 4 || l[6].A != 5 || l[6].B != 5 || l[7].A != 6 {
		t.Error("trimmed", l, ok)
	}
}

// otherNumbers are tried for each number of a step.
var otherNumbers = []int{math.MinInt, -60, -2, -1, 0, 1, 2, 3, 4, 5, 6, 7, 8, 9, 10, 11, 12, 13, 14, 59, 60, 61, math.MaxInt}

// changedSteps returns a step with each of its fields changed.
func changedSteps(s impl.EqStep, steps []impl.EqStep) []impl.EqStep {
	var all []impl.EqStep
	with := func(change func(s *impl.EqStep)) {
		r := s
		change(&r)
		all = append(all, r)
	}
	for _, n := range otherNumbers {
		with(func(s *impl.EqStep) { s.A = n })
		with(func(s *impl.EqStep) { s.B = n })
		with(func(s *impl.EqStep) { s.At = n })
		with(func(s *impl.EqStep) { s.Rule = n })
	}
	for _, other := range steps {
		with(func(s *impl.EqStep) { s.Eq = other.Eq })
		with(func(s *impl.EqStep) { s.Eq.Left = other.Eq.Left })
		with(func(s *impl.EqStep) { s.Eq.Right = other.Eq.Right })
		with(func(s *impl.EqStep) { s.Terms = other.Terms })
		with(func(s *impl.EqStep) { s.Terms = slices.Concat(s.Terms, other.Terms) })
	}
	for _, list := range [][]int{nil, {0}, {-1}, {-1, 0}, {6}, {-5}, {math.MinInt}, nested(1, 60, 0), nested(1, 59, 0), {-2, 0, 0}} {
		with(func(s *impl.EqStep) { s.Eq.Left = list })
		with(func(s *impl.EqStep) { s.Eq.Right = list })
		with(func(s *impl.EqStep) { s.Eq = impl.Identity{Left: list, Right: list} })
		with(func(s *impl.EqStep) { s.Terms = [][]int{list} })
		with(func(s *impl.EqStep) { s.Terms = append(slices.Clone(s.Terms), list) })
		with(func(s *impl.EqStep) { s.Terms = append([][]int{list}, s.Terms...) })
	}
	with(func(s *impl.EqStep) { s.Terms = nil })
	with(func(s *impl.EqStep) { s.Terms = [][]int{} })
	with(func(s *impl.EqStep) {
		s.Terms = append(slices.Clone(s.Terms), words("x0", "x1", "x2", "x3", "x4", "x5")...)
	})
	with(func(s *impl.EqStep) { s.Terms = slices.Repeat(words("x0"), 100000) })
	with(func(s *impl.EqStep) { s.Eq = turned(s.Eq) })
	return all
}

// Each field of each step of a proof is changed, alone.
func TestChangedSteps(t *testing.T) {
	a := wordsAlgebra()
	given, steps := longProof()
	good, bad := 0, 0
	for k, s := range steps {
		for _, r := range changedSteps(s, steps) {
			list := slices.Clone(steps)
			list[k] = r
			if checkSteps(t, a, given, list) {
				good++
			} else {
				bad++
			}
		}
	}
	if good == 0 || bad < 1000 {
		t.Error("changed proofs", good, bad)
	}
}

// Of all steps of few small numbers, just those are correct that the chapter calls so, and those
// that are prove what holds wherever the given Identities do.
func TestAllSmallSteps(t *testing.T) {
	a := unevenOf(2, 1, 0)
	given := []impl.Identity{{Left: []int{-1, 0}, Right: []int{0}}, {Left: []int{-2}, Right: []int{-1, -2}}}
	lists := [][]int{{0}, {1}, {-2}, {-1, 0}, {-1, -2}, {-1}}
	earlier := [][]impl.EqStep{
		{stepGiven(given, 0), stepGiven(given, 1)},
		{{Rule: 7, Eq: impl.Identity{Left: []int{-1}, Right: []int{0}}}, {Rule: 0, Eq: impl.Identity{Left: []int{0}, Right: []int{-1}}}},
		{stepGiven(given, 1), {Rule: impl.EqPut, Eq: impl.Identity{Left: []int{-2}, Right: []int{-1, -2}}, Terms: [][]int{{0}}}},
	}
	puts := [][][]int{nil, {}, {{0}}, {{-2}}, {{-1, -2}}, {{1}, {0}}, {{-1}}, {{0}, {-1}}, {{-1, 0}}}
	correct := 0
	for _, before := range earlier {
		for rule := 0; rule <= 7; rule++ {
			for _, pair := range argsOf(len(lists), 2) {
				e := impl.Identity{Left: lists[pair[0]], Right: lists[pair[1]]}
				for _, n := range argsOf(4, 3) {
					for _, terms := range puts {
						s := impl.EqStep{Rule: rule, Eq: e, A: n[0] - 1, B: n[1] - 1, At: n[2] - 1, Terms: terms}
						steps := append(slices.Clone(before), s)
						want := stepByRule(a, given, steps, 2)
						if is, ok := impl.IsEqStep(a, given, steps, 2); !ok || is != want {
							t.Fatal("step", steps, is, ok, want)
						}
						if !want {
							continue
						}
						correct++
						checkSteps(t, a, given, steps)
						if is, ok := impl.IsEqProof(a, given, steps); ok && is {
							checkSound(t, given, e, models([]int{1, 0}))
						}
					}
				}
			}
		}
	}
	if correct < 50 {
		t.Error("correct steps", correct)
	}
}

// models returns all Algebras of a Size up to 2, and some of a Size of 3, of a type.
func models(arities []int) []impl.Algebra {
	var list []impl.Algebra
	for size := 1; size <= 2; size++ {
		places := 0
		for _, r := range arities {
			places += power(size, r)
		}
		for _, values := range argsOf(size, places) {
			list = append(list, algebraOf(size, arities, func(op, at int) int {
				for _, r := range arities[:op] {
					at += power(size, r)
				}
				return values[at]
			}))
		}
	}
	for _, f := range []func(x, y int) int{
		func(x, y int) int { return (x + y) % 3 }, func(x, y int) int { return min(x, y) }, func(x, y int) int { return (2*x + 2*y) % 3 }, func(x, y int) int { return x }, func(x, y int) int { return 0 },
	} {
		for _, u := range [][3]int{{0, 1, 2}, {0, 2, 1}, {0, 0, 0}, {1, 2, 0}} {
			list = append(list, algebraOf(3, arities, func(op, at int) int {
				return map[int]int{0: 0, 1: u[at%3], 2: f(at/3%3, at%3), 3: f(at/9, at%3)}[arities[op]]
			}))
		}
	}
	return list
}

// checkSound checks an Identity in all those Algebras in which the given ones hold.
func checkSound(t *testing.T, given []impl.Identity, e impl.Identity, list []impl.Algebra) int {
	t.Helper()
	checked := 0
	for _, a := range list {
		n, fine := impl.FirstBroken(a, given)
		if !fine {
			t.Fatal("not checked", given)
		}
		if n >= 0 {
			continue
		}
		checked++
		if h, ok := impl.DoesHold(a, e); !ok || !h {
			t.Fatal("proved, but does not hold", a, given, e)
		}
	}
	return checked
}

func TestGivenSteps(t *testing.T) {
	a := wordsAlgebra()
	ten := slices.Repeat(eqs("f0(x0,x1) = f0(x1,x0)", "x0 = x0"), 5)
	for k := range ten {
		if !checkSteps(t, a, ten, []impl.EqStep{stepGiven(ten, k)}) {
			t.Error("given", k)
		}
		if u, ok := impl.UsedGiven(a, ten, []impl.EqStep{stepGiven(ten, k)}); !ok || !slices.Equal(u, []int{k}) {
			t.Error("used", k, u, ok)
		}
	}
	for _, n := range []int{-1, 10, 11, 1, 3, math.MaxInt, math.MinInt} {
		s := stepGiven(ten, 0)
		s.A = n
		if checkSteps(t, a, ten, []impl.EqStep{s}) {
			t.Error("no such given Identity, or another one", n)
		}
	}
	// The index of a given Identity is not one of a step.
	if !checkSteps(t, a, ten, []impl.EqStep{stepGiven(ten, 9), stepGiven(ten, 8), stepExchange("f0(x1,x0) = f0(x0,x1)", 1)}) {
		t.Error("exchanged")
	}
	for _, none := range [][]impl.Identity{nil, {}} {
		if checkSteps(t, a, none, []impl.EqStep{stepGiven(ten, 0)}) || !checkSteps(t, a, none, []impl.EqStep{stepReflect("x0")}) {
			t.Error("no given Identities")
		}
	}
	turn := stepGiven(ten, 0)
	turn.Eq = turned(turn.Eq)
	if checkSteps(t, a, ten, []impl.EqStep{turn}) {
		t.Error("a given Identity with its terms exchanged")
	}
}

// A field that a Rule does not mention is 0 or empty.
func TestFieldsThatAreNotMentioned(t *testing.T) {
	a := wordsAlgebra()
	given := eqs("f1(f1(x0)) = x0")
	before := []impl.EqStep{stepGiven(given, 0), stepGiven(given, 0), stepReflect("f2")}
	cases := []struct {
		step            impl.EqStep
		a, b, at, terms bool
	}{
		{stepGiven(given, 0), true, false, false, false},
		{stepReflect("f1(x4)"), false, false, false, false},
		{stepExchange("x0 = f1(f1(x0))", 1), true, false, false, false},
		{stepChain("f2 = f2", 2, 2), true, true, false, false},
		{stepPut("f1(f1(f2)) = f2", 1, "f2"), true, false, false, true},
		{stepReplace("f1(f1(f1(x0))) = f1(x0)", 1, 1, "f1(f1(f1(x0)))"), true, false, true, true},
	}
	is := func(s impl.EqStep) bool {
		steps := append(slices.Clone(before), s)
		checkSteps(t, a, given, steps)
		is, ok := impl.IsEqStep(a, given, steps, len(before))
		return is && ok
	}
	for _, c := range cases {
		if !is(c.step) {
			t.Error("correct", c.step)
		}
		for _, n := range []int{1, -1, 2, 60, math.MaxInt, math.MinInt} {
			other := [3]impl.EqStep{c.step, c.step, c.step}
			other[0].A, other[1].B, other[2].At = n, n, n
			for j, mentioned := range []bool{c.a, c.b, c.at} {
				if !mentioned && is(other[j]) {
					t.Error("a field that is not mentioned", other[j])
				}
			}
		}
		for _, terms := range [][][]int{words("x0"), words("f2", "f2"), {nil}, {{}}, {{-1}}} {
			other := c.step
			other.Terms = terms
			if !c.terms && is(other) {
				t.Error("terms that are not mentioned", other)
			}
		}
		empty := c.step
		empty.Terms = [][]int{}
		if is(empty) == c.terms {
			t.Error("empty Terms", empty)
		}
		for _, rule := range []int{0, 7, -1, 8, math.MaxInt, math.MinInt} {
			other := c.step
			other.Rule = rule
			if is(other) {
				t.Error("no such Rule", rule)
			}
		}
	}
	if checkSteps(t, a, given, []impl.EqStep{{}}) || checkSteps(t, a, given, []impl.EqStep{{Eq: eq("x0 = x0")}}) {
		t.Error("a step without a Rule")
	}
}

// Indices of steps are those of earlier ones.
func TestIndicesOfSteps(t *testing.T) {
	a := wordsAlgebra()
	x := eq("x0 = x0")
	for _, n := range []int{1, 2, 5, 60} {
		for k := range n {
			for _, i := range []int{math.MinInt, -60, -1, 0, k - 1, k, k + 1, n - 1, n, n + 1, 60, math.MaxInt} {
				want := i >= 0 && i < k
				for _, s := range []impl.EqStep{
					{Rule: impl.EqExchange, Eq: x, A: i}, {Rule: impl.EqChain, Eq: x, A: i, B: i}, {Rule: impl.EqPut, Eq: x, A: i, Terms: words("x0")}, {Rule: impl.EqReplace, Eq: x, A: i, Terms: words("x0")},
					{Rule: impl.EqChain, Eq: x, A: i}, {Rule: impl.EqChain, Eq: x, B: i},
				} {
					steps := slices.Repeat([]impl.EqStep{stepReflect("x0")}, n)
					steps[k] = s
					is, ok := impl.IsEqStep(a, nil, steps, k)
					bad, fine := impl.FirstBadStep(a, nil, steps)
					if !ok || !fine || is != want || want != (bad == -1) || !want && bad != k {
						t.Fatal("index", n, k, s, is, ok, bad, fine)
					}
				}
			}
		}
		steps := slices.Repeat([]impl.EqStep{stepReflect("x0")}, n)
		for _, k := range []int{math.MinInt, -1, n, n + 1, 60, math.MaxInt} {
			if is, ok := impl.IsEqStep(a, nil, steps, k); is || ok {
				t.Error("no such step", n, k)
			}
		}
	}
	for _, none := range [][]impl.EqStep{nil, {}} {
		if is, ok := impl.IsEqStep(a, nil, none, 0); is || ok {
			t.Error("no step at all")
		}
		if checkSteps(t, a, nil, none) {
			t.Error("no steps are no proof")
		}
	}
}

// A step may be correct if the earlier ones are not, but not if these do not have two terms.
func TestEarlierStepsThatAreNotCorrect(t *testing.T) {
	a := wordsAlgebra()
	wrong := impl.EqStep{Eq: eq("f2 = x0")}
	cases := []impl.EqStep{
		stepExchange("x0 = f2", 0), stepPut("f2 = f1(x3)", 0, "f1(x3)"), stepReplace("f1(f2) = f1(x0)", 0, 1, "f1(f2)"),
		stepChain("f2 = f2", 0, 1),
	}
	for _, s := range cases {
		steps := []impl.EqStep{wrong, {Eq: eq("x0 = f2")}, s}
		if is, ok := impl.IsEqStep(a, nil, steps, 2); !is || !ok {
			t.Error("correct", s)
		}
		checkSteps(t, a, nil, steps)
	}
	for _, list := range append(badLists(), []int{-5}, []int{-1, 0, -5}) {
		if isWord(a, list) {
			continue
		}
		left, right := impl.EqStep{Eq: impl.Identity{Left: list, Right: word("x0")}}, impl.EqStep{Eq: impl.Identity{Left: word("x0"), Right: list}}
		for _, s := range []impl.EqStep{
			{Rule: impl.EqChain, Eq: eq("x0 = x0"), A: 1, B: 0}, {Rule: impl.EqChain, Eq: eq("x0 = x0"), A: 0, B: 1}, {Rule: impl.EqChain, Eq: eq("x0 = x0"), A: 2, B: 0}, {Rule: impl.EqChain, Eq: eq("x0 = x0"), A: 1, B: 2},
			{Rule: impl.EqChain, Eq: left.Eq, A: 0, B: 2}, {Rule: impl.EqChain, Eq: right.Eq, A: 2, B: 1}, {Rule: impl.EqChain, Eq: impl.Identity{Left: list, Right: list}, A: 0, B: 1},
			{Rule: impl.EqExchange, Eq: impl.Identity{Left: word("x0"), Right: list}, A: 0}, {Rule: impl.EqExchange, Eq: impl.Identity{Left: list, Right: word("x0")}, A: 1},
			{Rule: impl.EqPut, Eq: eq("x0 = x0"), A: 0, Terms: words("x0")}, {Rule: impl.EqPut, Eq: eq("x0 = x0"), A: 1, Terms: words("x0")},
			{Rule: impl.EqPut, Eq: right.Eq, A: 1, Terms: words("x0", "x1", "x2", "x3", "x4", "x5")},
			{Rule: impl.EqReplace, Eq: eq("x0 = x0"), A: 1, Terms: words("x0")}, {Rule: impl.EqReplace, Eq: right.Eq, A: 1, Terms: words("x0")},
			{Rule: impl.EqReplace, Eq: left.Eq, A: 0, Terms: [][]int{list}}, {Rule: impl.EqReplace, Eq: impl.Identity{Left: list, Right: list}, A: 2, Terms: [][]int{list}},
			{Rule: impl.EqReflect, Eq: impl.Identity{Left: list, Right: list}}, left, right,
		} {
			steps := []impl.EqStep{left, right, stepReflect("x0"), s}
			if is, ok := impl.IsEqStep(a, nil, steps, 3); is || !ok {
				t.Errorf("an earlier step has no term: %.80s", fmt.Sprint(s))
			}
			if len(list) < 100 {
				checkSteps(t, a, nil, steps)
			}
		}
	}
}

func TestPutSteps(t *testing.T) {
	a := wordsAlgebra()
	given := eqs("f0(x0,x2) = f0(x2,x2)", "f2 = f1(f2)", "f0(x0,x1) = x5", "x5 = x0")
	six := []string{"f1(x0)", "x1", "f2", "x3", "x4", "f0(x0,x1)"}
	cases := []struct {
		index int
		eq    string
		terms []string
		want  bool
	}{
		{0, "f0(f1(x0),f2) = f0(f2,f2)", six[:3], true}, {0, "f0(f1(x0),f2) = f0(f2,f2)", six[:5], true}, {0, "f0(f1(x0),f2) = f0(f2,f2)", six, true},
		{0, "f0(f1(x0),x2) = f0(x2,x2)", six[:2], false}, {0, "f0(f1(x0),f2) = f0(f2,f2)", nil, false}, {0, "f0(f1(x0),f2) = f0(f2,f2)", append(slices.Clone(six), "x0"), false},
		{0, "f0(f2,f2) = f0(f1(x0),f2)", six, false}, {0, "f0(x0,x2) = f0(x2,x2)", []string{"x0", "x1", "x2"}, true}, {0, "f0(x2,x0) = f0(x0,x0)", []string{"x2", "x1", "x0"}, true},
		{1, "f2 = f1(f2)", nil, true}, {1, "f2 = f1(f2)", six, true}, {1, "f2 = f2", nil, false}, {1, "f2 = f1(f2)", append(slices.Clone(six), "f2"), false},
		{2, "f0(f1(x0),x1) = f0(x0,x1)", six, true}, {2, "f0(f1(x0),x1) = x5", six[:5], false}, {2, "f0(f1(x0),x1) = f0(x0,x1)", six[:2], false},
		{3, "f0(x0,x1) = f1(x0)", six, true}, {3, "x5 = f1(x0)", six[:1], false}, {3, "x5 = f1(x0)", six[:5], false},
	}
	for _, c := range cases {
		steps := []impl.EqStep{stepGiven(given, c.index), stepPut(c.eq, 0, c.terms...)}
		if checkSteps(t, a, given, steps) != c.want {
			t.Error("put", c.index, c.eq, c.terms)
		}
		// A list that is no term is refused even where no variable needs it.
		for i := range c.terms {
			steps[1].Terms = words(c.terms...)
			steps[1].Terms[i] = []int{-1}
			if checkSteps(t, a, given, steps) {
				t.Error("no term", c.index, c.eq, c.terms, i)
			}
		}
	}
}

// Where a rule gives no terms, an Identity of empty lists is not what it gives, whether there are
// the steps and the given Identities that it names or not.
func TestStepsWithEmptyLists(t *testing.T) {
	a := wordsAlgebra()
	given := eqs("f0(x0,x1) = x0", "x0 = f0(x0,x1)", "f1(x0) = x1")
	for k := range given {
		for _, terms := range [][][]int{nil, words("x0"), words("x0", "x1"), {nil}, words("x0", "x1", "x2", "x3", "x4", "x5", "x0")} {
			for _, e := range []impl.Identity{{}, {Left: word("x0")}, {Right: word("x0")}, {Left: word("f1(x0)")}} {
				checkEmpty(t, a, given, k, impl.EqStep{Eq: e, Terms: terms})
			}
		}
	}
}

// checkEmpty takes a step with an empty list through all rules and indices.
func checkEmpty(t *testing.T, a impl.Algebra, given []impl.Identity, k int, s impl.EqStep) {
	for s.Rule = 0; s.Rule <= 7; s.Rule++ {
		for s.A = -1; s.A <= 3; s.A++ {
			for s.B = -1; s.B <= 2; s.B++ {
				if checkSteps(t, a, given, []impl.EqStep{stepGiven(given, k), s}) {
					t.Error("empty lists", k, s)
				}
			}
		}
	}
}

// The results of rules have just MaxTerm numbers, or one more.
func TestStepsAtTheLimit(t *testing.T) {
	a := wordsAlgebra()
	given := []impl.Identity{eq("x0 = f1(x0)"), eq("f2 = f1(f1(f2))"), {Left: nested(1, 59, 0), Right: word("f2")}}
	long := func(n int, behind ...int) []int { return nested(1, n-len(behind), behind...) }
	for _, n := range []int{57, 58, 59, 60, 61} {
		put := impl.EqStep{Rule: impl.EqPut, Eq: impl.Identity{Left: long(n, 3), Right: long(n+1, 3)}, Terms: [][]int{long(n, 3)}}
		if checkSteps(t, a, given, []impl.EqStep{stepGiven(given, 0), put}) != (n+1 <= 60) {
			t.Error("put", n)
		}
		back := impl.EqStep{Rule: impl.EqPut, Eq: turned(put.Eq), A: 1, Terms: put.Terms}
		if checkSteps(t, a, given, []impl.EqStep{stepGiven(given, 0), stepExchange("f1(x0) = x0", 0), back}) != (n+1 <= 60) {
			t.Error("put", n)
		}
		for _, at := range []int{0, n - 1} {
			s := impl.EqStep{Rule: impl.EqReplace, A: 1, At: at, Terms: [][]int{long(n, -3)}, Eq: impl.Identity{Left: long(n, -3), Right: long(n+1, -3)}}
			part := impl.EqStep{Rule: impl.EqPut, Eq: impl.Identity{Left: long(n-at, -3), Right: long(n-at+1, -3)}, Terms: [][]int{long(n-at, -3)}}
			if checkSteps(t, a, given, []impl.EqStep{stepGiven(given, 0), part, s}) != (n+1 <= 60) {
				t.Error("replaced", n, at)
			}
		}
		two := impl.EqStep{Rule: impl.EqReplace, At: n - 1, Terms: [][]int{long(n, -3)}, Eq: impl.Identity{Left: long(n, -3), Right: long(n+2, -3)}}
		if checkSteps(t, a, given, []impl.EqStep{stepGiven(given, 1), two}) != (n+2 <= 60) {
			t.Error("replaced", n)
		}
		cut, empty := two, put
		cut.Eq.Right = long(min(n+2, 60), -3)
		if checkSteps(t, a, given, []impl.EqStep{stepGiven(given, 1), cut}) != (n+2 <= 60) {
			t.Error("cut off", n)
		}
		cut.Eq.Right, empty.Eq.Right = nil, nil
		if checkSteps(t, a, given, []impl.EqStep{stepGiven(given, 1), cut}) || checkSteps(t, a, given, []impl.EqStep{stepGiven(given, 0), empty}) {
			t.Error("empty", n)
		}
	}
	for _, terms := range [][][]int{{{4}}, {word("f1(x4)")}, {word("f0(x0,x0)")}} {
		s := impl.EqStep{Rule: impl.EqPut, Terms: terms, Eq: impl.Identity{Left: nested(1, 59, terms[0]...), Right: word("f2")}}
		if checkSteps(t, a, given, []impl.EqStep{stepGiven(given, 2), s}) != (len(terms[0]) == 1) {
			t.Error("put", terms)
		}
	}
}

func TestReplaceSteps(t *testing.T) {
	a := wordsAlgebra()
	given := eqs("f0(x0,f2) = f1(x0)", "f3 = f2", "x1 = f1(x2)")
	cases := []struct {
		index int
		eq    string
		at    int
		terms []string
		want  bool
	}{
		{0, "f0(x0,f2) = f1(x0)", 0, []string{"f0(x0,f2)"}, true}, {0, "f1(f0(x0,f2)) = f1(f1(x0))", 1, []string{"f1(f0(x0,f2))"}, true},
		{0, "f1(f0(x0,f2)) = f1(f1(x0))", 1, nil, false}, {0, "f1(f0(x0,f2)) = f1(f1(x0))", 1, []string{"f1(f0(x0,f2))", "f1(f0(x0,f2))"}, false},
		{0, "f1(f0(x0,f2)) = f1(f1(x0))", 1, []string{"f1(f0(x0,f2))", "x0"}, false}, {0, "f1(f0(x0,f2)) = f1(f1(x0))", 1, []string{"f1(x0)"}, false},
		{0, "f1(f0(x0,f2)) = f1(f1(x0))", 0, []string{"f1(f0(x0,f2))"}, false}, {0, "f1(f0(x0,f2)) = f1(f1(x0))", 2, []string{"f1(f0(x0,f2))"}, false},
		{0, "f1(f0(x0,f2)) = f1(f1(x0))", -1, []string{"f1(f0(x0,f2))"}, false}, {0, "f1(f0(x0,f2)) = f1(f1(x0))", 4, []string{"f1(f0(x0,f2))"}, false},
		{0, "f1(f0(x1,f2)) = f1(f1(x1))", 1, []string{"f1(f0(x1,f2))"}, false}, {0, "f1(f1(x0)) = f1(f0(x0,f2))", 1, []string{"f1(f1(x0))"}, false},
		{0, "f0(f0(x0,f2),f0(x0,f2)) = f0(f1(x0),f0(x0,f2))", 1, []string{"f0(f0(x0,f2),f0(x0,f2))"}, true}, {0, "f0(f0(x0,f2),f0(x0,f2)) = f0(f0(x0,f2),f1(x0))", 4, []string{"f0(f0(x0,f2),f0(x0,f2))"}, true},
		{0, "f0(f0(x0,f2),f0(x0,f2)) = f0(f1(x0),f1(x0))", 1, []string{"f0(f0(x0,f2),f0(x0,f2))"}, false}, {0, "f0(f0(x0,f2),f0(x0,f2)) = f0(f1(x0),f0(x0,f2))", 4, []string{"f0(f0(x0,f2),f0(x0,f2))"}, false},
		{1, "f0(f3,f3) = f0(f3,f2)", 2, []string{"f0(f3,f3)"}, true}, {1, "f0(f3,f3) = f0(f2,f3)", 1, []string{"f0(f3,f3)"}, true}, {1, "f0(f3,f3) = f0(f3,f2)", 3, []string{"f0(f3,f3)"}, false},
		{1, "f3 = f2", 0, []string{"f3"}, true}, {1, "f3 = f2", 1, []string{"f3"}, false}, {1, "f3 = f2", math.MaxInt, []string{"f3"}, false}, {1, "f3 = f2", math.MinInt, []string{"f3"}, false},
		{2, "f0(x0,x1) = f0(x0,f1(x2))", 2, []string{"f0(x0,x1)"}, true}, {2, "f0(x0,x1) = f0(f1(x2),x1)", 1, []string{"f0(x0,x1)"}, false}, {2, "f0(x0,x1) = f0(x0,f1(x1))", 2, []string{"f0(x0,x1)"}, false},
	}
	for _, c := range cases {
		steps := []impl.EqStep{stepGiven(given, c.index), stepReplace(c.eq, 0, c.at, c.terms...)}
		if checkSteps(t, a, given, steps) != c.want {
			t.Error("replaced", c.index, c.eq, c.at, c.terms)
		}
	}
	for _, list := range badLists() {
		s := stepReplace("f3 = f2", 0, 0)
		s.Terms = [][]int{list}
		if checkSteps(t, a, given, []impl.EqStep{stepGiven(given, 1), s}) && !isWord(a, list) {
			t.Error("no term", list)
		}
	}
}

func TestChainSteps(t *testing.T) {
	a := wordsAlgebra()
	given := eqs("f0(x0,x1) = f0(x1,x0)", "f0(x1,x0) = f1(x2)", "f1(x2) = f1(x2)")
	all := []impl.EqStep{stepGiven(given, 0), stepGiven(given, 1), stepGiven(given, 2)}
	for _, c := range []struct {
		eq   string
		a, b int
		want bool
	}{
		{"f0(x0,x1) = f1(x2)", 0, 1, true}, {"f0(x0,x1) = f1(x2)", 1, 0, false}, {"f0(x1,x0) = f1(x2)", 1, 2, true}, {"f1(x2) = f1(x2)", 2, 2, true},
		{"f0(x0,x1) = f0(x1,x0)", 0, 0, false}, {"f0(x0,x1) = f0(x0,x1)", 0, 0, false}, {"f0(x1,x0) = f1(x2)", 1, 1, false}, {"f1(x2) = f0(x0,x1)", 0, 1, false},
		{"f0(x0,x1) = f1(x2)", 0, 2, false}, {"f0(x0,x1) = f0(x1,x0)", 0, 1, false}, {"f0(x1,x0) = f1(x2)", 0, 1, false},
	} {
		if checkSteps(t, a, given, append(slices.Clone(all), stepChain(c.eq, c.a, c.b))) != c.want {
			t.Error("chained", c)
		}
	}
}

func TestUsedAndTrimmed(t *testing.T) {
	a := wordsAlgebra()
	given := eqs("f0(x0,x1) = f0(x1,x0)", "f1(x0) = x0", "f0(x0,x1) = f0(x1,x0)", "f2 = f3")
	g := func(k int) impl.EqStep { return stepGiven(given, k) }
	x := stepReflect("f0(x0,x0)")
	cases := []struct {
		name  string
		steps []impl.EqStep
		used  []int
		kept  int
	}{
		{"the last step alone", []impl.EqStep{g(0), g(1), g(3)}, []int{3}, 1},
		{"one given Identity alone", []impl.EqStep{g(3), g(1), stepPut("f1(f2) = f2", 1, "f2")}, []int{1}, 2},
		{"none", []impl.EqStep{g(0), g(1), x}, nil, 1},
		{"none, through others", []impl.EqStep{g(0), x, g(1), stepExchange("f0(x0,x0) = f0(x0,x0)", 1), stepChain("f0(x0,x0) = f0(x0,x0)", 3, 1)}, nil, 3},
		{"the same one through several steps", []impl.EqStep{g(2), g(2), stepExchange("f0(x1,x0) = f0(x0,x1)", 0), stepChain("f0(x0,x1) = f0(x0,x1)", 1, 2)}, []int{2}, 4},
		{"two in falling order", []impl.EqStep{g(2), g(0), stepExchange("f0(x1,x0) = f0(x0,x1)", 1), stepChain("f0(x0,x1) = f0(x0,x1)", 0, 2)}, []int{0, 2}, 4},
		{"one step twice", []impl.EqStep{g(1), x, stepChain("f0(x0,x0) = f0(x0,x0)", 1, 1), stepChain("f0(x0,x0) = f0(x0,x0)", 2, 1)}, nil, 3},
		{"steps between the needed ones", []impl.EqStep{g(0), g(1), g(3), stepPut("f1(x1) = x1", 1, "x1"), stepExchange("f3 = f2", 2), x, stepReplace("f0(x0,f1(x1)) = f0(x0,x1)", 3, 2, "f0(x0,f1(x1))"), x, stepExchange("f0(x0,x1) = f0(x0,f1(x1))", 6)}, []int{1}, 4},
		{"one that others rest on, but not the last", []impl.EqStep{g(3), stepExchange("f3 = f2", 0), stepExchange("f2 = f3", 1), g(1)}, []int{1}, 1},
	}
	for _, c := range cases {
		if !checkSteps(t, a, given, c.steps) {
			t.Error("no proof", c.name)
			continue
		}
		u, one := impl.UsedGiven(a, given, c.steps)
		l, two := impl.TrimEqProof(a, given, c.steps)
		if !one || !two || !slices.Equal(u, c.used) || len(l) != c.kept {
			t.Error(c.name, u, l)
		}
		if r, ok := impl.TrimEqProof(a, given, l); !ok || !sameSteps(r, l) || !checkSteps(t, a, given, l) {
			t.Error("trimmed again", c.name, r)
		}
	}
}

// stepsOf returns a proof of f0(x0,x1) = f0(x1,x0), or back, with n steps.
func stepsOf(given []impl.Identity, n int) []impl.EqStep {
	steps := []impl.EqStep{stepGiven(given, 0)}
	for len(steps) < n {
		last := len(steps) - 1
		steps = append(steps, impl.EqStep{Rule: impl.EqExchange, Eq: turned(steps[last].Eq), A: last})
	}
	return steps
}

func TestNumbersOfSteps(t *testing.T) {
	a := wordsAlgebra()
	given := eqs("f0(x0,x1) = f0(x1,x0)")
	for _, n := range []int{1, 2, 58, 59, 60} {
		if !checkSteps(t, a, given, stepsOf(given, n)) {
			t.Error("proof", n)
		}
		l, ok := impl.ExchangeProof(a, given, stepsOf(given, n))
		if ok != (n < 60) || ok && !sameSteps(l, stepsOf(given, n+1)) || !ok && len(l) != 0 {
			t.Error("exchanged", n, len(l), ok)
		}
	}
	for one := 1; one <= 60; one++ {
		for two := 1; two <= 60; two++ {
			l, ok := impl.ChainProofs(a, given, stepsOf(given, one), stepsOf(given, two))
			if want := one+two+1 <= 60 && one%2 != two%2; ok != want || ok && len(l) != one+two+1 || !ok && len(l) != 0 {
				t.Fatal("chained", one, two, len(l), ok)
			}
			x := stepReflect("x0")
			l, ok = impl.ChainProofs(a, given, slices.Repeat([]impl.EqStep{x}, one), slices.Repeat([]impl.EqStep{x}, two))
			if want := one+two+1 <= 60; ok != want || ok && len(l) != one+two+1 || !ok && len(l) != 0 {
				t.Fatal("chained", one, two, len(l), ok)
			}
		}
	}
	for _, steps := range [][]impl.EqStep{stepsOf(given, 61), stepsOf(given, 62), make([]impl.EqStep, 61), make([]impl.EqStep, 100000)} {
		if names := refusedAlways(a, given, steps); len(names) != 0 {
			t.Error("too many steps", len(steps), names)
		}
	}
}

// refusedAlways returns the names of the functions that do not refuse an Algebra, given Identities
// and steps, whatever the steps are.
func refusedAlways(a impl.Algebra, given []impl.Identity, steps []impl.EqStep) []string {
	names := noProof(a, given, steps)
	for _, k := range []int{0, len(steps) - 1, -1, len(steps)} {
		if is, ok := impl.IsEqStep(a, given, steps, k); is || ok {
			names = append(names, "IsEqStep")
		}
	}
	if n, ok := impl.FirstBadStep(a, given, steps); n != 0 || ok {
		names = append(names, "FirstBadStep")
	}
	if is, ok := impl.IsEqProof(a, given, steps); is || ok {
		names = append(names, "IsEqProof")
	}
	return names
}

// noRewriting returns the names of the functions that do not refuse to rewrite s to t.
func noRewriting(a impl.Algebra, given []impl.Identity, s, t []int) []string {
	var names []string
	terms := func(name string) func(l [][]int, ok bool) {
		return func(l [][]int, ok bool) {
			if ok || len(l) != 0 {
				names = append(names, name)
			}
		}
	}
	steps := func(name string) func(l []impl.EqStep, ok bool) {
		return func(l []impl.EqStep, ok bool) {
			if ok || len(l) != 0 {
				names = append(names, name)
			}
		}
	}
	if slices.Equal(s, t) {
		terms("RewritesOf")(impl.RewritesOf(a, given, s))
	}
	steps("ProveStep")(impl.ProveStep(a, given, s, t))
	for _, most := range []int{0, 1, 2, 6} {
		terms("ReachTerm")(impl.ReachTerm(a, given, s, t, most))
		steps("ProveByReach")(impl.ProveByReach(a, given, s, t, most))
	}
	return names
}

func TestProofFunctionsRefuseInvalidAlgebras(t *testing.T) {
	for _, a := range invalidAlgebras() {
		for _, given := range [][]impl.Identity{nil, eqs("x0 = x0"), eqs("f0(x0,x1) = f0(x1,x0)")} {
			for _, steps := range [][]impl.EqStep{nil, {stepReflect("x0")}, {{Rule: impl.EqGiven, Eq: eq("x0 = x0")}}, {{}}} {
				if names := refusedAlways(a, given, steps); len(names) != 0 {
					t.Errorf("Size %d, %.60s: %v", a.Size, fmt.Sprint(a.Ops), names)
				}
			}
			for _, list := range [][]int{{0}, {-1}, {-2, 0}, nil} {
				if names := noRewriting(a, given, list, list); len(names) != 0 {
					t.Errorf("Size %d, %.60s: %v", a.Size, fmt.Sprint(a.Ops), names)
				}
			}
		}
	}
}

func TestProofFunctionsRefuseGiven(t *testing.T) {
	a := wordsAlgebra()
	x := eq("x0 = x0")
	var wrong [][]impl.Identity
	for _, n := range []int{11, 12, 100000} {
		wrong = append(wrong, slices.Repeat([]impl.Identity{x}, n), make([]impl.Identity, n))
	}
	for _, list := range append(badLists(), []int{-5}, []int{-2, -5}) {
		if isWord(a, list) {
			continue
		}
		for _, e := range []impl.Identity{{Left: list, Right: word("x0")}, {Left: word("x0"), Right: list}, {Left: list, Right: list}} {
			wrong = append(wrong, []impl.Identity{e}, []impl.Identity{x, x, e}, []impl.Identity{e, x})
		}
	}
	for _, given := range append(wrong, make([]impl.Identity, 1)) {
		for _, steps := range [][]impl.EqStep{nil, {stepReflect("x0")}, {{Rule: impl.EqGiven, Eq: x}}, {{Rule: impl.EqGiven, Eq: given[0]}}, {{}}} {
			if names := refusedAlways(a, given, steps); len(names) != 0 {
				t.Errorf("%d given, %.80s: %v", len(given), fmt.Sprint(given), names)
			}
		}
		if names := noRewriting(a, given, word("x0"), word("x0")); len(names) != 0 {
			t.Errorf("%d given, %.80s: %v", len(given), fmt.Sprint(given), names)
		}
	}
	ten := slices.Repeat([]impl.Identity{x}, 10)
	if !checkSteps(t, a, ten, []impl.EqStep{stepGiven(ten, 9)}) || len(noRewriting(a, ten, word("x0"), word("x0"))) == 0 {
		t.Error("ten given Identities")
	}
}

func TestRewritingRefusesOtherLists(t *testing.T) {
	a := wordsAlgebra()
	given := eqs("x0 = x1", "f0(x0,x1) = f0(x1,x0)")
	for _, list := range append(badLists(), []int{-5}, []int{-1, 0, -5}) {
		if isWord(a, list) {
			continue
		}
		for _, pair := range [][2][]int{{list, list}, {list, word("x0")}, {word("x0"), list}} {
			for _, g := range [][]impl.Identity{nil, given} {
				if names := noRewriting(a, g, pair[0], pair[1]); len(names) != 0 {
					t.Errorf("%.60s: %v", fmt.Sprint(pair), names)
				}
			}
		}
	}
}

// trial is one way to rewrite a term.
type trial struct {
	index    int
	backward bool
	at       int
	terms    []tree
	result   []int
}

// matchTrees goes down a pattern and a tree at once, and tells what is put for each variable.
func matchTrees(pattern, x tree, found map[int]tree) bool {
	if pattern.head >= 0 {
		y, met := found[pattern.head]
		found[pattern.head] = x
		return !met || slices.Equal(y.list(), x.list())
	}
	if pattern.head != x.head {
		return false
	}
	for i, k := range pattern.kids {
		if !matchTrees(k, x.kids[i], found) {
			return false
		}
	}
	return true
}

// rewriteByTrial returns all ways to rewrite a term: first those by the first given Identity, from
// Left to Right, at the least place.
func rewriteByTrial(a impl.Algebra, given []impl.Identity, x tree) []trial {
	var all []trial
	vars := x.vars()
	if len(vars) == 0 {
		vars = []int{0}
	}
	for i, e := range given {
		for _, backward := range []bool{false, true} {
			l, r := treeOf(a, slices.Clone(e.Left)), treeOf(a, slices.Clone(e.Right))
			if backward {
				l, r = r, l
			}
			var own []int
			for _, v := range r.vars() {
				if !slices.Contains(l.vars(), v) {
					own = append(own, v)
				}
			}
			for at, part := range x.subtrees() {
				found := map[int]tree{}
				if !matchTrees(l, part, found) {
					continue
				}
				terms := make([]tree, 6)
				for v := range terms {
					y, put := found[v]
					if !put {
						y = tree{head: v}
					}
					terms[v] = y
				}
				for _, choice := range argsOf(len(vars), len(own)) {
					filled := slices.Clone(terms)
					for j, c := range choice {
						filled[own[j]] = tree{head: vars[c]}
					}
					if u := x.replace(at, r.put(filled)).list(); len(u) <= 60 {
						all = append(all, trial{i, backward, at, filled, u})
					}
				}
			}
		}
	}
	return all
}

func orderByRule(s, t []int) int { return cmp.Or(cmp.Compare(len(s), len(t)), slices.Compare(s, t)) }

// resultsOf returns all results, each once, in their order.
func resultsOf(all []trial) [][]int {
	var list [][]int
	for _, w := range all {
		list = append(list, w.result)
	}
	slices.SortFunc(list, orderByRule)
	return slices.CompactFunc(list, slices.Equal[[]int])
}

func sameLists(x, y [][]int) bool { return slices.EqualFunc(x, y, slices.Equal[[]int]) }

// theories returns lists of given Identities, none of which has a term with more than 2 variables
// of its own.
func theories() [][]impl.Identity {
	return [][]impl.Identity{
		nil,
		eqs("f0(x0,x1) = f0(x1,x0)"),
		eqs("f0(x0,f0(x1,x2)) = f0(f0(x0,x1),x2)"),
		eqs("f0(x3,x3) = x3"),
		eqs("f0(x0,x0) = x0", "f0(x0,x1) = f0(x1,x0)", "f0(x0,f0(x1,x2)) = f0(f0(x0,x1),x2)"),
		eqs("f0(x0,f2) = x0", "f0(x0,f1(x0)) = f2", "f0(f0(x0,x1),x2) = f0(x0,f0(x1,x2))"),
		eqs("f0(x0,f1(x0)) = f2"),
		eqs("f1(f1(x0)) = x0"),
		eqs("f2 = f3"),
		eqs("f2 = f2", "x0 = x0"),
		eqs("f0(x0,x1) = x0", "f0(x0,x1) = x1"),
		eqs("f0(x0,x1) = f2"),
		eqs("f2 = f0(x1,x4)", "f1(x0) = f3"),
		eqs("x0 = x1"),
		eqs("f1(x5) = f1(x2)"),
		eqs("f0(x0,x1) = f0(x2,x3)"),
		eqs("f0(f0(x0,x1),x2) = f0(x2,x5)"),
		eqs("f1(x0) = f0(x0,x1)", "f0(x1,x0) = f1(x0)", "f1(x0) = f0(x0,x1)"),
	}
}

// Terms with few places are rewritten in just those ways that the chapter tells.
func TestRewritesOf(t *testing.T) {
	a := wordsAlgebra()
	all, itself, none := 0, 0, 0
	for _, given := range theories() {
		for _, x := range append(treesUpTo(a, 4, 0, 2), treesUpTo(a, 3, 1, 5)...) {
			want := resultsOf(rewriteByTrial(a, given, x))
			l, ok := impl.RewritesOf(a, given, x.list())
			if !ok || !sameLists(l, want) {
				t.Fatal("rewritten", given, x.text(), l, ok, want)
			}
			all += len(l)
			if len(l) == 0 {
				none++
			}
			if slices.ContainsFunc(l, func(u []int) bool { return slices.Equal(u, x.list()) }) {
				itself++
			}
		}
	}
	if all < 1000 || itself < 100 || none < 100 {
		t.Error("too few cases", all, itself, none)
	}
}

func TestCasesOfRewrites(t *testing.T) {
	a := wordsAlgebra()
	cases := []struct {
		given []string
		term  string
		want  []string
	}{
		{nil, "f0(x0,x1)", nil},
		{[]string{"f0(x0,x1) = f0(x1,x0)"}, "f0(x4,x4)", []string{"f0(x4,x4)"}},
		{[]string{"f0(x0,x1) = f0(x1,x0)"}, "f0(x1,f0(x2,x3))", []string{"f0(f0(x2,x3),x1)", "f0(x1,f0(x3,x2))"}},
		{[]string{"f1(x0) = f0(x0,x0)"}, "f0(f1(x1),f0(x2,x2))", []string{"f0(f1(x1),f1(x2))", "f0(f0(x1,x1),f0(x2,x2))"}},
		{[]string{"x0 = x0"}, "f1(f2)", []string{"f1(f2)"}},
		{[]string{"f2 = f2"}, "f1(f2)", []string{"f1(f2)"}}, {[]string{"f2 = f2"}, "f1(f3)", nil},
		{[]string{"x0 = x1"}, "x0", []string{"x0"}}, {[]string{"x0 = x1"}, "x3", []string{"x3"}}, {[]string{"x0 = x1"}, "f2", []string{"x0"}},
		{[]string{"x0 = x1"}, "f1(f2)", []string{"x0", "f1(x0)"}}, {[]string{"x3 = x4"}, "f1(f2)", []string{"x0", "f1(x0)"}},
		{[]string{"x0 = x1"}, "f0(x2,x5)", []string{"x2", "x5", "f0(x2,x2)", "f0(x2,x5)", "f0(x5,x5)"}},
		{[]string{"f2 = f1(x3)"}, "f0(f2,x4)", []string{"f0(f1(x4),x4)"}}, {[]string{"f1(x3) = f2"}, "f0(f2,x4)", []string{"f0(f1(x4),x4)"}}, {[]string{"f1(x3) = f2"}, "f0(f1(f1(x1)),x4)", []string{"f0(f2,x4)", "f0(f1(f2),x4)"}},
		{[]string{"f2 = f0(x3,x1)"}, "f1(f2)", []string{"f1(f0(x0,x0))"}},
		{[]string{"f2 = f0(x3,x1)"}, "f0(f2,f0(x5,x2))", []string{"f2", "f0(f2,f2)", "f0(f0(x2,x2),f0(x5,x2))", "f0(f0(x2,x5),f0(x5,x2))", "f0(f0(x5,x2),f0(x5,x2))", "f0(f0(x5,x5),f0(x5,x2))"}},
		{[]string{"f0(x0,x0) = f1(x1)"}, "f0(f0(x2,x2),f0(x2,x2))", []string{"f1(x2)", "f0(f0(x2,x2),f1(x2))", "f0(f1(x2),f0(x2,x2))"}},
		{[]string{"f0(x0,x1) = x0", "f2 = f3", "f2 = f3"}, "f0(f2,f3)", []string{"f2", "f0(f3,f3)", "f0(f2,f2)", "f0(f0(f2,x0),f3)", "f0(f2,f0(f3,x0))", "f0(f0(f2,f3),x0)"}},
	}
	for _, c := range cases {
		want := words(c.want...)
		slices.SortFunc(want, orderByRule)
		l, ok := impl.RewritesOf(a, eqs(c.given...), word(c.term))
		if !ok || !sameLists(l, want) {
			t.Error("rewritten", c.given, c.term, l, ok, want)
		}
	}
}

// A term of a given Identity may have 2 variables of its own, but not 3.
func TestVariablesOfOneSide(t *testing.T) {
	a := wordsAlgebra()
	s := word("f0(f2,x3)")
	for _, c := range []struct {
		text string
		ok   bool
	}{
		{"f0(x0,x1) = f2", true}, {"f0(x0,f0(x1,x2)) = f2", false}, {"f0(x0,f0(x1,x1)) = f2", true}, {"f0(x0,f0(x1,x2)) = x1", true}, {"f0(x0,f0(x1,x2)) = x3", false},
		{"f0(f0(x0,x1),f0(x2,x3)) = f0(x4,x5)", false}, {"f0(f0(x0,x1),f0(x2,x3)) = f0(x2,x0)", true}, {"f0(f0(x0,x1),f0(x2,x3)) = f0(x2,x5)", false}, {"f0(f0(x0,x1),x2) = f0(x2,f0(x3,x4))", true},
		{"f0(f0(x0,x1),x2) = f0(x2,f0(f0(x3,x4),x5))", false}, {"f0(x0,f0(x1,x2)) = f0(f0(x3,x4),x5)", false}, {"f0(x0,f0(x1,x2)) = f0(f0(x2,x1),x0)", true}, {"f0(f0(x5,x4),f0(x0,x4)) = f0(x0,f0(x2,x3))", true},
	} {
		for _, e := range []impl.Identity{eq(c.text), turned(eq(c.text))} {
			for _, given := range [][]impl.Identity{{e}, {eq("x0 = x0"), e}, {e, eq("f2 = f2")}} {
				l, one := impl.RewritesOf(a, given, s)
				p, two := impl.ReachTerm(a, given, s, s, 0)
				r, three := impl.ProveByReach(a, given, s, s, 0)
				if one != c.ok || two != c.ok || three != c.ok || !c.ok && len(l)+len(p)+len(r) != 0 {
					t.Error("own variables", c.text, one, two, three)
				}
				if !c.ok && len(noRewriting(a, given, s, s)) != 0 {
					t.Error("own variables", c.text, noRewriting(a, given, s, s))
				}
				if want := resultsOf(rewriteByTrial(a, given, treeOf(a, slices.Clone(s)))); c.ok && !sameLists(l, want) {
					t.Error("rewritten", c.text, l, want)
				}
				// The steps of proofs are not restricted so.
				if !checkSteps(t, a, given, []impl.EqStep{stepGiven(given, 0)}) {
					t.Error("given", c.text)
				}
			}
		}
	}
}

// With 2 variables of its own, a term is put in for each two variables of the whole other term.
func TestChoicesOfVariables(t *testing.T) {
	a := wordsAlgebra()
	given := eqs("f1(x0) = f0(x4,f0(x0,x5))")
	for _, c := range []struct {
		term  string
		count int
	}{
		{"f1(f2)", 1}, {"f1(x3)", 1}, {"f0(f1(f2),x3)", 1}, {"f0(f1(x1),x3)", 4}, {"f0(x0,f0(x1,f0(x2,f0(x3,f0(x4,f1(x5))))))", 36 + 4}, {"f0(f0(x0,x1),f0(f1(f1(x1)),x2))", 9 + 9 + 1},
	} {
		s := word(c.term)
		want := resultsOf(rewriteByTrial(a, given, treeOf(a, slices.Clone(s))))
		if l, ok := impl.RewritesOf(a, given, s); !ok || !sameLists(l, want) || len(l) != c.count {
			t.Error("rewritten", c.term, len(l), ok, len(want))
		}
	}
}

// A term to which another one would be rewritten has at most MaxTerm numbers.
func TestRewritesAtTheLimit(t *testing.T) {
	a := wordsAlgebra()
	for n := 56; n <= 60; n++ {
		s := nested(1, n-1, 3)
		for _, c := range []struct {
			text string
			more int
		}{{"x0 = f1(x0)", 1}, {"f1(x0) = f1(f1(f1(x0)))", 2}, {"f1(x0) = f0(x0,x1)", 1}, {"x0 = f0(x0,f1(x1))", 3}, {"f1(x0) = f1(x1)", 0}} {
			for _, e := range []impl.Identity{eq(c.text), turned(eq(c.text))} {
				want := resultsOf(rewriteByTrial(a, []impl.Identity{e}, treeOf(a, slices.Clone(s))))
				l, ok := impl.RewritesOf(a, []impl.Identity{e}, s)
				if !ok || !sameLists(l, want) {
					t.Error("rewritten", n, c.text, len(l), len(want), ok)
				}
				longest := slices.ContainsFunc(l, func(u []int) bool { return len(u) == n+c.more })
				if longest != (n+c.more <= 60) {
					t.Error("longest", n, c.text, longest)
				}
			}
		}
	}
	full := nested(1, 59, 0)
	given := eqs("f1(x0) = f1(f1(x0))")
	l, ok := impl.RewritesOf(a, given, full)
	if !ok || !sameLists(l, [][]int{full[1:]}) {
		t.Error("a full term", len(l), ok)
	}
	if steps, ok := impl.ProveStep(a, given, full[1:], full); !ok || len(steps) != 3 || !checkSteps(t, a, given, steps) {
		t.Error("to a full term", len(steps), ok)
	}
}

// vineOf returns a term with 25 times f0, some constants and all six variables, which x0 = x1
// rewrites to 281 terms and one more for each constant.
func vineOf(constants int) []int {
	leaves := slices.Repeat([]int{-3}, constants)
	for v := range 26 - constants {
		leaves = append(leaves, v%6)
	}
	return rightComb(leaves...)
}

// bushOf returns a term with 12 places and five variables, to which nothing leads back, and that
// g(y,z) for any subterm rewrites to 300 terms; g is f0 with f3 around.
func bushOf() []int { return word("f1(f1(f1(f0(x0,f0(x1,f0(x2,f0(x3,x4)))))))") }

func TestNumbersOfRewrites(t *testing.T) {
	a := wordsAlgebra()
	given := eqs("x0 = x1")
	for constants := range 21 {
		s := vineOf(constants)
		want := resultsOf(rewriteByTrial(a, given, treeOf(a, slices.Clone(s))))
		l, ok := impl.RewritesOf(a, given, s)
		if len(want) != 281+constants || ok != (constants <= 19) || ok && !sameLists(l, want) || !ok && len(l) != 0 {
			t.Error("rewritten", constants, len(want), len(l), ok)
		}
		// One step is proved however many terms there are.
		for i, u := range [][]int{want[0], want[len(want)-1], s} {
			if steps, ok := impl.ProveStep(a, given, s, u); !ok || !checkSteps(t, a, given, steps) {
				t.Error("one step", constants, i, len(steps), ok)
			}
			path, ok := impl.ReachTerm(a, given, s, u, 1)
			steps, fine := impl.ProveByReach(a, given, s, u, 1)
			want := constants <= 19 || i == 2
			if ok != want || fine != want || !ok && len(path) != 0 || !fine && len(steps) != 0 {
				t.Error("reached", constants, i, len(path), ok, len(steps), fine)
			}
		}
	}
	// Ten rules with the same results are as good as one.
	ten := slices.Repeat(given, 10)
	if l, ok := impl.RewritesOf(a, ten, vineOf(19)); !ok || len(l) != 300 {
		t.Error("rewritten", len(l), ok)
	}
}

// The term itself counts in the line, but RewritesOf need not have it.
func TestLengthOfTheLine(t *testing.T) {
	a := wordsAlgebra()
	grow := eqs("x5 = f0(f3,f0(x0,x1))")
	s := bushOf()
	l, ok := impl.RewritesOf(a, grow, s)
	if !ok || len(l) != 300 || slices.ContainsFunc(l, func(u []int) bool { return slices.Equal(u, s) }) {
		t.Fatal("rewritten", len(l), ok)
	}
	more := append(slices.Clone(grow), eq("f1(f1(f1(x0))) = x0"))
	if m, ok := impl.RewritesOf(a, more[1:], s); !ok || len(m) < 1 {
		t.Fatal("rewritten", len(m), ok)
	}
	if m, ok := impl.RewritesOf(a, more, s); ok || len(m) != 0 {
		t.Error("one rewriting too many", len(m), ok)
	}
	for most := range 7 {
		for i, u := range [][]int{s, l[0], l[299]} {
			p, ok := impl.ReachTerm(a, grow, s, u, most)
			if ok != (i == 0) || !ok && len(p) != 0 || ok && !sameLists(p, [][]int{s}) {
				t.Error("one more in the line", most, i, len(p), ok)
			}
		}
	}
	// With one place less there are 275 terms behind the first one. Some of them are looked at
	// before those that they lead to are too many.
	small := s[1:]
	l, ok = impl.RewritesOf(a, grow, small)
	if !ok || len(l) != 275 {
		t.Fatal("rewritten", len(l), ok)
	}
	next := rewritesKnown(a, grow)
	in := 0
	for i, u := range l {
		one, ok := impl.ReachTerm(a, grow, small, u, 1)
		two, fine := impl.ReachTerm(a, grow, small, u, 2)
		_, is := reachByTrial(next, small, u, 2)
		if !ok || !sameLists(one, [][]int{small, u}) || fine != is || !fine && len(two) != 0 || fine && !sameLists(one, two) {
			t.Error("reached", i, one, two, fine, is)
		}
		if is {
			in++
		}
	}
	if in == 0 || in == len(l) {
		t.Error("looked at before the line is too long", in)
	}
	// The line is full with 300 terms: s is one of its own rewrites here.
	vine := vineOf(19)
	l, ok = impl.RewritesOf(a, eqs("x0 = x1"), vine)
	if !ok || len(l) != 300 {
		t.Fatal("rewritten", len(l), ok)
	}
	for _, u := range [][]int{l[0], l[299]} {
		if p, ok := impl.ReachTerm(a, eqs("x0 = x1"), vine, u, 1); !ok || !sameLists(p, [][]int{vine, u}) {
			t.Error("a full line", len(p), ok)
		}
	}
}

// reachByTrial follows the text of the chapter, with all rewritings known.
func reachByTrial(next func([]int) [][]int, s, t []int, most int) ([][]int, bool) {
	line := [][][]int{{s}}
	for i := 0; i < len(line); i++ {
		path := line[i]
		last := path[len(path)-1]
		if slices.Equal(last, t) {
			return path, true
		}
		if len(path)-1 >= most {
			continue
		}
		all := next(last)
		if len(all) > 300 {
			return nil, false
		}
		for _, u := range all {
			if !slices.ContainsFunc(line, func(p [][]int) bool { return slices.Equal(p[len(p)-1], u) }) {
				line = append(line, append(slices.Clone(path), u))
			}
		}
		if len(line) > 300 {
			return nil, false
		}
	}
	return nil, false
}

// rewritesKnown returns a function that finds all rewrites of a term by trial, once.
func rewritesKnown(a impl.Algebra, given []impl.Identity) func([]int) [][]int {
	known := map[string][][]int{}
	return func(list []int) [][]int {
		key := fmt.Sprint(list)
		all, ok := known[key]
		if !ok {
			all = resultsOf(rewriteByTrial(a, given, treeOf(a, slices.Clone(list))))
			known[key] = all
		}
		return all
	}
}

// someLists returns each few of the terms with at most four numbers.
func someLists(a impl.Algebra, step int) [][]int {
	var list [][]int
	for i, l := range listsOf(treesUpTo(a, 4, 0, 2)) {
		if i%step == 0 {
			list = append(list, l)
		}
	}
	return list
}

func TestReachTerm(t *testing.T) {
	a := wordsAlgebra()
	lengths := map[int]int{}
	for i, given := range theories() {
		next := rewritesKnown(a, given)
		for j, s := range someLists(a, 9) {
			targets := append(someLists(a, 31), s)
			targets = append(targets, next(s)...)
			for _, u := range next(s)[:min(len(next(s)), 7)] {
				targets = append(targets, next(u)...)
			}
			for k, u := range targets {
				if len(targets) > 60 && k%7 != 0 {
					continue
				}
				most := (i + j + k) % 4
				want, is := reachByTrial(next, s, u, most)
				l, ok := impl.ReachTerm(a, given, s, u, most)
				if ok != is || !sameLists(l, want) {
					t.Fatal("reached", given, s, u, most, l, ok, want)
				}
				lengths[len(l)]++
			}
		}
	}
	for n := range 4 {
		if lengths[n] < 20 {
			t.Error("too few lists of", n, lengths)
		}
	}
}

func TestReachTermFarther(t *testing.T) {
	a := wordsAlgebra()
	given := eqs("f1(f1(x0)) = x0", "f0(x0,x1) = f0(x1,x0)", "f1(f0(x0,x1)) = f0(f1(x0),f1(x1))")
	next := rewritesKnown(a, given)
	s := word("f1(f0(x0,f0(x1,f2)))")
	found := map[int]int{}
	for _, text := range []string{
		"f1(f0(x0,f0(x1,f2)))", "f1(f0(x0,f0(f2,x1)))", "f1(f0(f0(f2,x1),x0))", "f0(f1(x0),f0(f1(x1),f1(f2)))", "f0(f0(f1(x1),f1(f2)),f1(x0))", "f0(f0(f1(f2),f1(x1)),f1(x0))", "f0(f0(f1(f2),f1(x1)),x0)", "x0", "f1(f1(f1(f0(x0,f0(x1,f2)))))", "f2",
	} {
		u := word(text)
		for most := 0; most <= 6; most++ {
			want, is := reachByTrial(next, s, u, most)
			l, ok := impl.ReachTerm(a, given, s, u, most)
			steps, fine := impl.ProveByReach(a, given, s, u, most)
			if ok != is || fine != is || !sameLists(l, want) || !fine && len(steps) != 0 {
				t.Error("reached", text, most, l, ok, want, len(steps), fine)
			}
			found[len(l)]++
		}
		for _, most := range []int{-1, 7, 8, -7, math.MaxInt, math.MinInt} {
			l, ok := impl.ReachTerm(a, given, s, u, most)
			steps, fine := impl.ProveByReach(a, given, s, u, most)
			if ok || fine || len(l)+len(steps) != 0 {
				t.Error("reached", text, most, l, len(steps))
			}
		}
	}
	if found[0] == 0 || found[1] == 0 || found[2] == 0 || found[3] == 0 || found[4] == 0 {
		t.Error("too few cases", found)
	}
}

// A chain of constants that are far apart is walked with just enough rewritings.
func TestReachTermWithMost(t *testing.T) {
	a := unevenOf(2, 1, 1, 0)
	// Each f1 around a term moves to the inside by one rewriting.
	given := []impl.Identity{{Left: []int{-2, -1, 0}, Right: []int{-1, -2, 0}}}
	at := func(k int) []int {
		list := nested(0, 8, -3)
		return slices.Insert(list, k, -2)
	}
	for i := range 9 {
		for j := range 9 {
			far := max(i-j, j-i)
			var want [][]int
			for k := range far + 1 {
				want = append(want, at(i+k*cmp.Compare(j, i)))
			}
			for most := -2; most <= 8; most++ {
				is := most >= far && most >= 0 && most <= 6
				l, ok := impl.ReachTerm(a, given, at(i), at(j), most)
				steps, fine := impl.ProveByReach(a, given, at(i), at(j), most)
				if ok != is || fine != is || ok && !sameLists(l, want) || !ok && len(l)+len(steps) != 0 {
					t.Fatal("reached", i, j, most, l, ok, len(steps), fine)
				}
				if !fine {
					continue
				}
				count := 4*far + far - 1
				if j > i {
					count = 3*far + far - 1
				}
				if far == 0 {
					count = 1
				}
				if len(steps) != count || !checkSteps(t, a, given, steps) {
					t.Fatal("proved", i, j, most, len(steps), count)
				}
			}
		}
	}
}

// A line ends when all of its terms were looked at.
func TestReachTermOfAnExhaustedLine(t *testing.T) {
	a := wordsAlgebra()
	for _, c := range []struct {
		given []string
		s, t  string
	}{
		{nil, "x0", "x1"}, {nil, "f0(x0,x1)", "f0(x1,x0)"}, {[]string{"x0 = x0"}, "x0", "x1"}, {[]string{"f2 = f3"}, "f2", "x0"}, {[]string{"f0(x0,x1) = f0(x1,x0)"}, "f0(x0,f0(x1,x2))", "f0(f0(x0,x1),x2)"},
		{[]string{"f2 = f3", "f3 = f2"}, "f0(f2,f2)", "f0(f3,x0)"},
	} {
		for most := range 7 {
			l, ok := impl.ReachTerm(a, eqs(c.given...), word(c.s), word(c.t), most)
			steps, fine := impl.ProveByReach(a, eqs(c.given...), word(c.s), word(c.t), most)
			if ok || fine || len(l)+len(steps) != 0 {
				t.Error("reached", c, most, l, len(steps))
			}
			if l, ok := impl.ReachTerm(a, eqs(c.given...), word(c.s), word(c.s), most); !ok || !sameLists(l, words(c.s)) {
				t.Error("a term from itself", c, most, l, ok)
			}
		}
	}
}

// stepsByTrial returns what ProveStep must return for a way to rewrite a term.
func stepsByTrial(given []impl.Identity, x tree, w trial) []impl.EqStep {
	e := given[w.index]
	steps := []impl.EqStep{stepGiven(given, w.index)}
	if w.backward {
		e = turned(e)
		steps = append(steps, impl.EqStep{Rule: impl.EqExchange, Eq: e})
	}
	a := wordsAlgebra()
	put := identityOf(treeOf(a, slices.Clone(e.Left)).put(w.terms), treeOf(a, slices.Clone(e.Right)).put(w.terms))
	steps = append(steps, impl.EqStep{Rule: impl.EqPut, Eq: put, A: len(steps) - 1, Terms: listsOf(w.terms)})
	whole := impl.Identity{Left: x.list(), Right: w.result}
	return append(steps, impl.EqStep{Rule: impl.EqReplace, Eq: whole, A: len(steps) - 1, At: w.at, Terms: [][]int{x.list()}})
}

// Each rewriting is proved in the first way that there is, and nothing else is proved so.
func TestProveStep(t *testing.T) {
	a := wordsAlgebra()
	proved, backward, refused := 0, 0, 0
	for _, given := range theories() {
		for i, x := range append(treesUpTo(a, 4, 0, 2), treesUpTo(a, 3, 1, 5)...) {
			first := map[string]bool{}
			for _, w := range rewriteByTrial(a, given, x) {
				if first[fmt.Sprint(w.result)] {
					continue
				}
				first[fmt.Sprint(w.result)] = true
				steps, ok := impl.ProveStep(a, given, x.list(), w.result)
				if !ok || !sameSteps(steps, stepsByTrial(given, x, w)) {
					t.Fatal("one step", given, x.text(), w, steps, ok)
				}
				proved++
				if w.backward {
					backward++
				}
				if i%11 == 0 && !checkSteps(t, a, given, steps) {
					t.Fatal("no proof", given, x.text(), steps)
				}
			}
			for _, u := range append(someLists(a, 50), x.list()) {
				if first[fmt.Sprint(u)] {
					continue
				}
				refused++
				if steps, ok := impl.ProveStep(a, given, x.list(), u); ok || len(steps) != 0 {
					t.Fatal("one step", given, x.text(), u, steps)
				}
			}
		}
	}
	if proved < 1000 || backward < 100 || refused < 1000 {
		t.Error("too few cases", proved, backward, refused)
	}
}

func TestCasesOfProveStep(t *testing.T) {
	a := wordsAlgebra()
	cases := []struct {
		name     string
		given    []string
		s, t     string
		index    int
		backward bool
		at       int
	}{
		{"the least index", []string{"f2 = x0", "f0(x0,x1) = f0(x1,x0)", "f0(x2,x3) = f0(x3,x2)"}, "f0(x0,x1)", "f0(x1,x0)", 1, false, 0},
		{"both directions", []string{"f0(x0,x1) = f0(x1,x0)"}, "f0(x1,x0)", "f0(x0,x1)", 0, false, 0},
		{"from Right to Left", []string{"f1(f1(x0)) = x0"}, "f1(x3)", "f1(f1(f1(x3)))", 0, true, 0},
		{"a greater index from Left to Right", []string{"x0 = f1(f1(x0))", "f1(f1(x0)) = x0"}, "f1(f1(f1(x3)))", "f1(x3)", 0, true, 0},
		{"a greater place from Left to Right", []string{"f0(x0,x1) = f0(x1,f0(x2,x3))"}, "f0(f0(x0,x0),x0)", "f0(f0(x0,f0(x0,x0)),x0)", 0, false, 1},
		{"several places", []string{"f0(x0,x0) = f0(x0,x0)"}, "f0(f0(x1,x1),f0(x1,x1))", "f0(f0(x1,x1),f0(x1,x1))", 0, false, 0},
		{"an inner place", []string{"f1(x0) = f1(f1(x0))"}, "f0(x0,f1(x1))", "f0(x0,f1(f1(x1)))", 0, false, 2},
		{"the last place", []string{"f2 = f3"}, "f0(f2,f0(f2,f2))", "f0(f2,f0(f2,f3))", 0, false, 4},
		{"the last place, from Right to Left", []string{"f3 = f2"}, "f0(f2,f0(f2,f2))", "f0(f2,f0(f2,f3))", 0, true, 4},
		{"a term from itself", []string{"f2 = x5", "f0(x0,x1) = f0(x1,x0)"}, "f1(f0(x4,x4))", "f1(f0(x4,x4))", 1, false, 1},
		{"a variable from itself", []string{"x0 = x0"}, "x2", "x2", 0, false, 0},
		{"one side alone", []string{"f2 = f0(x0,x5)"}, "f0(x1,f0(x2,f2))", "f0(x1,f0(x2,f0(x2,x1)))", 0, false, 4},
		{"one side alone, no variables", []string{"f0(x5,x4) = f2"}, "f1(f2)", "f1(f0(x0,x0))", 0, true, 1},
	}
	for _, c := range cases {
		given := eqs(c.given...)
		steps, ok := impl.ProveStep(a, given, word(c.s), word(c.t))
		if !ok || !checkSteps(t, a, given, steps) {
			t.Error("no proof", c.name, steps, ok)
			continue
		}
		last := steps[len(steps)-1]
		if steps[0].Rule != impl.EqGiven || steps[0].A != c.index || (len(steps) == 4) != c.backward || last.At != c.at || len(steps[len(steps)-2].Terms) != 6 {
			t.Error(c.name, steps)
		}
		if !sameEq(last.Eq, impl.Identity{Left: word(c.s), Right: word(c.t)}) {
			t.Error("proves another Identity", c.name, last)
		}
	}
	steps, ok := impl.ProveStep(a, eqs("f0(x5,x4) = f2"), word("f1(f2)"), word("f1(f0(x0,x0))"))
	if !ok || !sameLists(steps[2].Terms, words("x0", "x1", "x2", "x3", "x0", "x0")) {
		t.Error("terms that are put", steps, ok)
	}
	for _, c := range [][3]string{
		{"f0(x0,x1) = f0(x1,x0)", "f0(x0,x1)", "f0(x0,x1)"}, {"f0(x0,x1) = f0(x1,x0)", "f0(x0,f0(x1,x2))", "f0(f0(x2,x1),x0)"}, {"f2 = f0(x0,x5)", "f0(x1,f2)", "f0(x1,f0(x2,x1))"},
		{"f2 = f0(x0,x5)", "f1(f2)", "f1(f0(x0,x1))"}, {"f2 = f0(x0,x5)", "f1(f2)", "f1(f0(x5,x0))"}, {"f2 = f1(x3)", "f2", "f1(x3)"}, {"f2 = f1(x3)", "f2", "f1(f2)"}, {"f1(x0) = f1(x1)", "f1(x2)", "f1(x3)"},
	} {
		if steps, ok := impl.ProveStep(a, eqs(c[0]), word(c[1]), word(c[2])); ok || len(steps) != 0 {
			t.Error("is not rewritten", c, steps)
		}
	}
	if steps, ok := impl.ProveStep(a, nil, word("x0"), word("x0")); ok || len(steps) != 0 {
		t.Error("no given Identities", steps)
	}
}

// chainedByTrial returns what ProveByReach must return for a list of terms.
func chainedByTrial(a impl.Algebra, given []impl.Identity, path [][]int) []impl.EqStep {
	var steps []impl.EqStep
	for i := 1; i < len(path); i++ {
		x := treeOf(a, slices.Clone(path[i-1]))
		all := rewriteByTrial(a, given, x)
		w := all[slices.IndexFunc(all, func(w trial) bool { return slices.Equal(w.result, path[i]) })]
		shift := len(steps)
		steps = append(steps, renumbered(stepsByTrial(given, x, w), func(k int) int { return k + shift })...)
		if i > 1 {
			steps = append(steps, impl.EqStep{Rule: impl.EqChain, Eq: impl.Identity{Left: path[0], Right: path[i]}, A: shift - 1, B: len(steps) - 1})
		}
	}
	return steps
}

// What is proved holds in each Algebra in which the given Identities hold.
func TestProveByReach(t *testing.T) {
	a := wordsAlgebra()
	all := models([]int{2, 1, 0, 0})
	proofs, checked, refuted := map[int]int{}, 0, 0
	for i, given := range theories() {
		next := rewritesKnown(a, given)
		for j, s := range someLists(a, 23) {
			targets := append(someLists(a, 17), s)
			targets = append(targets, next(s)...)
			for _, u := range next(s)[:min(len(next(s)), 5)] {
				targets = append(targets, next(u)...)
			}
			for k, u := range targets {
				most := (i + j + k) % 4
				if len(targets) > 30 && k%5 != 0 {
					continue
				}
				path, is := reachByTrial(next, s, u, most)
				steps, ok := impl.ProveByReach(a, given, s, u, most)
				if ok != is || !ok && len(steps) != 0 {
					t.Fatal("proved", given, s, u, most, steps, ok)
				}
				if !ok {
					continue
				}
				proofs[len(path)]++
				want := chainedByTrial(a, given, path)
				if len(path) == 1 {
					want = []impl.EqStep{{Rule: impl.EqReflect, Eq: impl.Identity{Left: s, Right: s}}}
				}
				if !sameSteps(steps, want) || !checkSteps(t, a, given, steps) {
					t.Fatal("proved", given, s, u, most, steps, want)
				}
				e, ok := impl.ProvedBy(a, given, steps)
				if !ok || !sameEq(e, impl.Identity{Left: s, Right: u}) {
					t.Fatal("proved", given, s, u, e, ok)
				}
				checked += checkSound(t, given, e, all)
				if slices.ContainsFunc(all, func(b impl.Algebra) bool { h, ok := impl.DoesHold(b, e); return ok && !h }) {
					refuted++
				}
			}
		}
	}
	if proofs[1] < 20 || proofs[2] < 50 || proofs[3] < 20 || checked < 1000 || refuted < 20 {
		t.Error("too few cases", proofs, checked, refuted)
	}
}

// Proofs of two steps by rewriting are chained from the first to the last one.
func TestProveByReachInSteps(t *testing.T) {
	a := wordsAlgebra()
	given := eqs("f0(x0,x1) = f0(x1,x0)", "f1(f1(x0)) = x0")
	s, u := word("f0(x0,f0(x1,x2))"), word("f0(f1(f1(f0(x2,x1))),x0)")
	steps, ok := impl.ProveByReach(a, given, s, u, 3)
	if !ok || len(steps) != 12 || !checkSteps(t, a, given, steps) {
		t.Fatal("proved", steps, ok)
	}
	var rules []int
	for _, r := range steps {
		rules = append(rules, r.Rule)
	}
	if !slices.Equal(rules, []int{1, 5, 6, 1, 5, 6, 4, 1, 3, 5, 6, 4}) || steps[6].A != 2 || steps[6].B != 5 || steps[11].A != 6 || steps[11].B != 10 {
		t.Error("steps", rules, steps[6], steps[11])
	}
	for most := range 3 {
		if steps, ok := impl.ProveByReach(a, given, s, u, most); ok || len(steps) != 0 {
			t.Error("too few rewritings", most, len(steps))
		}
	}
}

func TestProveByReachOfTheSameTerm(t *testing.T) {
	a := wordsAlgebra()
	for _, given := range append(theories(), slices.Repeat(eqs("x0 = x1"), 10)) {
		for _, text := range []string{"x0", "f2", "f0(x1,f1(x1))"} {
			want := []impl.EqStep{stepReflect(text)}
			for most := -3; most <= 9; most++ {
				steps, ok := impl.ProveByReach(a, given, word(text), word(text), most)
				if is := most >= 0 && most <= 6; ok != is || is && !sameSteps(steps, want) || !is && len(steps) != 0 {
					t.Error("the same term", given, text, most, steps, ok)
				}
			}
		}
	}
	full := nested(1, 59, 2)
	if steps, ok := impl.ProveByReach(a, nil, full, slices.Clone(full), 6); !ok || !sameSteps(steps, []impl.EqStep{{Rule: 2, Eq: impl.Identity{Left: full, Right: full}}}) {
		t.Error("a full term", ok)
	}
	if steps, ok := impl.ProveByReach(a, eqs("x0 = x1"), vineOf(26-6), vineOf(26-6), 6); !ok || len(steps) != 1 {
		t.Error("a term with too many rewrites", len(steps), ok)
	}
}

// In a group, what is multiplied by an element and by its inverse is what it was.
func TestProofOfAGroup(t *testing.T) {
	a := wordsAlgebra()
	given := eqs("f0(f0(x0,x1),x2) = f0(x0,f0(x1,x2))", "f0(x0,f2) = x0", "f0(x0,f1(x0)) = f2")
	path := words("f0(f0(x0,x1),f1(x1))", "f0(x0,f0(x1,f1(x1)))", "f0(x0,f2)", "x0")
	one, ok := impl.ProveStep(a, given, path[0], path[1])
	for i := 2; ok && i < len(path); i++ {
		two, fine := impl.ProveByReach(a, given, path[i-1], path[i], 1)
		one, ok = impl.ChainProofs(a, given, one, two)
		ok = ok && fine
	}
	if !ok || len(one) != 11 || !checkSteps(t, a, given, one) {
		t.Fatal("proved", len(one), ok)
	}
	if u, ok := impl.UsedGiven(a, given, one); !ok || !slices.Equal(u, []int{0, 1, 2}) {
		t.Error("used", u, ok)
	}
	put := impl.EqStep{Rule: impl.EqPut, Eq: eq("f0(f0(f1(x3),x3),f1(x3)) = f1(x3)"), A: len(one) - 1, Terms: words("f1(x3)", "x3")}
	steps := append(one, put)
	if !checkSteps(t, a, given, steps) {
		t.Fatal("put", steps)
	}
	for size := 1; size <= 7; size++ {
		group := algebraOf(size, []int{2, 1, 0, 0}, func(op, at int) int { return []int{(at/size + at) % size, (size - at) % size, 0, size - 1}[op] })
		if checkSound(t, given, put.Eq, []impl.Algebra{group}) != 1 {
			t.Error("no group", size)
		}
	}
}

// Only the operations and their Arities matter.
func TestProofsInOtherAlgebras(t *testing.T) {
	given, steps := longProof()
	s, u := word("f0(f1(x0),f0(x1,x2))"), word("f0(f0(f1(x0),x1),x2)")
	want, _ := impl.RewritesOf(wordsAlgebra(), given, s)
	proof, _ := impl.ProveByReach(wordsAlgebra(), given, s, u, 2)
	if len(want) == 0 || len(proof) == 0 {
		t.Fatal("no rewrites", want, proof)
	}
	for size := 1; size <= 8; size++ {
		a := unevenOf(size, 2, 1, 0, 0)
		if !checkSteps(t, a, given, steps) {
			t.Error("proof", size)
		}
		l, one := impl.RewritesOf(a, given, s)
		p, two := impl.ProveByReach(a, given, s, u, 2)
		if !one || !two || !sameLists(l, want) || !sameSteps(p, proof) {
			t.Error("rewritten", size, l, p)
		}
	}
	for _, a := range []impl.Algebra{unevenOf(2, 1, 2, 0, 0), unevenOf(2, 2, 2, 0, 0), unevenOf(2, 0, 0, 1, 2), unevenOf(2, 2), {Size: 2}} {
		if names := refusedAlways(a, given, steps); len(names) != 0 {
			t.Error("another type", a.Ops, names)
		}
	}
	// Without constants the given Identities are still terms, but the third step is none.
	if n, ok := impl.FirstBadStep(unevenOf(2, 2, 1), given, steps); !ok || n != 2 {
		t.Error("without constants", n, ok)
	}
}

// listsIn returns all lists of numbers in steps.
func listsIn(steps []impl.EqStep) [][]int {
	var all [][]int
	for _, s := range steps {
		all = append(all, s.Eq.Left, s.Eq.Right)
		all = append(all, s.Terms...)
	}
	return all
}

// areApart writes other numbers into each list, up to its capacity, and reports whether none of
// them shows in another one.
func areApart(lists [][]int) bool {
	for i, l := range lists {
		for j := range l[:cap(l)] {
			l[:cap(l)][j] = 1000 + i
		}
	}
	for i, l := range lists {
		for _, n := range l[:cap(l)] {
			if n != 1000+i {
				return false
			}
		}
	}
	return true
}

// termsApart does the same with the lists of lists in steps.
func termsApart(steps []impl.EqStep) bool {
	mark := func(i, j int) []int { return []int{i, j} }
	for i, s := range steps {
		for j := range s.Terms[:cap(s.Terms)] {
			s.Terms[:cap(s.Terms)][j] = mark(i, j)
		}
	}
	for i, s := range steps {
		for j, l := range s.Terms[:cap(s.Terms)] {
			if !slices.Equal(l, mark(i, j)) {
				return false
			}
		}
	}
	return true
}

// spoilSteps writes into all memory of steps and reports whether it was apart.
func spoilSteps(steps []impl.EqStep) bool {
	apart := areApart(listsIn(steps)) && termsApart(steps)
	for i := range steps[:cap(steps)] {
		steps[:cap(steps)][i] = impl.EqStep{Rule: -9, A: -9}
	}
	return apart
}

func roomyEq(e impl.Identity) impl.Identity {
	return impl.Identity{Left: roomy(e.Left), Right: roomy(e.Right)}
}

// roomyGiven returns a copy with room behind each end, in which nothing may be written.
func roomyGiven(given []impl.Identity) []impl.Identity {
	var list []impl.Identity
	for _, e := range given {
		list = append(list, roomyEq(e))
	}
	return append(list, impl.Identity{Left: []int{77}}, impl.Identity{})[:len(given)]
}

func roomySteps(steps []impl.EqStep) []impl.EqStep {
	var list []impl.EqStep
	for _, s := range steps {
		s.Eq = roomyEq(s.Eq)
		var terms [][]int
		for _, l := range s.Terms {
			terms = append(terms, roomy(l))
		}
		s.Terms = append(terms, []int{78}, nil)[:len(s.Terms)]
		list = append(list, s)
	}
	return append(list, impl.EqStep{Rule: 79}, impl.EqStep{})[:len(steps)]
}

// allOf tells all numbers of arguments, also those behind the ends of their slices.
func allOf(a impl.Algebra, given []impl.Identity, steps []impl.EqStep, lists ...[]int) string {
	whole := func(l []int) []int { return l[:cap(l)] }
	text := fmt.Sprint(a)
	for _, e := range given[:cap(given)] {
		text += fmt.Sprint(whole(e.Left), whole(e.Right))
	}
	for _, s := range steps[:cap(steps)] {
		text += fmt.Sprint(s.Rule, s.A, s.B, s.At, whole(s.Eq.Left), whole(s.Eq.Right))
		for _, l := range s.Terms[:cap(s.Terms)] {
			text += fmt.Sprint(whole(l))
		}
	}
	for _, l := range lists {
		text += fmt.Sprint(whole(l))
	}
	return text
}

// proofResults calls each function of the chapter. It returns all lists of steps, all lists of
// terms, and a text of everything.
func proofResults(a impl.Algebra, given []impl.Identity, steps []impl.EqStep, s, t []int) ([][]impl.EqStep, [][][]int, string) {
	var lists [][]impl.EqStep
	var terms [][][]int
	var others []any
	keep := func(l []impl.EqStep, ok bool) {
		lists = append(lists, l)
		others = append(others, ok)
	}
	keepTerms := func(l [][]int, ok bool) {
		terms = append(terms, l)
		others = append(others, ok)
	}
	keep(impl.TrimEqProof(a, given, steps))
	keep(impl.ExchangeProof(a, given, steps))
	keep(impl.ChainProofs(a, given, steps, steps))
	keep(impl.ProveStep(a, given, s, t))
	keep(impl.ProveStep(a, given, t, s))
	keep(impl.ProveByReach(a, given, s, t, 2))
	keep(impl.ProveByReach(a, given, s, s, 2))
	keepTerms(impl.RewritesOf(a, given, s))
	keepTerms(impl.ReachTerm(a, given, s, t, 2))
	keepTerms(impl.ReachTerm(a, given, s, s, 0))
	e, one := impl.ProvedBy(a, given, steps)
	u, two := impl.UsedGiven(a, given, steps)
	keepTerms([][]int{e.Left, e.Right, u}, one && two)
	for k := range steps {
		is, ok := impl.IsEqStep(a, given, steps, k)
		others = append(others, is, ok)
	}
	n, three := impl.FirstBadStep(a, given, steps)
	is, four := impl.IsEqProof(a, given, steps)
	others = append(others, n, three, is, four)
	return lists, terms, fmt.Sprint(lists, terms, others)
}

func TestProofFunctionsLeaveTheirArguments(t *testing.T) {
	a := wordsAlgebra()
	given, long := longProof()
	given = append(given, eq("f2 = f0(x0,x4)"))
	same := []impl.EqStep{stepReflect("x0")}
	wrong := append(slices.Clone(long), impl.EqStep{Rule: 6, Terms: words("x0")})
	pairs := [][2]string{{"f0(x0,f1(x0))", "f0(f1(x0),x0)"}, {"f0(x0,f0(x1,x2))", "f0(f0(x0,x1),x2)"}, {"f0(f2,x3)", "f0(f0(x3,x3),x3)"}, {"f1(f1(x2))", "x2"}, {"x0", "f2"}}
	for _, given := range [][]impl.Identity{roomyGiven(given), roomyGiven(nil)} {
		for _, steps := range [][]impl.EqStep{roomySteps(long), roomySteps(long[:8]), roomySteps(same), roomySteps(wrong), roomySteps(nil)} {
			for _, p := range pairs {
				s, u := roomy(word(p[0])), roomy(word(p[1]))
				before := allOf(a, given, steps, s, u)
				lists, terms, first := proofResults(a, given, steps, s, u)
				_, _, second := proofResults(a, given, steps, s, u)
				if first != second {
					t.Fatal("another result", first, second)
				}
				for _, l := range lists {
					if !spoilSteps(l) {
						t.Fatal("a result shares memory with itself", p)
					}
				}
				for _, l := range terms {
					if !areApart(l) {
						t.Fatal("a result shares memory with itself", p)
					}
				}
				if after := allOf(a, given, steps, s, u); after != before {
					t.Fatal("changed", before, after)
				}
				if _, _, third := proofResults(a, given, steps, s, u); third != second {
					t.Fatal("a result shares memory", p)
				}
			}
		}
	}
}

// The longest searches end in good time.
func TestLongSearches(t *testing.T) {
	a := wordsAlgebra()
	wide := rightComb(slices.Repeat([]int{0, 1, 2, 3, 4, 5}, 5)...)
	for _, texts := range [][]string{{"x0 = x1"}, {"f0(x0,x1) = f0(x1,x0)"}, {"x0 = f0(f0(x1,x2),x0)", "f0(x0,x1) = f0(x1,x0)"}, {"x0 = x0"}, {"f0(x0,x1) = f0(x2,x3)"}, {"f0(x0,f0(x1,x2)) = f0(f0(x0,x1),x2)"}} {
		given := slices.Repeat(eqs(texts...), 10/len(texts))
		for _, s := range [][]int{wide, nested(1, 59, 5), vineOf(19), bushOf()} {
			l, one := impl.RewritesOf(a, given, s)
			p, two := impl.ReachTerm(a, given, s, word("f3"), 6)
			r, three := impl.ProveByReach(a, given, s, word("f3"), 6)
			q, four := impl.ProveStep(a, given, s, word("f3"))
			if len(l) > 300 || !one && len(l) != 0 || two || three || four || len(p)+len(r)+len(q) != 0 {
				t.Error("searched", texts, len(s), len(l), one, two, three, four)
			}
		}
	}
}
