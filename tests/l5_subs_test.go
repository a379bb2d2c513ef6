package tests

import (
	"fmt"
	"math"
	"slices"
	"testing"

	"loop.example/g01078/impl"
)

// The signatures of chapter 5 are promised to other packages.
var (
	_ func(impl.Algebra, []int) (bool, bool)         = impl.IsSubuniverse
	_ func(impl.Algebra, []int) ([]int, bool)        = impl.GenerateSub
	_ func(impl.Algebra, []int) ([][]int, bool)      = impl.GenerationRounds
	_ func(impl.Algebra) ([][]int, bool)             = impl.AllSubuniverses
	_ func(impl.Algebra, []int) (impl.Algebra, bool) = impl.SubalgebraOf
	_ func(impl.Algebra) ([][]int, bool)             = impl.MinimalSubs
	_ func(impl.Algebra) ([][]int, bool)             = impl.MaximalSubs
	_ func(impl.Algebra, []int, []int) ([]int, bool) = impl.MeetSubs
	_ func(impl.Algebra, []int, []int) ([]int, bool) = impl.JoinSubs
	_ func(impl.Algebra, []int) (bool, bool)         = impl.IsGenerating
	_ func(impl.Algebra, []int) (bool, bool)         = impl.IsIndependent
	_ func(impl.Algebra) ([]int, bool)               = impl.LeastGenerators
	_ func(impl.Algebra) ([]int, bool)               = impl.NonGenerators
	_ func(impl.Algebra, int) ([][]int, bool)        = impl.SubsThrough
)

// with returns the Algebra with one more operation behind those of a.
func with(a impl.Algebra, arity int, table ...int) impl.Algebra {
	b := cloneAlgebra(a)
	b.Ops = append(b.Ops, impl.Op{Arity: arity, Table: table})
	return b
}

func bare(size int) impl.Algebra { return impl.Algebra{Size: size} }

// constantsAlone returns an Algebra that has operations of the Arity 0 only.
func constantsAlone(size int, values ...int) impl.Algebra {
	a := bare(size)
	for _, x := range values {
		a = with(a, 0, x)
	}
	return a
}

// sums has the sum of two elements modulo the Size, so its subuniverses are groups.
func sums(size int) impl.Algebra {
	return opOf(size, 2, func(x []int) int { return (x[0] + x[1]) % size })
}

// cosets has x - y + z modulo the Size. The empty list and each coset of a group are closed.
func cosets(size int) impl.Algebra {
	return opOf(size, 3, func(x []int) int { return (x[0] - x[1] + x[2] + size) % size })
}

func successors(size int) impl.Algebra {
	return opOf(size, 1, func(x []int) int { return (x[0] + 1) % size })
}

// lesser has the lesser one of two elements, so each list is closed.
func lesser(size int) impl.Algebra {
	return opOf(size, 2, func(x []int) int { return min(x[0], x[1]) })
}

// cube is the lattice of all sets of three points.
func cube() impl.Algebra {
	return with(opOf(8, 2, func(x []int) int { return x[0] & x[1] }), 2, opOf(8, 2, func(x []int) int { return x[0] | x[1] }).Ops[0].Table...)
}

// mixed returns an Algebra whose operations mostly have the value of their last argument, so that
// it has many subuniverses without a pattern.
func mixed(size, seed int, arities ...int) impl.Algebra {
	return algebraOf(size, arities, func(op, at int) int {
		n := uint32(at*37+op*101+seed*977+1) * 2654435761
		if n>>16%9 < 2 {
			return int(n>>20) % size
		}
		return at % size
	})
}

// subAlgebras returns Algebras with few and with many subuniverses.
func subAlgebras() []impl.Algebra {
	list := someAlgebras()
	for size := 1; size <= 8; size++ {
		list = append(list, bare(size), constantsAlone(size, size-1), constantsAlone(size, size/2, 0, size/2, size-1))
		list = append(list, sums(size), with(sums(size), 0, 0), with(sums(size), 0, size/2), cosets(size), with(cosets(size), 0, size-1))
		list = append(list, successors(size), with(successors(size), 0, 0), lesser(size), with(lesser(size), 0, size/2))
		list = append(list, opOf(size, 1, func(x []int) int { return x[0] / 2 }), opOf(size, 2, func(x []int) int { return x[0] * x[1] % size }))
		for seed := range 4 {
			list = append(list, mixed(size, seed, 1), mixed(size, seed, 1, 1), mixed(size, seed, 2), mixed(size, seed, 3), mixed(size, seed, 2, 1, 0), mixed(size, seed, 0, 2, 0))
		}
	}
	list = append(list, cube(), with(cube(), 1, 7, 6, 5, 4, 3, 2, 1, 0), with(with(cube(), 0, 0), 0, 7), mixed(8, 9, 3, 3, 3, 3))
	for _, x := range argsOf(3, 3) {
		a := with(bare(3), 1, x...)
		list = append(list, a, with(a, 0, 1), with(a, 1, 1, 1, 2))
	}
	for _, x := range argsOf(2, 4) {
		a := with(bare(2), 2, x...)
		list = append(list, a, with(a, 0, 0), with(a, 1, 1, 0))
	}
	return list
}

// ascending returns all strictly ascending lists of 0..n-1, the shorter ones first and those of one
// length in lexicographic order.
func ascending(n int) [][]int {
	lists := [][]int{{}}
	for i := 0; i < len(lists); i++ {
		next := 0
		if l := lists[i]; len(l) > 0 {
			next = l[len(l)-1] + 1
		}
		for ; next < n; next++ {
			lists = append(lists, append(slices.Clone(lists[i]), next))
		}
	}
	return lists
}

// valuesByRule returns all values of operations for arguments in a list.
func valuesByRule(a impl.Algebra, list []int) []int {
	var values []int
	for _, f := range a.Ops {
		for _, places := range argsOf(len(list), f.Arity) {
			at := 0
			for _, i := range places {
				at = at*a.Size + list[i]
			}
			values = append(values, f.Table[at])
		}
	}
	slices.Sort(values)
	return slices.Compact(values)
}

func hasAll(list, some []int) bool {
	return !slices.ContainsFunc(some, func(x int) bool { return !slices.Contains(list, x) })
}

// subsByRule returns all subuniverses in their order.
func subsByRule(a impl.Algebra) [][]int {
	return chosen(ascending(a.Size), func(l []int) bool { return hasAll(l, valuesByRule(a, l)) })
}

func chosen(lists [][]int, keep func(l []int) bool) [][]int {
	var some [][]int
	for _, l := range lists {
		if keep(l) {
			some = append(some, l)
		}
	}
	return some
}

// generatedByRule returns, of all subuniverses, the one with the fewest elements that has some.
func generatedByRule(subs [][]int, some []int) []int {
	return subs[slices.IndexFunc(subs, func(s []int) bool { return hasAll(s, some) })]
}

func roundsByRule(a impl.Algebra, some []int) [][]int {
	met := slices.Compact(slices.Sorted(slices.Values(some)))
	rounds := [][]int{slices.Clone(met)}
	for {
		round := slices.DeleteFunc(valuesByRule(a, met), func(x int) bool { return slices.Contains(met, x) })
		if len(round) == 0 {
			return rounds
		}
		rounds = append(rounds, round)
		met = append(met, round...)
	}
}

// without returns the list without the member at a place.
func without(list []int, i int) []int { return slices.Delete(slices.Clone(list), i, i+1) }

func independentByRule(subs [][]int, some []int) bool {
	for i, x := range some {
		if slices.Contains(generatedByRule(subs, without(some, i)), x) {
			return false
		}
	}
	return true
}

func meetByRule(x, y []int) []int {
	return slices.DeleteFunc(slices.Clone(x), func(n int) bool { return !slices.Contains(y, n) })
}

// minimalByRule and maximalByRule follow the words of the chapter.
func minimalByRule(subs [][]int) [][]int {
	return chosen(subs, func(s []int) bool {
		inside := chosen(subs, func(u []int) bool { return len(u) > 0 && !slices.Equal(u, s) && hasAll(s, u) })
		return len(s) > 0 && len(inside) == 0
	})
}

func maximalByRule(size int, subs [][]int) [][]int {
	return chosen(subs, func(s []int) bool {
		around := chosen(subs, func(u []int) bool { return len(u) < size && !slices.Equal(u, s) && hasAll(u, s) })
		return len(s) < size && len(around) == 0
	})
}

// droppable returns the elements that can be left out of each of the generating lists.
func droppable(size int, subs [][]int) []int {
	var list []int
	for x := range size {
		needed := chosen(ascending(size), func(l []int) bool {
			i := slices.Index(l, x)
			return i >= 0 && len(generatedByRule(subs, l)) == size && len(generatedByRule(subs, without(l, i))) < size
		})
		if len(needed) == 0 {
			list = append(list, x)
		}
	}
	return list
}

// shuffled returns the members of a list in another order, some of them twice.
func shuffled(list []int) []int {
	other := slices.Clone(list)
	slices.Reverse(other)
	if len(other) > 2 {
		other[0], other[1] = other[1], other[0]
	}
	return append(other, other[len(other)/2:]...)
}

// checkGenerated compares what a list generates with what it should.
func checkGenerated(t *testing.T, a impl.Algebra, subs [][]int, some []int) {
	t.Helper()
	want := generatedByRule(subs, some)
	if l, ok := impl.GenerateSub(a, some); !ok || !slices.Equal(l, want) {
		t.Fatal("generated by", some, "in", a, l, ok, "not", want)
	}
	if r, ok := impl.GenerationRounds(a, some); !ok || !sameLists(r, roundsByRule(a, some)) {
		t.Fatal("rounds from", some, "in", a, r, ok)
	}
	if is, ok := impl.IsGenerating(a, some); !ok || is != (len(want) == a.Size) {
		t.Fatal("generating", some, "in", a, is, ok)
	}
	if is, ok := impl.IsIndependent(a, some); !ok || is != independentByRule(subs, some) {
		t.Fatal("independent", some, "in", a, is, ok)
	}
}

func TestGeneratedSubuniverses(t *testing.T) {
	t.Parallel()
	for _, a := range subAlgebras() {
		subs := subsByRule(a)
		for _, l := range ascending(a.Size) {
			checkGenerated(t, a, subs, l)
			if len(l) > 0 {
				checkGenerated(t, a, subs, shuffled(l))
			}
		}
	}
}

// All lists of few numbers in any order, so with each element twice and thrice at each place.
func TestGeneratedByAllShortLists(t *testing.T) {
	for _, a := range []impl.Algebra{bare(4), sums(4), with(sums(4), 0, 2), cosets(4), successors(4), mixed(4, 1, 2), mixed(4, 2, 1, 0)} {
		subs := subsByRule(a)
		for n := range 5 {
			for _, l := range argsOf(4, n) {
				checkGenerated(t, a, subs, l)
			}
		}
	}
}

func TestListsOfSubuniverses(t *testing.T) {
	for _, a := range subAlgebras() {
		subs := subsByRule(a)
		if l, ok := impl.AllSubuniverses(a); !ok || !sameLists(l, subs) {
			t.Fatal("all of", a, l, ok, "not", subs)
		}
		if l, ok := impl.MinimalSubs(a); !ok || !sameLists(l, minimalByRule(subs)) {
			t.Fatal("minimal ones of", a, l, ok)
		}
		if l, ok := impl.MaximalSubs(a); !ok || !sameLists(l, maximalByRule(a.Size, subs)) {
			t.Fatal("maximal ones of", a, l, ok)
		}
		for x := range a.Size {
			want := chosen(subs, func(s []int) bool { return slices.Contains(s, x) })
			if l, ok := impl.SubsThrough(a, x); !ok || !sameLists(l, want) {
				t.Fatal("through", x, "in", a, l, ok, "not", want)
			}
		}
	}
}

func TestIsSubuniverse(t *testing.T) {
	for _, a := range subAlgebras() {
		subs := subsByRule(a)
		isSub := func(l []int) bool {
			return slices.ContainsFunc(subs, func(s []int) bool { return slices.Equal(s, l) })
		}
		for _, l := range ascending(a.Size) {
			if is, ok := impl.IsSubuniverse(a, l); !ok || is != isSub(l) {
				t.Fatal("subuniverse", l, "of", a, is, ok)
			}
		}
		if is, ok := impl.IsSubuniverse(a, nil); !ok || is != isSub(nil) {
			t.Fatal("subuniverse nil of", a, is, ok)
		}
	}
}

// Any numbers are asked for: those that are no subuniverse are no failure.
func TestIsSubuniverseOfAnyNumbers(t *testing.T) {
	for _, a := range []impl.Algebra{bare(3), lesser(3), with(bare(3), 3, slices.Repeat([]int{1}, 27)...)} {
		for n := range 5 {
			for _, shifted := range argsOf(6, n) {
				l := []int{}
				for _, x := range shifted {
					l = append(l, x-1)
				}
				strict := slices.IsSorted(l) && len(slices.Compact(slices.Clone(l))) == n
				want := strict && !slices.Contains(l, -1) && !slices.Contains(l, 3) && !slices.Contains(l, 4)
				if a.Ops != nil && a.Ops[0].Arity == 3 && len(l) > 0 {
					want = want && slices.Contains(l, 1)
				}
				if is, ok := impl.IsSubuniverse(a, l); !ok || is != want {
					t.Fatal("subuniverse", l, is, ok)
				}
			}
		}
	}
	whole := firstNumbers(8)
	for _, l := range [][]int{
		{1, 0}, {0, 0}, {0, 1, 1}, {0, 2, 1}, {-1}, {-1, 0}, {8}, {0, 8}, {7, 8}, {math.MaxInt}, {math.MinInt}, {math.MinInt, math.MaxInt}, {64}, {0, 64}, {63}, {0, 65},
		append(firstNumbers(8), 8), append(firstNumbers(8), 7), append([]int{-1}, whole...), append([]int{0}, whole...), {7, 6, 5, 4, 3, 2, 1, 0},
		slices.Repeat(whole, 2), slices.Repeat(whole, 3), firstNumbers(20), firstNumbers(21), make([]int, 20), make([]int, 21), make([]int, 1<<20), firstNumbers(1 << 20),
	} {
		if is, ok := impl.IsSubuniverse(bare(8), l); !ok || is {
			t.Errorf("subuniverse %.40s: %v, %v", fmt.Sprint(l), is, ok)
		}
	}
	if is, ok := impl.IsSubuniverse(bare(8), whole); !ok || !is {
		t.Error("all elements", is, ok)
	}
}

// checkSubalgebra looks up each value of a subalgebra in the Algebra.
func checkSubalgebra(t *testing.T, a impl.Algebra, sub []int, b impl.Algebra) {
	t.Helper()
	if !impl.IsAlgebra(b) || b.Size != len(sub) || len(b.Ops) != len(a.Ops) {
		t.Fatal("subalgebra", sub, "of", a, b)
	}
	for k, f := range a.Ops {
		if b.Ops[k].Arity != f.Arity {
			t.Fatal("Arity", k, "on", sub, "of", a, b)
		}
		for at, args := range argsOf(len(sub), f.Arity) {
			from := 0
			for _, i := range args {
				from = from*a.Size + sub[i]
			}
			if sub[b.Ops[k].Table[at]] != f.Table[from] {
				t.Fatal("value", k, args, "on", sub, "of", a, b)
			}
		}
	}
}

func TestSubalgebraOf(t *testing.T) {
	for _, a := range subAlgebras() {
		subs := subsByRule(a)
		for _, l := range ascending(a.Size) {
			b, ok := impl.SubalgebraOf(a, l)
			is := slices.ContainsFunc(subs, func(s []int) bool { return slices.Equal(s, l) })
			if ok != (is && len(l) > 0) || !ok && !isZeroAlgebra(b) {
				t.Fatal("subalgebra", l, "of", a, b, ok)
			}
			if ok {
				checkSubalgebra(t, a, l, b)
			}
		}
		if b, ok := impl.SubalgebraOf(a, firstNumbers(a.Size)); !ok || !sameAlgebra(a, b) {
			t.Fatal("all elements of", a, b, ok)
		}
	}
}

func TestCasesOfSubalgebras(t *testing.T) {
	a := with(with(sums(6), 0, 2), 1, 2, 3, 4, 5, 0, 1)
	want := impl.Algebra{Size: 3, Ops: []impl.Op{{Arity: 2, Table: []int{0, 1, 2, 1, 2, 0, 2, 0, 1}}, {Table: []int{1}}, {Arity: 1, Table: []int{1, 2, 0}}}}
	if b, ok := impl.SubalgebraOf(a, []int{0, 2, 4}); !ok || !sameAlgebra(b, want) {
		t.Error("even ones", b, ok)
	}
	point := impl.Algebra{Size: 1, Ops: []impl.Op{{Arity: 3, Table: []int{0}}, {Table: []int{0}}}}
	if b, ok := impl.SubalgebraOf(with(cosets(8), 0, 5), []int{5}); !ok || !sameAlgebra(b, point) {
		t.Error("one element", b, ok)
	}
	if b, ok := impl.SubalgebraOf(bare(8), []int{2, 7}); !ok || b.Size != 2 || len(b.Ops) != 0 {
		t.Error("of no operations", b, ok)
	}
	for _, l := range [][]int{nil, {}, {1}, {0, 3}, {2, 0, 4}, {0, 2, 4, 4}, {0, 2, 2, 4}, {4, 2, 0}, {0, 2, 4, 6}, {-1, 0, 2, 4}, {0, 2}, {6}, {-1}, {math.MaxInt}, {math.MinInt}, firstNumbers(7), make([]int, 1<<20)} {
		for _, a := range []impl.Algebra{a, with(sums(6), 0, 2)} {
			if b, ok := impl.SubalgebraOf(a, l); ok || !isZeroAlgebra(b) {
				t.Errorf("subalgebra %.40s: %v, %v", fmt.Sprint(l), b, ok)
			}
		}
	}
	// The empty list is a subuniverse here, but there is no Algebra without elements.
	for _, a := range []impl.Algebra{bare(1), bare(8), sums(4), cosets(8)} {
		for _, l := range [][]int{nil, {}} {
			if b, ok := impl.SubalgebraOf(a, l); ok || !isZeroAlgebra(b) {
				t.Error("empty one of", a, b, ok)
			}
		}
	}
}

// checkPair compares what two lists have in common, and what they generate together.
func checkPair(t *testing.T, a impl.Algebra, subs [][]int, x, y []int) {
	t.Helper()
	isSub := func(l []int) bool {
		return slices.ContainsFunc(subs, func(s []int) bool { return slices.Equal(s, l) })
	}
	l, one := impl.MeetSubs(a, x, y)
	m, two := impl.JoinSubs(a, x, y)
	if !isSub(x) || !isSub(y) {
		if one || two || len(l)+len(m) != 0 {
			t.Fatal("no subuniverses", x, y, "of", a, l, one, m, two)
		}
		return
	}
	if !one || !slices.Equal(l, meetByRule(x, y)) || !isSub(l) {
		t.Fatal("meet", x, y, "in", a, l, one)
	}
	if !two || !slices.Equal(m, generatedByRule(subs, slices.Concat(x, y))) {
		t.Fatal("join", x, y, "in", a, m, two)
	}
}

func TestMeetAndJoin(t *testing.T) {
	for _, a := range subAlgebras() {
		subs, all := subsByRule(a), ascending(a.Size)
		// Of long lists of subuniverses and of other lists, a few are enough.
		for i := 0; i < len(subs); i += 1 + len(subs)/17 {
			for j := 0; j < len(subs); j += 1 + len(subs)/16 {
				checkPair(t, a, subs, subs[i], subs[j])
			}
			for j := i % 5; j < len(all); j += 1 + len(all)/8 {
				checkPair(t, a, subs, subs[i], all[j])
				checkPair(t, a, subs, all[j], subs[i])
			}
		}
	}
}

func TestMeetAndJoinOfAllLists(t *testing.T) {
	for _, a := range []impl.Algebra{bare(3), sums(4), cosets(4), with(sums(4), 0, 2), lesser(4), successors(3), constantsAlone(4, 1, 3), mixed(5, 3, 2)} {
		subs := subsByRule(a)
		for _, x := range ascending(a.Size) {
			for _, y := range ascending(a.Size) {
				checkPair(t, a, subs, x, y)
			}
		}
	}
}

func TestCasesOfMeetAndJoin(t *testing.T) {
	a := cosets(8)
	odd, even := []int{1, 3, 5, 7}, []int{0, 2, 4, 6}
	cases := []struct{ x, y, meet, join []int }{
		{odd, even, nil, firstNumbers(8)},
		{[]int{1}, []int{5}, nil, []int{1, 5}},
		{[]int{1, 5}, []int{3, 7}, nil, odd},
		{odd, nil, nil, odd},
		{nil, []int{4}, nil, []int{4}},
		{nil, []int{}, nil, nil},
		{odd, odd, odd, odd},
		{[]int{1, 5}, odd, []int{1, 5}, odd},
		{firstNumbers(8), even, even, firstNumbers(8)},
	}
	for _, c := range cases {
		m, one := impl.MeetSubs(a, c.x, c.y)
		j, two := impl.JoinSubs(a, c.x, c.y)
		if !one || !two || !slices.Equal(m, c.meet) || !slices.Equal(j, c.join) {
			t.Error("meet and join", c.x, c.y, m, one, j, two)
		}
	}
	for _, l := range [][]int{{0, 1}, {4, 0}, {1, 1}, {1, 5, 5}, {5, 1}, {8}, {-1}, {1, 5, 9}, {-1, 1, 5}, {0, 64}, {math.MaxInt}, {math.MinInt}, append(firstNumbers(8), 8), make([]int, 20), make([]int, 1<<20)} {
		for _, other := range [][]int{nil, {}, {1}, even, firstNumbers(8), l} {
			for _, f := range []func(impl.Algebra, []int, []int) ([]int, bool){impl.MeetSubs, impl.JoinSubs} {
				r, one := f(a, l, other)
				s, two := f(a, other, l)
				if one || two || len(r)+len(s) != 0 {
					t.Errorf("no subuniverse %.40s: %v, %v, %v, %v", fmt.Sprint(l), r, one, s, two)
				}
			}
		}
	}
	// With a constant the empty list is no subuniverse any more.
	for _, f := range []func(impl.Algebra, []int, []int) ([]int, bool){impl.MeetSubs, impl.JoinSubs} {
		for _, l := range [][]int{nil, {}, {1}} {
			if r, ok := f(with(a, 0, 1), nil, l); ok || len(r) != 0 {
				t.Error("empty list with a constant", r, ok)
			}
			if r, ok := f(with(a, 0, 1), l, []int{}); ok || len(r) != 0 {
				t.Error("empty list with a constant", r, ok)
			}
		}
	}
}

func TestLeastGenerators(t *testing.T) {
	for _, a := range subAlgebras() {
		subs := subsByRule(a)
		want := chosen(ascending(a.Size), func(l []int) bool { return len(generatedByRule(subs, l)) == a.Size })[0]
		if l, ok := impl.LeastGenerators(a); !ok || !slices.Equal(l, want) {
			t.Fatal("least generators of", a, l, ok, "not", want)
		}
	}
	cases := []struct {
		a    impl.Algebra
		want []int
	}{
		{bare(1), []int{0}}, {bare(8), firstNumbers(8)}, {constantsAlone(1, 0), nil}, {constantsAlone(3, 2, 0, 1), nil}, {constantsAlone(3, 2, 2), []int{0, 1}},
		{sums(1), []int{0}}, {sums(8), []int{1}}, {with(sums(8), 0, 3), nil}, {with(sums(8), 0, 2), []int{1}}, {with(successors(8), 0, 5), nil}, {successors(8), []int{0}},
		{cosets(8), []int{0, 1}}, {with(cosets(8), 0, 4), []int{1}}, {with(cosets(8), 0, 7), []int{0}}, {lesser(4), firstNumbers(4)}, {with(lesser(4), 0, 0), []int{1, 2, 3}},
		// Three points are as few as three lines, and both generate the cube; the points are first.
		{cube(), []int{1, 2, 4}},
		// Each element but 0 generates all.
		{with(with(bare(4), 1, 0, 0, 1, 2), 1, 0, 3, 2, 3), []int{1}},
		{with(bare(6), 1, 1, 0, 3, 2, 5, 4), []int{0, 2, 4}},
		{with(bare(6), 1, 5, 4, 3, 2, 1, 0), []int{0, 1, 2}},
	}
	for _, c := range cases {
		if l, ok := impl.LeastGenerators(c.a); !ok || !slices.Equal(l, c.want) {
			t.Error("least generators of", c.a, l, ok, "not", c.want)
		}
	}
}

func TestNonGenerators(t *testing.T) {
	for _, a := range subAlgebras() {
		want := droppable(a.Size, subsByRule(a))
		if l, ok := impl.NonGenerators(a); !ok || !slices.Equal(l, want) {
			t.Fatal("non-generators of", a, l, ok, "not", want)
		}
	}
	cases := []struct {
		a    impl.Algebra
		want []int
	}{
		// No maximal subuniverse: all elements.
		{constantsAlone(1, 0), []int{0}}, {constantsAlone(3, 1, 2, 0), firstNumbers(3)}, {with(successors(8), 0, 0), firstNumbers(8)}, {with(sums(8), 0, 5), firstNumbers(8)},
		// The empty one is the only maximal one: none.
		{bare(1), nil}, {sums(1), nil}, {successors(5), nil}, {with(bare(2), 1, 1, 0), nil},
		{bare(5), nil}, {lesser(5), nil}, {with(lesser(5), 0, 2), []int{2}}, {sums(8), []int{0, 2, 4, 6}}, {sums(6), []int{0}}, {sums(7), []int{0}}, {sums(4), []int{0, 2}},
		{cosets(8), nil}, {with(cosets(8), 0, 3), []int{1, 3, 5, 7}}, {constantsAlone(4, 1, 1, 3), []int{1, 3}},
		// The other elements of the cube have 0 and 7 as values, as 1 & 2 and 3 | 5.
		{cube(), []int{0, 7}},
		{opOf(8, 1, func(x []int) int { return x[0] / 2 }), firstNumbers(4)},
	}
	for _, c := range cases {
		if l, ok := impl.NonGenerators(c.a); !ok || !slices.Equal(l, c.want) {
			t.Error("non-generators of", c.a, l, ok, "not", c.want)
		}
	}
}

// P5: generated subuniverses are generated by themselves, and the elements of all maximal ones can
// be left out of each generating list. Only functions of the program are compared.
func TestGeneratedByThemselves(t *testing.T) {
	for _, a := range subAlgebras() {
		maximal, one := impl.MaximalSubs(a)
		non, two := impl.NonGenerators(a)
		common := firstNumbers(a.Size)
		for _, s := range maximal {
			common = meetByRule(common, s)
		}
		if !one || !two || !slices.Equal(common, non) {
			t.Fatal("in all maximal ones of", a, common, "non-generators", non, one, two)
		}
		for _, l := range ascending(a.Size) {
			s, one := impl.GenerateSub(a, l)
			again, two := impl.GenerateSub(a, s)
			is, three := impl.IsSubuniverse(a, s)
			if !one || !two || !three || !is || !slices.Equal(s, again) || !hasAll(s, l) {
				t.Fatal("generated by", l, "in", a, s, again, is)
			}
			rounds, ok := impl.GenerationRounds(a, l)
			if joined := slices.Sorted(slices.Values(slices.Concat(rounds...))); !ok || !slices.Equal(joined, s) {
				t.Fatal("rounds from", l, "in", a, rounds, ok)
			}
			if len(s) == a.Size {
				checkLeftOut(t, a, l, common)
			}
		}
	}
}

// checkLeftOut leaves each element that is in all maximal subuniverses out of a generating list,
// and then all of them.
func checkLeftOut(t *testing.T, a impl.Algebra, l []int, common []int) {
	t.Helper()
	for i, x := range l {
		if !slices.Contains(common, x) {
			continue
		}
		if is, ok := impl.IsGenerating(a, without(l, i)); !ok || !is {
			t.Fatal("not without", x, "of", l, "in", a, is, ok)
		}
	}
	rest := slices.DeleteFunc(slices.Clone(l), func(x int) bool { return slices.Contains(common, x) })
	if is, ok := impl.IsGenerating(a, rest); !ok || !is {
		t.Fatal("not without any of", common, "of", l, "in", a, is, ok)
	}
}

func TestCasesOfRounds(t *testing.T) {
	cases := []struct {
		a    impl.Algebra
		some []int
		want [][]int
	}{
		{bare(3), nil, [][]int{{}}}, {bare(3), []int{2, 0, 2}, [][]int{{0, 2}}}, {sums(4), nil, [][]int{{}}}, {bare(1), []int{0}, [][]int{{0}}},
		{constantsAlone(4, 3, 1), nil, [][]int{{}, {1, 3}}}, {constantsAlone(4, 3, 1, 3), []int{3}, [][]int{{3}, {1}}}, {constantsAlone(4, 3, 1), []int{3, 1}, [][]int{{1, 3}}},
		{constantsAlone(1, 0), nil, [][]int{{}, {0}}}, {constantsAlone(1, 0), []int{0}, [][]int{{0}}},
		{sums(8), []int{1}, [][]int{{1}, {2}, {3, 4}, {5, 6, 7, 0}}}, {sums(8), []int{4, 0, 4}, [][]int{{0, 4}}}, {sums(8), []int{3, 3}, [][]int{{3}, {6}, {1, 4}, {0, 2, 5, 7}}},
		{with(sums(8), 0, 2), nil, [][]int{{}, {2}, {4}, {0, 6}}}, {with(sums(8), 0, 2), []int{5}, [][]int{{5}, {2}, {4, 7}, {0, 1, 3, 6}}},
		{successors(4), []int{2}, [][]int{{2}, {3}, {0}, {1}}}, {successors(4), []int{2, 0}, [][]int{{0, 2}, {1, 3}}}, {with(successors(4), 0, 1), nil, [][]int{{}, {1}, {2}, {3}, {0}}},
		{with(successors(4), 0, 1), []int{3}, [][]int{{3}, {0, 1}, {2}}},
		{cosets(8), []int{7}, [][]int{{7}}}, {cosets(8), []int{7, 0}, [][]int{{0, 7}, {1, 6}, {2, 3, 4, 5}}}, {lesser(8), []int{7, 3, 5}, [][]int{{3, 5, 7}}},
		// Each operation takes part in each round.
		{with(with(bare(6), 1, 1, 1, 4, 5, 5, 5), 1, 2, 3, 2, 3, 4, 5), []int{0}, [][]int{{0}, {1, 2}, {3, 4}, {5}}},
	}
	for _, c := range cases {
		for _, l := range c.want {
			slices.Sort(l)
		}
		if r, ok := impl.GenerationRounds(c.a, c.some); !ok || !sameLists(r, c.want) {
			t.Error("rounds from", c.some, "in", c.a, r, ok, "not", c.want)
		}
		want := slices.Sorted(slices.Values(slices.Concat(c.want...)))
		if l, ok := impl.GenerateSub(c.a, c.some); !ok || !slices.Equal(l, want) {
			t.Error("generated by", c.some, "in", c.a, l, ok, "not", want)
		}
	}
}

func TestCasesOfSubuniverses(t *testing.T) {
	one, all := [][]int{{0}}, firstNumbers(8)
	cases := []struct {
		a                      impl.Algebra
		subs, minimal, maximal [][]int
	}{
		{bare(1), [][]int{{}, {0}}, one, [][]int{{}}},
		{constantsAlone(1, 0), one, one, nil},
		{constantsAlone(1, 0, 0, 0, 0), one, one, nil},
		{unevenOf(1, 1, 2, 3), [][]int{{}, {0}}, one, [][]int{{}}},
		{unevenOf(1, 3, 0), one, one, nil},
		{bare(2), [][]int{{}, {0}, {1}, {0, 1}}, [][]int{{0}, {1}}, [][]int{{0}, {1}}},
		{bare(3), [][]int{{}, {0}, {1}, {2}, {0, 1}, {0, 2}, {1, 2}, {0, 1, 2}}, [][]int{{0}, {1}, {2}}, [][]int{{0, 1}, {0, 2}, {1, 2}}},
		{constantsAlone(3, 1), [][]int{{1}, {0, 1}, {1, 2}, {0, 1, 2}}, [][]int{{1}}, [][]int{{0, 1}, {1, 2}}},
		{constantsAlone(3, 2, 0), [][]int{{0, 2}, {0, 1, 2}}, [][]int{{0, 2}}, [][]int{{0, 2}}},
		{constantsAlone(3, 2, 0, 1), [][]int{{0, 1, 2}}, [][]int{{0, 1, 2}}, nil},
		// No proper one, and only the empty one that is proper.
		{with(successors(8), 0, 0), [][]int{all}, [][]int{all}, nil},
		{successors(8), [][]int{{}, all}, [][]int{all}, [][]int{{}}},
		{sums(8), [][]int{{}, {0}, {0, 4}, {0, 2, 4, 6}, all}, one, [][]int{{0, 2, 4, 6}}},
		{with(sums(8), 0, 4), [][]int{{0, 4}, {0, 2, 4, 6}, all}, [][]int{{0, 4}}, [][]int{{0, 2, 4, 6}}},
		{sums(6), [][]int{{}, {0}, {0, 3}, {0, 2, 4}, {0, 1, 2, 3, 4, 5}}, one, [][]int{{0, 3}, {0, 2, 4}}},
		{cosets(4), [][]int{{}, {0}, {1}, {2}, {3}, {0, 2}, {1, 3}, {0, 1, 2, 3}}, [][]int{{0}, {1}, {2}, {3}}, [][]int{{0, 2}, {1, 3}}},
		{with(cosets(4), 0, 3), [][]int{{3}, {1, 3}, {0, 1, 2, 3}}, [][]int{{3}}, [][]int{{1, 3}}},
		// Minimal ones of different numbers of elements, and maximal ones too.
		{with(bare(5), 1, 0, 2, 1, 4, 3), [][]int{{}, {0}, {1, 2}, {3, 4}, {0, 1, 2}, {0, 3, 4}, {1, 2, 3, 4}, {0, 1, 2, 3, 4}}, [][]int{{0}, {1, 2}, {3, 4}}, [][]int{{0, 1, 2}, {0, 3, 4}, {1, 2, 3, 4}}},
	}
	for _, c := range cases {
		l, one := impl.AllSubuniverses(c.a)
		m, two := impl.MinimalSubs(c.a)
		n, three := impl.MaximalSubs(c.a)
		if !one || !two || !three || !sameLists(l, c.subs) || !sameLists(m, c.minimal) || !sameLists(n, c.maximal) {
			t.Error("subuniverses of", c.a, l, one, m, two, n, three)
		}
	}
	for _, a := range []impl.Algebra{bare(8), lesser(8)} {
		if l, ok := impl.AllSubuniverses(a); !ok || !sameLists(l, ascending(8)) {
			t.Error("all lists of", a, len(l), ok)
		}
	}
}

// The empty list generates what the constants do, and it is a subuniverse where there are none.
func TestEmptySubuniverse(t *testing.T) {
	for _, a := range subAlgebras() {
		constants, ok := impl.ConstantsOf(a)
		if !ok {
			t.Fatal("constants of", a)
		}
		for _, l := range [][]int{nil, {}} {
			is, one := impl.IsSubuniverse(a, l)
			s, two := impl.GenerateSub(a, l)
			if !one || !two || is != (len(constants) == 0) || is != (len(s) == 0) || !hasAll(s, constants) {
				t.Fatal("empty list in", a, is, s)
			}
			r, three := impl.GenerationRounds(a, l)
			if !three || len(r[0]) != 0 || is != (len(r) == 1) || !is && !slices.Equal(r[1], constants) {
				t.Fatal("rounds in", a, r)
			}
			generating, four := impl.IsGenerating(a, l)
			independent, five := impl.IsIndependent(a, l)
			if !four || !five || generating != (len(s) == a.Size) || !independent {
				t.Fatal("empty list in", a, generating, independent)
			}
		}
	}
}

func TestCasesOfGeneratingAndIndependent(t *testing.T) {
	cases := []struct {
		a                       impl.Algebra
		some                    []int
		generating, independent bool
	}{
		{bare(1), nil, false, true}, {bare(1), []int{0}, true, true}, {bare(1), []int{0, 0}, true, false}, {constantsAlone(1, 0), nil, true, true}, {constantsAlone(1, 0), []int{0}, true, false},
		{bare(4), []int{3, 0, 2, 1}, true, true}, {bare(4), []int{3, 0, 2}, false, true}, {bare(4), []int{3, 0, 2, 3}, false, false}, {bare(4), []int{3, 3}, false, false},
		{constantsAlone(4, 2, 1), []int{0, 3}, true, true}, {constantsAlone(4, 2, 1), []int{3, 2, 0}, true, false}, {constantsAlone(4, 2, 1), []int{1}, false, false}, {constantsAlone(4, 2, 1), nil, false, true},
		{sums(4), []int{1}, true, true}, {sums(4), []int{3}, true, true}, {sums(4), []int{2}, false, true}, {sums(4), []int{0}, false, true}, {sums(4), []int{1, 2}, true, false}, {sums(4), []int{2, 0}, false, false},
		{sums(6), []int{2, 3}, true, true}, {sums(6), []int{3, 4}, true, true}, {sums(6), []int{2, 4}, false, false}, {sums(6), []int{2, 3, 1}, true, false}, {sums(6), []int{2, 3, 2}, true, false},
		{with(sums(6), 0, 0), []int{0}, false, false}, {with(sums(6), 0, 1), nil, true, true}, {with(sums(6), 0, 1), []int{3}, true, false},
		// Only the last member is generated by the others, and only the first.
		{with(bare(3), 2, 0, 2, 0, 2, 1, 1, 2, 2, 2), []int{0, 1, 2}, true, false}, {with(bare(3), 2, 0, 2, 0, 2, 1, 1, 2, 2, 2), []int{2, 1, 0}, true, false}, {with(bare(3), 2, 0, 2, 0, 2, 1, 1, 2, 2, 2), []int{0, 1}, true, true},
		{cosets(8), []int{4}, false, true}, {cosets(8), []int{4, 3}, true, true}, {cosets(8), []int{4, 2}, false, true}, {cosets(8), []int{0, 4, 6}, false, false},
	}
	for _, c := range cases {
		is, one := impl.IsGenerating(c.a, c.some)
		independent, two := impl.IsIndependent(c.a, c.some)
		if !one || !two || is != c.generating || independent != c.independent {
			t.Error(c.some, "in", c.a, is, one, independent, two)
		}
	}
}

// Values of the operations of the greatest Arity need up to three different elements.
func TestTernaryOperations(t *testing.T) {
	a := opOf(8, 3, func(x []int) int {
		if slices.Equal(x, []int{1, 6, 3}) {
			return 5
		}
		return x[0]
	})
	for _, l := range ascending(8) {
		want := l
		if hasAll(l, []int{1, 3, 6}) {
			want = slices.Compact(slices.Sorted(slices.Values(append(slices.Clone(l), 5))))
		}
		if s, ok := impl.GenerateSub(a, l); !ok || !slices.Equal(s, want) {
			t.Error("generated by", l, s, ok, "not", want)
		}
	}
	if l, ok := impl.LeastGenerators(a); !ok || !slices.Equal(l, []int{0, 1, 2, 3, 4, 6, 7}) {
		t.Error("least generators", l, ok)
	}
	if l, ok := impl.NonGenerators(a); !ok || !slices.Equal(l, []int{5}) {
		t.Error("non-generators", l, ok)
	}
	if l, ok := impl.AllSubuniverses(a); !ok || len(l) != 256-16 {
		t.Error("subuniverses", len(l), ok)
	}
}

func TestSubsThrough(t *testing.T) {
	for _, a := range []impl.Algebra{bare(1), bare(8), sums(4), with(sums(4), 0, 0), constantsAlone(3, 0)} {
		for _, x := range []int{-1, a.Size, a.Size + 1, 8, 64, 65, -64, math.MaxInt, math.MinInt} {
			if l, ok := impl.SubsThrough(a, x); ok || len(l) != 0 {
				t.Error("through", x, "in", a, l, ok)
			}
		}
	}
	if l, ok := impl.SubsThrough(sums(6), 4); !ok || !sameLists(l, [][]int{{0, 2, 4}, {0, 1, 2, 3, 4, 5}}) {
		t.Error("through 4", l, ok)
	}
	if l, ok := impl.SubsThrough(bare(1), 0); !ok || !sameLists(l, [][]int{{0}}) {
		t.Error("through 0", l, ok)
	}
}

// fromLists tells for which functions of a list of elements a list is no failure.
func fromLists(a impl.Algebra, some []int) []bool {
	var fine []bool
	s, one := impl.GenerateSub(a, some)
	r, two := impl.GenerationRounds(a, some)
	is, three := impl.IsGenerating(a, some)
	independent, four := impl.IsIndependent(a, some)
	fine = append(fine, one, two, three, four)
	if !one && len(s) != 0 || !two && len(r) != 0 || !three && is || !four && independent {
		return nil
	}
	return fine
}

func TestNumbersOfElements(t *testing.T) {
	whole := slices.Repeat(firstNumbers(8), 3)
	for n := range 25 {
		for _, l := range [][]int{whole[:n], make([]int, n)} {
			for _, a := range []impl.Algebra{bare(8), sums(8), constantsAlone(8, 3)} {
				if fine := fromLists(a, l); len(fine) != 4 || slices.Contains(fine, n > 20) {
					t.Error("list of", n, fine)
				}
			}
		}
	}
	most := whole[:20]
	if s, ok := impl.GenerateSub(sums(8), most); !ok || !slices.Equal(s, firstNumbers(8)) {
		t.Error("generated by 20", s, ok)
	}
	// The last one of 20 members counts, too.
	last := append(make([]int, 19), 1)
	if s, ok := impl.GenerateSub(sums(8), last); !ok || !slices.Equal(s, firstNumbers(8)) {
		t.Error("generated by 20", s, ok)
	}
	if r, ok := impl.GenerationRounds(bare(8), last); !ok || !sameLists(r, [][]int{{0, 1}}) {
		t.Error("rounds from 20", r, ok)
	}
	if fine := fromLists(bare(8), make([]int, 1<<20)); len(fine) != 4 || slices.Contains(fine, true) {
		t.Error("very long list", fine)
	}
}

func TestNumbersThatAreNoElements(t *testing.T) {
	for _, a := range []impl.Algebra{bare(1), bare(4), sums(4), with(sums(4), 0, 1), constantsAlone(8, 0)} {
		for _, wrong := range []int{-1, a.Size, a.Size + 1, 8, 20, 63, 64, -64, math.MaxInt, math.MinInt} {
			for _, l := range [][]int{{wrong}, {wrong, 0}, {0, wrong}, {0, 0, wrong, 0}, append(make([]int, 19), wrong)} {
				if fine := fromLists(a, l); len(fine) != 4 || slices.Contains(fine, true) {
					t.Error("list", l, "in", a, fine)
				}
			}
		}
	}
}

func TestSubuniversesOfInvalidAlgebras(t *testing.T) {
	for _, a := range invalidAlgebras() {
		for _, l := range [][]int{nil, {}, {0}, {0, 1}, {1, 0}, {-1}, {9}} {
			if fine := fromLists(a, l); len(fine) != 4 || slices.Contains(fine, true) {
				t.Error("list", l, "in", a.Size, fine)
			}
			is, one := impl.IsSubuniverse(a, l)
			b, two := impl.SubalgebraOf(a, l)
			if is || one || two || !isZeroAlgebra(b) {
				t.Error("subuniverse", l, "of", a.Size, is, one, b, two)
			}
			x, one := impl.MeetSubs(a, l, nil)
			y, two := impl.JoinSubs(a, nil, l)
			z, three := impl.JoinSubs(a, l, l)
			if one || two || three || len(x)+len(y)+len(z) != 0 {
				t.Error("meet and join of", l, "in", a.Size, x, y, z)
			}
		}
		for i, f := range []func(impl.Algebra) ([][]int, bool){impl.AllSubuniverses, impl.MinimalSubs, impl.MaximalSubs} {
			if l, ok := f(a); ok || len(l) != 0 {
				t.Error("list", i, "of", a.Size, l, ok)
			}
		}
		for i, f := range []func(impl.Algebra) ([]int, bool){impl.LeastGenerators, impl.NonGenerators} {
			if l, ok := f(a); ok || len(l) != 0 {
				t.Error("generators", i, "of", a.Size, l, ok)
			}
		}
		for _, x := range []int{-1, 0, 1, a.Size} {
			if l, ok := impl.SubsThrough(a, x); ok || len(l) != 0 {
				t.Error("through", x, "in", a.Size, l, ok)
			}
		}
	}
}

// roomyAlgebra returns a copy with room behind each end, in which nothing may be written.
func roomyAlgebra(a impl.Algebra) impl.Algebra {
	var ops []impl.Op
	for _, f := range a.Ops {
		ops = append(ops, impl.Op{Arity: f.Arity, Table: roomy(f.Table)})
	}
	return impl.Algebra{Size: a.Size, Ops: append(ops, impl.Op{Arity: 77}, impl.Op{})[:len(a.Ops)]}
}

// allOfAlgebra tells all numbers of an Algebra and of lists, also those behind the ends.
func allOfAlgebra(a impl.Algebra, lists ...[]int) string {
	text := fmt.Sprint(a.Size, len(a.Ops))
	for _, f := range a.Ops[:cap(a.Ops)] {
		text += fmt.Sprint(f.Arity, len(f.Table), f.Table[:cap(f.Table)])
	}
	for _, l := range lists {
		text += fmt.Sprint(len(l), l[:cap(l)])
	}
	return text
}

// subResults calls each function of the chapter. It returns the lists of each result, and a text
// of everything.
func subResults(a impl.Algebra, x, y []int) ([][][]int, string) {
	var results [][][]int
	var others []any
	keep := func(l [][]int, ok bool) {
		results = append(results, l)
		others = append(others, ok)
	}
	keepOne := func(l []int, ok bool) { keep([][]int{l}, ok) }
	tell := func(is, ok bool) { others = append(others, is, ok) }
	tell(impl.IsSubuniverse(a, x))
	tell(impl.IsGenerating(a, x))
	tell(impl.IsIndependent(a, x))
	keep(impl.GenerationRounds(a, x))
	keep(impl.AllSubuniverses(a))
	keep(impl.MinimalSubs(a))
	keep(impl.MaximalSubs(a))
	keep(impl.SubsThrough(a, 0))
	keepOne(impl.GenerateSub(a, x))
	keepOne(impl.MeetSubs(a, x, y))
	keepOne(impl.JoinSubs(a, x, y))
	keepOne(impl.LeastGenerators(a))
	keepOne(impl.NonGenerators(a))
	b, ok := impl.SubalgebraOf(a, x)
	tables := [][]int{}
	for _, f := range b.Ops {
		tables = append(tables, f.Table)
	}
	keep(tables, ok)
	return results, fmt.Sprint(results, others)
}

func TestSubuniverseFunctionsLeaveTheirArguments(t *testing.T) {
	for _, a := range []impl.Algebra{bare(4), sums(4), with(sums(4), 0, 2), cosets(4), constantsAlone(4, 1, 3), lesser(4), unevenOf(4, 3, 3, 3, 3), mixed(4, 1, 1, 0, 2, 3), {Size: 9}, {}} {
		a = roomyAlgebra(a)
		for _, x := range [][]int{nil, {}, {0}, {0, 2}, {2, 0}, {3, 3, 1}, firstNumbers(4), {-1}, make([]int, 21)} {
			for _, y := range [][]int{nil, {2}, {0, 2}, x} {
				x, y := roomy(x), roomy(y)
				before := allOfAlgebra(a, x, y)
				results, first := subResults(a, x, y)
				if _, second := subResults(a, x, y); first != second {
					t.Fatal("another result", first, second)
				}
				for i, l := range results {
					if !areApart(l) {
						t.Fatal("the result", i, "shares memory with itself", a, x, y)
					}
				}
				for i := range results {
					for j := range results[i][:cap(results[i])] {
						results[i][:cap(results[i])][j] = []int{-9}
					}
				}
				if after := allOfAlgebra(a, x, y); after != before {
					t.Fatal("changed", before, after)
				}
				if _, third := subResults(a, x, y); third != first {
					t.Fatal("a result shares memory", a, x, y)
				}
			}
		}
	}
}

// The same list as both arguments gives a result of its own.
func TestMeetAndJoinOfTheSameList(t *testing.T) {
	l := []int{0, 2}
	for _, f := range []func(impl.Algebra, []int, []int) ([]int, bool){impl.MeetSubs, impl.JoinSubs} {
		r, ok := f(sums(4), l, l)
		if !ok || !slices.Equal(r, l) {
			t.Fatal("same list", r, ok)
		}
		r[0] = 9
	}
	if l[0] != 0 {
		t.Error("shared", l)
	}
}

// The greatest Algebras are done in good time.
func TestLargeSubuniverses(t *testing.T) {
	for _, a := range []impl.Algebra{unevenOf(8, 3, 3, 3, 3), mixed(8, 5, 3, 3, 3, 3), algebraOf(8, []int{3, 3, 3, 3}, func(_, at int) int { return at % 8 }), algebraOf(8, []int{3, 3, 3, 3}, func(_, at int) int { return max(at%8-1, 0) })} {
		all, one := impl.AllSubuniverses(a)
		least, two := impl.LeastGenerators(a)
		non, three := impl.NonGenerators(a)
		if !one || !two || !three || len(all) == 0 {
			t.Error("large one", len(all), least, non)
		}
		if is, ok := impl.IsGenerating(a, least); !ok || !is {
			t.Error("least generators", least, is, ok)
		}
	}
}
