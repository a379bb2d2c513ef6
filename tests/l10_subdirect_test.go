package tests

import (
	"fmt"
	"math"
	"slices"
	"testing"

	"loop.example/g01078/impl"
)

// The signatures of chapter 10 are promised to other packages.
var (
	_ func(impl.Algebra) (bool, bool)               = impl.IsSimple
	_ func(impl.Algebra) ([]int, bool)              = impl.MonolithOf
	_ func(impl.Algebra) (bool, bool)               = impl.IsIrreducibleAlgebra
	_ func(impl.Algebra) ([][]int, bool)            = impl.IrreducibleCongruences
	_ func(impl.Algebra, [][]int) (bool, bool)      = impl.IsSeparating
	_ func(impl.Algebra, int, int) ([]int, bool)    = impl.SeparatingFor
	_ func(impl.Algebra) ([][]int, bool)            = impl.SubdirectList
	_ func(impl.Algebra) ([]impl.Algebra, bool)     = impl.SubdirectFactors
	_ func(impl.Algebra, [][]int) ([][]int, bool)   = impl.BlockLists
	_ func(impl.Algebra, []int, []int) (bool, bool) = impl.IsFactorPair
	_ func(impl.Algebra) ([][2]int, bool)           = impl.FactorPairs
	_ func(impl.Algebra) (bool, bool)               = impl.IsIndecomposable
	_ func(impl.Algebra) ([][]int, bool)            = impl.IndecomposableList
	_ func(impl.Algebra) (int, bool)                = impl.WidthOfCongruences
)

// productByRule returns the product of two Algebras of the same type, in which x*b.Size+y stands for
// x and y.
func productByRule(a, b impl.Algebra) impl.Algebra {
	p := bare(a.Size * b.Size)
	for op, f := range a.Ops {
		var table []int
		eachArgs(firstNumbers(p.Size), f.Arity, func(args []int) {
			one := valueFor(a, op, args, func(x int) int { return x / b.Size })
			other := valueFor(b, op, args, func(x int) int { return x % b.Size })
			table = append(table, one*b.Size+other)
		})
		p = with(p, f.Arity, table...)
	}
	return p
}

// renamed returns an Algebra with names[x] as the name of each element x.
func renamed(a impl.Algebra, names []int) impl.Algebra {
	b, ok := impl.RenameElements(a, names)
	if !ok {
		panic("no names")
	}
	return b
}

// makers return Algebras of the same types for each Size.
func makers() []func(size int) impl.Algebra {
	return []func(size int) impl.Algebra{
		bare, sums, cosets, successors, lesser, tower,
		func(size int) impl.Algebra { return constantsAlone(size, size-1, 0) },
		func(size int) impl.Algebra { return with(sums(size), 0, size-1) },
		func(size int) impl.Algebra { return unaries(size, append([]int{0}, firstNumbers(size-1)...)) },
		func(size int) impl.Algebra { return mixed(size, 1, 1, 1) },
		func(size int) impl.Algebra { return mixed(size, 2, 2) },
		func(size int) impl.Algebra { return mixed(size, 3, 2, 1, 0) },
		func(size int) impl.Algebra { return opOf(size, 2, func(x []int) int { return max(0, x[0]-x[1]) }) },
	}
}

// products returns products of two and of three factors, some with other names of the elements, and
// some with factors of different kinds.
func products() []impl.Algebra {
	var list []impl.Algebra
	for _, maker := range makers() {
		two, three, four := maker(2), maker(3), maker(4)
		list = append(list, productByRule(two, two), productByRule(two, three), productByRule(three, two), productByRule(two, four), productByRule(four, two), productByRule(two, productByRule(two, two)), productByRule(maker(1), four), productByRule(two, maker(1)))
		list = append(list, renamed(productByRule(two, three), []int{4, 2, 0, 5, 1, 3}), renamed(productByRule(four, two), []int{5, 7, 0, 2, 6, 1, 3, 4}), renamed(productByRule(two, productByRule(two, two)), []int{3, 6, 1, 0, 7, 2, 5, 4}))
	}
	for _, pair := range [][2]impl.Algebra{
		{sums(4), lesser(2)}, {lesser(4), sums(2)}, {cosets(2), opOf(3, 3, func(x []int) int { return max(x[0], x[1], x[2]) })}, {lesser(3), opOf(2, 2, func(x []int) int { return x[0] })}, {pentagon(), tower(1)}, {tower(2), tower(4)}, {tower(2), latticeOf(0, 1, 2, 3)},
		{unaries(2, []int{1, 0}), unaries(4, []int{1, 2, 3, 0})}, {unaries(2, []int{1, 0}), unaries(3, []int{1, 2, 0})}, {unaries(2, []int{0, 0}), unaries(4, []int{0, 0, 1, 1})}, {unaries(4, []int{0, 0, 1, 2}), unaries(2, []int{1, 0})}, {opOf(2, 3, func(x []int) int { return x[0] ^ x[1] ^ x[2] }), opOf(3, 3, func(x []int) int { return (x[0] + 2*x[1] + x[2]) % 3 })},
		{mixed(2, 5, 2, 1), mixed(3, 6, 2, 1)}, {mixed(4, 5, 1, 1), mixed(2, 6, 1, 1)}, {mixed(2, 1, 3), mixed(4, 2, 3)}, {constantsAlone(2, 1, 0), constantsAlone(4, 3, 2)},
	} {
		list = append(list, productByRule(pair[0], pair[1]), productByRule(pair[1], pair[0]))
	}
	return list
}

// pairsIn returns the pairs of elements in one block as bits of a number.
func pairsIn(p []int) uint64 {
	var pairs uint64
	bit := uint64(1)
	for x := range p {
		for y := range x {
			if p[x] == p[y] {
				pairs |= bit
			}
			bit <<= 1
		}
	}
	return pairs
}

func subdirectAlgebras() []impl.Algebra { return append(quotientAlgebras(), products()...) }

// monolithByRule is nil if there is no monolith.
func monolithByRule(all [][]int, n int) []int {
	others := chosen(all, func(p []int) bool { return leastOnes(p) < n })
	for _, p := range others {
		if !slices.ContainsFunc(others, func(q []int) bool { return !finerByRule(p, q) }) {
			return p
		}
	}
	return nil
}

func irreducibleByRule(all [][]int) [][]int {
	return chosen(all, func(p []int) bool { return leastOnes(p) > 1 && len(coversByRule(all, p)) == 1 })
}

// separatingByRule looks for two elements in the same blocks.
func separatingByRule(n int, list [][]int) bool {
	for x := range n {
		for y := range x {
			if !slices.ContainsFunc(list, func(p []int) bool { return p[x] != p[y] }) {
				return false
			}
		}
	}
	return true
}

// subdirectByTrial tries all lists of members, the shorter ones first and those of one length in
// lexicographic order.
func subdirectByTrial(n int, irreducible [][]int) [][]int {
	var pairs []uint64
	for _, p := range irreducible {
		pairs = append(pairs, pairsIn(p))
	}
	var try func(from, count int, left uint64) ([][]int, bool)
	try = func(from, count int, left uint64) ([][]int, bool) {
		if count == 0 {
			return nil, left == 0
		}
		for i := from; i < len(pairs); i++ {
			if rest, ok := try(i+1, count-1, left&pairs[i]); ok {
				return append([][]int{irreducible[i]}, rest...), true
			}
		}
		return nil, false
	}
	for count := 0; ; count++ {
		if list, ok := try(0, count, pairsIn(fullOf(n))); ok {
			return list
		}
	}
}

// areFactorsByRule follows the words of the chapter.
func areFactorsByRule(p, q []int) bool {
	for x := range p {
		for y := range p {
			if x != y && p[x] == p[y] && q[x] == q[y] {
				return false
			}
			if !slices.ContainsFunc(firstNumbers(len(p)), func(z int) bool { return p[x] == p[z] && q[z] == q[y] }) {
				return false
			}
		}
	}
	return true
}

func factorsByRule(all [][]int) [][2]int {
	var pairs [][2]int
	for i, p := range all {
		for j, q := range all {
			if i <= j && areFactorsByRule(p, q) {
				pairs = append(pairs, [2]int{i, j})
			}
		}
	}
	return pairs
}

// divisionByRule divides as the chapter tells, with quotients and lifts.
func divisionByRule(a impl.Algebra) [][]int {
	if a.Size == 1 {
		return nil
	}
	list := [][]int{firstNumbers(a.Size)}
	for i := 0; i < len(list); {
		q, natural := quotientByRule(a, list[i])
		inner := congruencesByRule(q)
		pairs := factorsByRule(inner)
		at := slices.IndexFunc(pairs, func(pair [2]int) bool {
			return leastOnes(inner[pair[0]]) < q.Size && leastOnes(inner[pair[1]]) < q.Size
		})
		if at < 0 {
			i++
			continue
		}
		one, other := liftByRule(natural, inner[pairs[at][0]]), liftByRule(natural, inner[pairs[at][1]])
		list = slices.Replace(list, i, i+1, one, other)
		// The first one in the list that can be divided is next.
		i = 0
	}
	return list
}

// chainsByRule puts as many congruences as it can just behind a finer one each, at most one behind
// each of them, and returns the places of those before.
func chainsByRule(isBefore [][]bool) []int {
	before := allMinusOne(len(isBefore))
	for i := range isBefore {
		// The ways go from i to one behind, from this one to the one before it, and so on; from tells
		// the one before by which they came first.
		from := allMinusOne(len(isBefore))
		line := []int{i}
		for at := 0; at < len(line); at++ {
			for j := range isBefore {
				if !isBefore[line[at]][j] || from[j] >= 0 {
					continue
				}
				from[j] = line[at]
				if before[j] >= 0 {
					line = append(line, before[j])
					continue
				}
				for j >= 0 {
					next := slices.Index(before, from[j])
					before[j] = from[j]
					j = next
				}
				line = nil
				break
			}
		}
	}
	return before
}

// apartByRule returns the places of those congruences that no way leads behind, of all that a way
// from an end of a chain leads before.
func apartByRule(isBefore [][]bool, before []int) []int {
	var line []int
	for i := range isBefore {
		if !slices.Contains(before, i) {
			line = append(line, i)
		}
	}
	behind := map[int]bool{}
	for at := 0; at < len(line); at++ {
		for j := range isBefore {
			if isBefore[line[at]][j] && !behind[j] {
				behind[j] = true
				line = append(line, before[j])
			}
		}
	}
	return slices.DeleteFunc(line, func(i int) bool { return behind[i] })
}

// widthByRule finds chains that have all congruences and as many congruences, none of which is finer
// than another one: no more can be apart, as there is at most one in each chain.
func widthByRule(t *testing.T, all [][]int) int {
	t.Helper()
	isBefore := make([][]bool, len(all))
	for i, p := range all {
		for _, q := range all {
			isBefore[i] = append(isBefore[i], !slices.Equal(p, q) && finerByRule(p, q))
		}
	}
	before := chainsByRule(isBefore)
	apart := apartByRule(isBefore, before)
	for _, i := range apart {
		for _, j := range apart {
			if isBefore[i][j] {
				t.Fatal("the rule is wrong for", all, apart)
			}
		}
	}
	count := 0
	for j, i := range before {
		if i < 0 {
			count++
		} else if !isBefore[i][j] || slices.Index(before, i) != j {
			t.Fatal("the rule is wrong for", all, before)
		}
	}
	if slices.Sort(apart); count != len(slices.Compact(apart)) {
		t.Fatal("the rule is wrong for", all, apart, before)
	}
	return count
}

// checkIrreducible compares what is said of an Algebra with all these congruences.
func checkIrreducible(t *testing.T, a impl.Algebra, all [][]int) {
	t.Helper()
	if is, ok := impl.IsSimple(a); !ok || is != (len(all) == 2) {
		t.Fatal("simple", a, is, ok)
	}
	least := monolithByRule(all, a.Size)
	if p, ok := impl.MonolithOf(a); ok != (least != nil) || !slices.Equal(p, least) {
		t.Fatal("monolith of", a, p, ok, "not", least)
	}
	if is, ok := impl.IsIrreducibleAlgebra(a); !ok || is != (least != nil) {
		t.Fatal("irreducible", a, is, ok)
	}
	irreducible := irreducibleByRule(all)
	if l, ok := impl.IrreducibleCongruences(a); !ok || !sameLists(l, irreducible) {
		t.Fatal("irreducible ones of", a, l, ok, "not", irreducible)
	}
	for x := range a.Size {
		for y := range a.Size {
			at := slices.IndexFunc(irreducible, func(p []int) bool { return p[x] != p[y] })
			p, ok := impl.SeparatingFor(a, x, y)
			if ok != (x != y) || ok != (at >= 0) || !ok && len(p) != 0 || ok && !slices.Equal(p, irreducible[at]) {
				t.Fatal("separating", x, y, "in", a, p, ok)
			}
		}
	}
}

// checkDecomposed compares the lists of an Algebra with all these congruences. It returns how many
// members SubdirectList and IndecomposableList should have.
func checkDecomposed(t *testing.T, a impl.Algebra, all [][]int) (int, int) {
	t.Helper()
	list := subdirectByTrial(a.Size, irreducibleByRule(all))
	if l, ok := impl.SubdirectList(a); !ok || !sameLists(l, list) {
		t.Fatal("subdirect list of", a, l, ok, "not", list)
	}
	factors, ok := impl.SubdirectFactors(a)
	if !ok || len(factors) != len(list) {
		t.Fatal("factors of", a, factors, ok)
	}
	for i, p := range list {
		if q, _ := quotientByRule(a, p); !sameAlgebra(factors[i], q) {
			t.Fatal("factor", i, "of", a, factors[i], "not", q)
		}
	}
	pairs := factorsByRule(all)
	if l, ok := impl.FactorPairs(a); !ok || !slices.Equal(l, pairs) {
		t.Fatal("factor pairs of", a, l, ok, "not", pairs)
	}
	is, ok := impl.IsIndecomposable(a)
	if !ok || is != (a.Size > 1 && !slices.ContainsFunc(pairs, func(pair [2]int) bool { return pair[0] > 0 })) {
		t.Fatal("indecomposable", a, is, ok)
	}
	parts := divisionByRule(a)
	if l, ok := impl.IndecomposableList(a); !ok || !sameLists(l, parts) {
		t.Fatal("indecomposable list of", a, l, ok, "not", parts)
	}
	if is != (len(parts) == 1) {
		t.Fatal("indecomposable", a, is, parts)
	}
	width := widthByRule(t, all)
	if n, ok := impl.WidthOfCongruences(a); !ok || n != width {
		t.Fatal("width of", a, n, ok, "not", width)
	}
	return len(list), len(parts)
}

// checkNotDecomposed calls the functions that have to fail for an Algebra that has too many
// congruences or is not valid.
func checkNotDecomposed(t *testing.T, a impl.Algebra) {
	t.Helper()
	tell := func(what string, results ...any) {
		t.Helper()
		t.Errorf("%s of %.200s: %v", what, fmt.Sprint(a), results)
	}
	for i, f := range []func(impl.Algebra) (bool, bool){impl.IsSimple, impl.IsIrreducibleAlgebra, impl.IsIndecomposable} {
		if is, ok := f(a); ok || is {
			tell("question", i, is, ok)
		}
	}
	for i, f := range []func(impl.Algebra) ([][]int, bool){impl.IrreducibleCongruences, impl.SubdirectList, impl.IndecomposableList} {
		if l, ok := f(a); ok || len(l) != 0 {
			tell("list", i, l, ok)
		}
	}
	p, one := impl.MonolithOf(a)
	factors, two := impl.SubdirectFactors(a)
	pairs, three := impl.FactorPairs(a)
	n, four := impl.WidthOfCongruences(a)
	if one || two || three || four || len(p)+len(factors)+len(pairs) != 0 || n != 0 {
		tell("others", p, one, factors, two, pairs, three, n, four)
	}
	for _, x := range append(wrongCounts(), 1, 2, 7) {
		for _, y := range []int{0, 1, x, x + 1} {
			if p, ok := impl.SeparatingFor(a, x, y); ok || len(p) != 0 {
				tell("separating", x, y, p, ok)
			}
		}
	}
}

func TestSubdirectDecompositions(t *testing.T) {
	t.Parallel()
	var counts [8]int
	tooMany, irreducible, divided := 0, 0, 0
	for _, a := range subdirectAlgebras() {
		all := congruencesByRule(a)
		if len(all) > 200 {
			checkNotDecomposed(t, a)
			tooMany++
			continue
		}
		checkIrreducible(t, a, all)
		separating, parts := checkDecomposed(t, a, all)
		counts[separating]++
		if monolithByRule(all, a.Size) != nil {
			irreducible++
		}
		if parts > 1 {
			divided++
		}
	}
	if slices.Min(counts[:]) < 4 || tooMany < 20 || irreducible < 100 || divided < 100 {
		t.Error("only few", counts, tooMany, irreducible, divided)
	}
}

// checkList compares what is said of a list of congruences.
func checkList(t *testing.T, a impl.Algebra, list [][]int) {
	t.Helper()
	if is, ok := impl.IsSeparating(a, list); !ok || is != separatingByRule(a.Size, list) {
		t.Fatal("separating", list, "in", a, is, ok)
	}
	blocks, ok := impl.BlockLists(a, list)
	if !ok || len(blocks) != a.Size {
		t.Fatal("block lists", list, "of", a, blocks, ok)
	}
	for x, l := range blocks {
		var want []int
		for _, p := range list {
			_, natural := quotientByRule(a, p)
			want = append(want, natural[x])
		}
		if !slices.Equal(l, want) {
			t.Fatal("block list of", x, "for", list, "in", a, l, "not", want)
		}
	}
}

// checkNoList uses a list that has more than congruences, or too many of them.
func checkNoList(t *testing.T, a impl.Algebra, list [][]int) {
	t.Helper()
	is, one := impl.IsSeparating(a, list)
	blocks, two := impl.BlockLists(a, list)
	if is || one || two || len(blocks) != 0 {
		t.Errorf("list %.100s for %.200s: %v %v %v %v", fmt.Sprint(list), fmt.Sprint(a), is, one, blocks, two)
	}
}

// checkNoPair uses a list that is no congruence beside others.
func checkNoPair(t *testing.T, a impl.Algebra, p []int) {
	t.Helper()
	for _, q := range [][]int{nil, {0}, stillMap(a), fullOf(len(stillMap(a))), p} {
		one, two := impl.IsFactorPair(a, p, q)
		three, four := impl.IsFactorPair(a, q, p)
		if one || two || three || four {
			t.Errorf("pair %.100s and %v for %.200s: %v %v %v %v", fmt.Sprint(p), q, fmt.Sprint(a), one, two, three, four)
		}
	}
}

func TestListsAndPairsOfCongruences(t *testing.T) {
	t.Parallel()
	separating, factors, others, wrong := 0, 0, 0, 0
	for _, a := range subdirectAlgebras() {
		all := congruencesByRule(a)
		some := someOf(all, 8)
		for i, p := range some {
			checkList(t, a, [][]int{p})
			checkList(t, a, [][]int{p, p})
			for j, q := range someOf(all, 14) {
				if is, ok := impl.IsFactorPair(a, p, q); !ok || is != areFactorsByRule(p, q) {
					t.Fatal("factor pair", p, q, "in", a, is, ok)
				}
				list := [][]int{p, q, some[(i+j)%len(some)]}
				checkList(t, a, list)
				switch {
				case areFactorsByRule(p, q):
					factors++
				case separatingByRule(a.Size, [][]int{p, q}):
					separating++
				default:
					others++
				}
			}
		}
		for _, p := range someOf(partitionsOf(a.Size), 5) {
			if !keptByRule(a, p) {
				checkNoList(t, a, [][]int{p})
				checkNoList(t, a, [][]int{all[0], p})
				checkNoList(t, a, [][]int{p, all[0], all[0]})
				checkNoPair(t, a, p)
				wrong++
			}
		}
	}
	if separating < 1000 || factors < 1000 || others < 1000 || wrong < 500 {
		t.Error("only few", separating, factors, others, wrong)
	}
}

// All pairs of congruences of some Algebras.
func TestAllFactorPairs(t *testing.T) {
	for _, a := range []impl.Algebra{bare(4), bare(5), sums(6), opOf(8, 2, func(x []int) int { return x[0] ^ x[1] }), productByRule(lesser(2), lesser(4)), productByRule(bare(2), bare(3)), cube(), productByRule(successors(2), successors(4)), tower(6)} {
		all := congruencesByRule(a)
		for _, p := range all {
			for _, q := range all {
				if is, ok := impl.IsFactorPair(a, p, q); !ok || is != areFactorsByRule(p, q) {
					t.Fatal("factor pair", p, q, "in", a, is, ok)
				}
			}
		}
	}
}

// The promise of the chapter, by functions of the program alone: each element has another list of
// blocks in the subdirect decomposition, and the factors are irreducible images.
func TestElementsAreDeterminedByTheirBlocks(t *testing.T) {
	t.Parallel()
	checked := 0
	for _, a := range subdirectAlgebras() {
		list, ok := impl.SubdirectList(a)
		if !ok {
			continue
		}
		factors, one := impl.SubdirectFactors(a)
		rows, two := impl.BlockLists(a, list)
		is, three := impl.IsSeparating(a, list)
		if !one || !two || !three || !is || len(factors) != len(list) || len(rows) != a.Size {
			t.Fatal("decomposition of", a, list, factors, rows, is)
		}
		for x, row := range rows {
			if slices.ContainsFunc(rows[:x], func(other []int) bool { return slices.Equal(row, other) }) {
				t.Fatal("the same blocks in", a, list, rows)
			}
		}
		for i, q := range factors {
			var f []int
			for _, row := range rows {
				f = append(f, row[i])
			}
			irreducible, one := impl.IsIrreducibleAlgebra(q)
			image, two := impl.ImageOf(a, q, f)
			kernel, three := impl.KernelOf(a, q, f)
			if !one || !two || !three || !irreducible || len(image) != q.Size || !slices.Equal(kernel, list[i]) {
				t.Fatal("factor", i, "of", a, q, f, irreducible, image, kernel)
			}
			checked++
		}
		for i := range list {
			if is, ok := impl.IsSeparating(a, slices.Delete(slices.Clone(list), i, i+1)); !ok || is {
				t.Fatal("one less is enough for", a, list, i)
			}
		}
	}
	if checked < 1000 {
		t.Error("only few", checked)
	}
}

// The guarantee of the chapter, and what makes a congruence meet-irreducible.
func TestIrreducibleCongruencesAreSeparating(t *testing.T) {
	t.Parallel()
	for _, a := range subdirectAlgebras() {
		irreducible, ok := impl.IrreducibleCongruences(a)
		all, _ := impl.AllCongruences(a)
		if !ok {
			continue
		}
		meet := fullOf(a.Size)
		for _, p := range irreducible {
			meet, _ = impl.MeetPartitions(a.Size, meet, p)
		}
		if !slices.Equal(meet, firstNumbers(a.Size)) {
			t.Fatal("not separating for", a, irreducible)
		}
		if is, ok := impl.IsSeparating(a, irreducible); ok != (len(irreducible) <= 20) || is != ok {
			t.Fatal("separating", a, irreducible, is, ok)
		}
		for _, p := range someOf(all, 20) {
			q, one := impl.QuotientAlgebra(a, p)
			is, two := impl.IsIrreducibleAlgebra(q)
			least, three := impl.MonolithOf(q)
			covers, four := impl.CoveringCongruences(a, p)
			if !one || !two || three != is || !four || is != isIn(irreducible, p) || is != (len(covers) == 1) {
				t.Fatal("irreducible", p, "in", a, is, least, covers)
			}
			simple, one := impl.IsSimple(q)
			maximal, two := impl.MaximalCongruences(a)
			if !one || !two || simple != isIn(maximal, p) {
				t.Fatal("maximal", p, "in", a, simple, maximal)
			}
			if lift, ok := impl.LiftCongruence(a, p, least); ok != is || is && !slices.Equal(lift, covers[0]) {
				t.Fatal("monolith of the quotient by", p, "in", a, least, lift, covers)
			}
		}
	}
}

// productOfQuotients returns the product of the quotients by some congruences and the map that takes
// each element to its blocks.
func productOfQuotients(t *testing.T, a impl.Algebra, list [][]int) (impl.Algebra, []int) {
	t.Helper()
	rows, ok := impl.BlockLists(a, list)
	var product impl.Algebra
	f := make([]int, a.Size)
	for i, p := range list {
		q, one := impl.QuotientAlgebra(a, p)
		for x := range f {
			f[x] = f[x]*q.Size + rows[x][i]
		}
		if i == 0 {
			product = q
			continue
		}
		next, two := impl.ProductOf(product, q)
		if !ok || !one || !two {
			t.Fatal("product for", list, "of", a, product, q)
		}
		product = next
	}
	return product, f
}

// The other half of the promise: factor pairs make products, and so does the division.
func TestFactorPairsMakeProducts(t *testing.T) {
	t.Parallel()
	pairs, divided := 0, 0
	for _, a := range subdirectAlgebras() {
		all, _ := impl.AllCongruences(a)
		places, ok := impl.FactorPairs(a)
		if !ok {
			continue
		}
		for i := 0; i < len(places); i += 1 + len(places)/20 {
			p, q := all[places[i][0]], all[places[i][1]]
			one, two := impl.IsFactorPair(a, p, q)
			three, four := impl.IsFactorPair(a, q, p)
			if !one || !two || !three || !four {
				t.Fatal("factor pair", p, q, "of", a, one, two, three, four)
			}
			product, f := productOfQuotients(t, a, [][]int{p, q})
			if _, ok := impl.InverseIso(a, product, f); !ok {
				t.Fatal("no product by", p, q, "of", a, product, f)
			}
			pairs++
		}
		list, one := impl.IndecomposableList(a)
		is, two := impl.IsIndecomposable(a)
		if !one || !two || is != (len(list) == 1) {
			t.Fatal("indecomposable list of", a, list, is)
		}
		for _, p := range list {
			q, one := impl.QuotientAlgebra(a, p)
			if is, two := impl.IsIndecomposable(q); !one || !two || !is {
				t.Fatal("indecomposable list of", a, list, "has", p)
			}
		}
		if len(list) > 0 {
			product, f := productOfQuotients(t, a, list)
			if _, ok := impl.InverseIso(a, product, f); !ok {
				t.Fatal("no product by", list, "of", a, product, f)
			}
		}
		if len(list) > 1 {
			divided++
		}
	}
	if pairs < 1000 || divided < 100 {
		t.Error("only few", pairs, divided)
	}
}

// Each product has the kernels of both projections as a factor pair, under any names of the elements.
func TestProductsHaveFactorPairs(t *testing.T) {
	for _, maker := range makers() {
		for _, sizes := range [][2]int{{1, 3}, {2, 2}, {2, 3}, {3, 2}, {2, 4}, {4, 2}, {8, 1}} {
			a, b := maker(sizes[0]), maker(sizes[1])
			product, one := impl.ProductOf(a, b)
			f, two := impl.FactorOfProduct(a, b, 0)
			g, three := impl.FactorOfProduct(a, b, 1)
			if !one || !two || !three {
				t.Fatal("product of", a, b)
			}
			if is, ok := impl.IsFactorPair(product, blocksOfValues(f), blocksOfValues(g)); !ok || !is {
				t.Fatal("no factor pair of", product, f, g, is, ok)
			}
			names := shuffled(firstNumbers(product.Size))[:product.Size]
			c := renamed(product, names)
			p, q := slices.Clone(f), slices.Clone(g)
			for x, name := range names {
				p[name], q[name] = f[x], g[x]
			}
			if is, ok := impl.IsFactorPair(c, blocksOfValues(p), blocksOfValues(q)); !ok || !is {
				t.Fatal("no factor pair of", c, p, q, is, ok)
			}
			is, ok := impl.IsIndecomposable(c)
			if ok && is && min(sizes[0], sizes[1]) > 1 {
				t.Fatal("a product is indecomposable", c)
			}
		}
	}
}

// xors returns the Algebra whose congruences are those of a vector space of 0 and 1.
func xors(size int) impl.Algebra { return opOf(size, 2, func(x []int) int { return x[0] ^ x[1] }) }

func TestCasesOfIrreducibleAlgebras(t *testing.T) {
	uneven := unaries(5, []int{1, 0, 3, 4, 2})
	cases := []struct {
		a           impl.Algebra
		simple      bool
		monolith    []int
		irreducible [][]int
	}{
		// A single element has neither two congruences nor another one than the identity.
		{bare(1), false, nil, nil}, {constantsAlone(1, 0, 0), false, nil, nil}, {unevenOf(1, 3, 2, 1, 0), false, nil, nil},
		// Just two congruences: the full one is the monolith, and the identity meet-irreducible.
		{bare(2), true, []int{0, 0}, [][]int{{0, 1}}}, {constantsAlone(2, 1), true, []int{0, 0}, [][]int{{0, 1}}}, {sums(3), true, fullOf(3), [][]int{firstNumbers(3)}}, {sums(7), true, fullOf(7), [][]int{firstNumbers(7)}}, {diamond(), true, fullOf(5), [][]int{firstNumbers(5)}}, {successors(5), true, fullOf(5), [][]int{firstNumbers(5)}}, {tower(2), true, fullOf(2), [][]int{{0, 1}}},
		// A chain of three and of four: all proper congruences are meet-irreducible.
		{sums(4), false, []int{0, 1, 0, 1}, [][]int{firstNumbers(4), {0, 1, 0, 1}}}, {cosets(4), false, []int{0, 1, 0, 1}, [][]int{firstNumbers(4), {0, 1, 0, 1}}}, {unaries(3, []int{0, 0, 1}), false, []int{0, 0, 2}, [][]int{{0, 1, 2}, {0, 0, 2}}}, {unaries(3, []int{1, 2, 2}), false, []int{0, 1, 1}, [][]int{{0, 1, 2}, {0, 1, 1}}},
		{sums(8), false, []int{0, 1, 2, 3, 0, 1, 2, 3}, [][]int{firstNumbers(8), {0, 1, 2, 3, 0, 1, 2, 3}, {0, 1, 0, 1, 0, 1, 0, 1}}},
		// Two minimal ones, and more: there is no monolith.
		{sums(6), false, nil, [][]int{{0, 1, 2, 0, 1, 2}, {0, 1, 0, 1, 0, 1}}}, {uneven, false, nil, [][]int{{0, 0, 2, 3, 4}, {0, 1, 2, 2, 2}, {0, 0, 2, 2, 2}}}, {tower(3), false, nil, [][]int{{0, 0, 2}, {0, 1, 1}}}, {lesser(3), false, nil, [][]int{{0, 0, 2}, {0, 1, 1}}}, {xors(4), false, nil, [][]int{{0, 0, 2, 2}, {0, 1, 0, 1}, {0, 1, 1, 0}}},
		// Without operations and with constants alone, all partitions are congruences.
		{bare(3), false, nil, [][]int{{0, 0, 2}, {0, 1, 0}, {0, 1, 1}}}, {constantsAlone(3, 2, 0), false, nil, [][]int{{0, 0, 2}, {0, 1, 0}, {0, 1, 1}}},
		{bare(4), false, nil, [][]int{{0, 0, 0, 3}, {0, 0, 2, 0}, {0, 0, 2, 2}, {0, 1, 0, 0}, {0, 1, 0, 1}, {0, 1, 1, 0}, {0, 1, 1, 1}}}, {constantsAlone(4, 1, 1, 1, 1), false, nil, [][]int{{0, 0, 0, 3}, {0, 0, 2, 0}, {0, 0, 2, 2}, {0, 1, 0, 0}, {0, 1, 0, 1}, {0, 1, 1, 0}, {0, 1, 1, 1}}},
		// Two congruences cover the monolith, which is not meet-irreducible.
		{pentagon(), false, []int{0, 1, 1, 3, 4}, [][]int{firstNumbers(5), {0, 0, 0, 3, 3}, {0, 1, 1, 0, 1}}},
		{cube(), false, nil, [][]int{{0, 0, 0, 0, 4, 4, 4, 4}, {0, 0, 2, 2, 0, 0, 2, 2}, {0, 1, 0, 1, 0, 1, 0, 1}}},
	}
	for _, c := range cases {
		simple, one := impl.IsSimple(c.a)
		p, two := impl.MonolithOf(c.a)
		is, three := impl.IsIrreducibleAlgebra(c.a)
		l, four := impl.IrreducibleCongruences(c.a)
		if !one || two != (c.monolith != nil) || !three || !four || simple != c.simple || is != two || !slices.Equal(p, c.monolith) || !sameLists(l, c.irreducible) {
			t.Error("irreducible", c.a, simple, one, p, two, is, three, l, four)
		}
		checkIrreducible(t, c.a, congruencesByRule(c.a))
	}
}

func TestCasesOfSeparatingLists(t *testing.T) {
	full, id, even, low := fullOf(4), firstNumbers(4), []int{0, 1, 0, 1}, []int{0, 0, 2, 2}
	one, many, loose := []int{0}, slices.Repeat([][]int{even}, 19), []int{0, 0, 2, 3}
	cases := []struct {
		a    impl.Algebra
		list [][]int
		want bool
		rows [][]int
	}{
		// The meet of no congruence is the full one, which is the identity for a single element.
		{bare(1), nil, true, [][]int{nil}}, {constantsAlone(1, 0), [][]int{}, true, [][]int{nil}}, {bare(2), nil, false, [][]int{nil, nil}}, {xors(4), [][]int{}, false, slices.Repeat([][]int{nil}, 4)}, {unevenOf(8, 3, 2), nil, false, slices.Repeat([][]int{nil}, 8)},
		{bare(1), [][]int{one, one, one}, true, [][]int{{0, 0, 0}}}, {constantsAlone(1, 0), slices.Repeat([][]int{one}, 20), true, [][]int{fullOf(20)}},
		{xors(4), [][]int{full}, false, slices.Repeat([][]int{{0}}, 4)}, {xors(4), [][]int{id}, true, [][]int{{0}, {1}, {2}, {3}}}, {xors(4), [][]int{even}, false, [][]int{{0}, {1}, {0}, {1}}}, {xors(4), [][]int{even, even}, false, [][]int{{0, 0}, {1, 1}, {0, 0}, {1, 1}}},
		{xors(4), [][]int{even, low}, true, [][]int{{0, 0}, {1, 0}, {0, 1}, {1, 1}}}, {xors(4), [][]int{low, full, even, low}, true, [][]int{{0, 0, 0, 0}, {0, 0, 1, 0}, {1, 0, 0, 1}, {1, 0, 1, 1}}}, {xors(4), [][]int{full, full, id}, true, [][]int{{0, 0, 0}, {0, 0, 1}, {0, 0, 2}, {0, 0, 3}}},
		// Blocks between the elements of others: numbers of blocks are not their least elements.
		{bare(5), [][]int{{0, 1, 1, 3, 0}, {0, 0, 2, 3, 3}}, true, [][]int{{0, 0}, {1, 0}, {1, 1}, {2, 2}, {0, 2}}}, {bare(5), [][]int{{0, 1, 1, 3, 0}, {0, 0, 2, 3, 0}}, false, [][]int{{0, 0}, {1, 0}, {1, 1}, {2, 2}, {0, 0}}}, {pentagon(), [][]int{{0, 0, 0, 3, 3}, {0, 1, 1, 0, 1}}, false, [][]int{{0, 0}, {0, 1}, {0, 1}, {1, 0}, {1, 1}}},
		// Just 20 members, of which the last one alone is needed.
		{xors(4), append(slices.Clone(many), even), false, [][]int{fullOf(20), ones(20), fullOf(20), ones(20)}}, {xors(4), append(slices.Clone(many), low), true, [][]int{fullOf(20), append(ones(19), 0), append(fullOf(19), 1), ones(20)}},
		// Of an Algebra with more than MaxCongruences congruences.
		{bare(8), [][]int{{0, 0, 0, 0, 0, 0, 0, 7}}, false, append(slices.Repeat([][]int{{0}}, 7), []int{1})}, {bare(6), [][]int{{0, 0, 0, 3, 3, 3}, {0, 1, 2, 2, 1, 0}}, true, [][]int{{0, 0}, {0, 1}, {0, 2}, {1, 2}, {1, 1}, {1, 0}}},
	}
	for _, c := range cases {
		is, one := impl.IsSeparating(c.a, c.list)
		rows, two := impl.BlockLists(c.a, c.list)
		if !one || !two || is != c.want || !sameLists(rows, c.rows) {
			t.Error("separating", c.list, "in", c.a, is, one, rows, two)
		}
	}
	checkNoList(t, xors(4), append(slices.Clone(many), even, low))
	checkNoList(t, xors(4), slices.Repeat([][]int{id}, 21))
	checkNoList(t, bare(1), slices.Repeat([][]int{one}, 21))
	checkNoList(t, bare(1), make([][]int, 1<<16))
	for i := range 20 {
		list := slices.Repeat([][]int{id}, 20)
		list[i] = loose
		checkNoList(t, xors(4), list)
	}
	for _, l := range [][]int{loose, nil, {}, {0}, {0, 1, 0}, {0, 1, 0, 1, 0}, {1, 0, 1, 0}, {0, 0, 1, 1}, {0, 3, 0, 3}, {0, 1, 2, 4}, {0, 1, 2, -1}, {0, 1, 2, math.MaxInt}, {math.MinInt, 1, 2, 3}, make([]int, 1<<20)} {
		for _, list := range [][][]int{{l}, {id, l}, {l, id}, {full, l, even}, {l, l}} {
			checkNoList(t, xors(4), list)
		}
		checkNoPair(t, xors(4), l)
	}
}

func ones(n int) []int { return slices.Repeat([]int{1}, n) }

func TestCasesOfSeparatingCongruences(t *testing.T) {
	cases := []struct {
		a    impl.Algebra
		x, y int
		want []int
	}{
		{bare(2), 0, 1, []int{0, 1}}, {bare(2), 1, 0, []int{0, 1}}, {bare(2), 0, 0, nil}, {bare(2), 1, 1, nil}, {bare(1), 0, 0, nil}, {constantsAlone(1, 0), 0, 0, nil}, {sums(6), 5, 5, nil},
		// Only one of them separates, and several of which the first one is told.
		{sums(6), 0, 3, []int{0, 1, 0, 1, 0, 1}}, {sums(6), 0, 2, []int{0, 1, 2, 0, 1, 2}}, {sums(6), 1, 2, []int{0, 1, 2, 0, 1, 2}}, {sums(6), 4, 1, []int{0, 1, 0, 1, 0, 1}},
		{xors(4), 0, 1, []int{0, 1, 0, 1}}, {xors(4), 0, 2, []int{0, 0, 2, 2}}, {xors(4), 1, 2, []int{0, 0, 2, 2}}, {xors(4), 3, 2, []int{0, 1, 0, 1}},
		{bare(4), 0, 1, []int{0, 1, 0, 0}}, {bare(4), 2, 0, []int{0, 0, 2, 0}}, {bare(4), 0, 3, []int{0, 0, 0, 3}}, {bare(4), 2, 3, []int{0, 0, 0, 3}}, {pentagon(), 1, 2, firstNumbers(5)}, {pentagon(), 0, 4, firstNumbers(5)}, {sums(8), 0, 1, firstNumbers(8)}, {cube(), 0, 7, []int{0, 0, 0, 0, 4, 4, 4, 4}}, {cube(), 2, 3, []int{0, 1, 0, 1, 0, 1, 0, 1}},
	}
	for _, c := range cases {
		if p, ok := impl.SeparatingFor(c.a, c.x, c.y); ok != (c.want != nil) || !slices.Equal(p, c.want) {
			t.Error("separating", c.x, c.y, "in", c.a, p, ok, "not", c.want)
		}
	}
	for _, a := range []impl.Algebra{bare(1), bare(2), sums(6), pentagon(), constantsAlone(4, 1)} {
		for _, x := range []int{-1, a.Size, a.Size + 1, 8, 64, math.MinInt, math.MaxInt} {
			for _, y := range []int{0, a.Size - 1, x, -1, a.Size} {
				one, two := impl.SeparatingFor(a, x, y)
				three, four := impl.SeparatingFor(a, y, x)
				if two || four || len(one)+len(three) != 0 {
					t.Error("separating", x, y, "in", a, one, two, three, four)
				}
			}
		}
	}
}

func TestCasesOfSubdirectLists(t *testing.T) {
	id := firstNumbers
	cases := []struct {
		a       impl.Algebra
		list    [][]int
		factors []impl.Algebra
	}{
		// No congruence is needed for a single element.
		{bare(1), nil, nil}, {constantsAlone(1, 0), nil, nil}, {unevenOf(1, 3, 2, 1, 0), nil, nil},
		// The identity is meet-irreducible.
		{bare(2), [][]int{{0, 1}}, []impl.Algebra{bare(2)}}, {sums(7), [][]int{id(7)}, []impl.Algebra{sums(7)}}, {sums(8), [][]int{id(8)}, []impl.Algebra{sums(8)}}, {cosets(4), [][]int{id(4)}, []impl.Algebra{cosets(4)}}, {pentagon(), [][]int{id(5)}, []impl.Algebra{pentagon()}}, {constantsAlone(2, 1, 0), [][]int{{0, 1}}, []impl.Algebra{constantsAlone(2, 1, 0)}},
		// All of them are needed.
		{sums(6), [][]int{{0, 1, 2, 0, 1, 2}, {0, 1, 0, 1, 0, 1}}, []impl.Algebra{sums(3), sums(2)}}, {tower(4), [][]int{{0, 0, 0, 3}, {0, 0, 2, 2}, {0, 1, 1, 1}}, []impl.Algebra{tower(2), tower(2), tower(2)}}, {cube(), [][]int{{0, 0, 0, 0, 4, 4, 4, 4}, {0, 0, 2, 2, 0, 0, 2, 2}, {0, 1, 0, 1, 0, 1, 0, 1}}, []impl.Algebra{tower(2), tower(2), tower(2)}},
		// Two of three, and three of seven.
		{xors(4), [][]int{{0, 0, 2, 2}, {0, 1, 0, 1}}, []impl.Algebra{sums(2), sums(2)}}, {bare(3), [][]int{{0, 0, 2}, {0, 1, 0}}, []impl.Algebra{bare(2), bare(2)}}, {xors(8), [][]int{{0, 0, 0, 0, 4, 4, 4, 4}, {0, 0, 2, 2, 0, 0, 2, 2}, {0, 1, 0, 1, 0, 1, 0, 1}}, []impl.Algebra{sums(2), sums(2), sums(2)}},
		// The first meet-irreducible congruences are in no list of the fewest.
		{bare(4), [][]int{{0, 0, 2, 2}, {0, 1, 0, 1}}, []impl.Algebra{bare(2), bare(2)}}, {constantsAlone(4, 3, 1), [][]int{{0, 0, 2, 2}, {0, 1, 0, 1}}, []impl.Algebra{constantsAlone(2, 1, 0), constantsAlone(2, 1, 1)}},
		// Factors of different kinds.
		{unaries(5, []int{1, 0, 3, 4, 2}), [][]int{{0, 0, 2, 3, 4}, {0, 1, 2, 2, 2}}, []impl.Algebra{unaries(4, []int{0, 2, 3, 1}), unaries(3, []int{1, 0, 2})}},
	}
	for _, c := range cases {
		list, one := impl.SubdirectList(c.a)
		factors, two := impl.SubdirectFactors(c.a)
		if !one || !two || !sameLists(list, c.list) || !slices.EqualFunc(factors, c.factors, sameAlgebra) {
			t.Error("subdirect decomposition of", c.a, list, one, factors, two)
		}
	}
}

func TestCasesOfFactorPairs(t *testing.T) {
	all, id := fullOf, firstNumbers
	cases := []struct {
		a    impl.Algebra
		p, q []int
		want bool
	}{
		// The identity and the full partition.
		{bare(1), []int{0}, []int{0}, true}, {constantsAlone(1, 0), []int{0}, []int{0}, true}, {bare(2), id(2), all(2), true}, {bare(2), all(2), id(2), true}, {sums(8), id(8), all(8), true}, {sums(8), all(8), id(8), true}, {unevenOf(5, 3, 3, 3, 3), all(5), id(5), true}, {bare(8), id(8), all(8), true}, {bare(8), all(8), id(8), true},
		{bare(2), id(2), id(2), false}, {bare(2), all(2), all(2), false}, {sums(4), id(4), []int{0, 1, 0, 1}, false}, {sums(4), []int{0, 1, 0, 1}, all(4), false}, {sums(4), []int{0, 1, 0, 1}, []int{0, 1, 0, 1}, false},
		{sums(6), []int{0, 1, 2, 0, 1, 2}, []int{0, 1, 0, 1, 0, 1}, true}, {sums(6), []int{0, 1, 0, 1, 0, 1}, []int{0, 1, 2, 0, 1, 2}, true}, {xors(4), []int{0, 1, 1, 0}, []int{0, 0, 2, 2}, true}, {bare(4), []int{0, 0, 2, 2}, []int{0, 1, 0, 1}, true}, {bare(6), []int{0, 1, 0, 1, 1, 0}, []int{0, 0, 2, 2, 4, 4}, true}, {bare(8), []int{0, 0, 0, 0, 4, 4, 4, 4}, []int{0, 1, 2, 3, 3, 2, 1, 0}, true},
		// The meet is the identity, but some pairs of blocks have nothing in common.
		{bare(3), []int{0, 0, 2}, []int{0, 1, 1}, false}, {tower(3), []int{0, 0, 2}, []int{0, 1, 1}, false}, {bare(5), []int{0, 0, 0, 3, 3}, []int{0, 1, 2, 0, 1}, false}, {bare(4), []int{0, 0, 2, 3}, []int{0, 1, 0, 3}, false}, {pentagon(), id(5), []int{0, 0, 0, 3, 3}, false}, {xors(8), []int{0, 0, 2, 2, 4, 4, 6, 6}, []int{0, 1, 0, 1, 4, 5, 4, 5}, false}, {bare(8), []int{0, 0, 2, 2, 4, 4, 6, 6}, []int{0, 1, 1, 3, 3, 5, 5, 7}, false},
		// There is one element for each pair of blocks, or one pair of blocks for each, but the meet is not the identity.
		{bare(8), []int{0, 0, 0, 0, 4, 4, 4, 4}, []int{0, 1, 0, 1, 0, 1, 0, 1}, false}, {bare(4), []int{0, 0, 2, 2}, []int{0, 0, 2, 2}, false}, {bare(4), []int{0, 0, 0, 3}, []int{0, 1, 1, 1}, false}, {bare(6), []int{0, 0, 0, 3, 3, 3}, []int{0, 0, 2, 2, 4, 4}, false}, {xors(8), []int{0, 0, 0, 0, 4, 4, 4, 4}, []int{0, 0, 2, 2, 4, 4, 6, 6}, false},
	}
	for _, c := range cases {
		if is, ok := impl.IsFactorPair(c.a, c.p, c.q); !ok || is != c.want {
			t.Error("factor pair", c.p, c.q, "of", c.a, is, ok)
		}
	}
	// Lists of which one is no congruence, also beside those with which others are a pair.
	for _, l := range append(wrongLists(), []int{0, 1, 2, 3, 4, 5, 6, 0}, []int{0, 0, 2, 2, 4, 4, 6, 6}) {
		checkNoPair(t, sums(8), l)
	}
	for _, l := range wrongLists() {
		checkNoPair(t, bare(8), l)
	}
}

func TestCasesOfListsOfFactorPairs(t *testing.T) {
	cases := []struct {
		a    impl.Algebra
		want [][2]int
		is   bool
	}{
		// A single element is one pair with itself, but not indecomposable.
		{bare(1), [][2]int{{0, 0}}, false}, {constantsAlone(1, 0), [][2]int{{0, 0}}, false}, {unevenOf(1, 3, 2, 1, 0), [][2]int{{0, 0}}, false},
		// Sizes that are prime, and others with only one pair.
		{bare(2), [][2]int{{0, 1}}, true}, {bare(3), [][2]int{{0, 4}}, true}, {bare(5), [][2]int{{0, 51}}, true}, {sums(7), [][2]int{{0, 1}}, true}, {tower(7), [][2]int{{0, 63}}, true}, {tower(4), [][2]int{{0, 7}}, true}, {sums(4), [][2]int{{0, 2}}, true}, {sums(8), [][2]int{{0, 3}}, true}, {pentagon(), [][2]int{{0, 4}}, true},
		{sums(6), [][2]int{{0, 3}, {1, 2}}, false}, {xors(4), [][2]int{{0, 4}, {1, 2}, {1, 3}, {2, 3}}, false}, {latticeOf(0, 1, 2, 3), [][2]int{{0, 3}, {1, 2}}, false}, {cube(), [][2]int{{0, 7}, {1, 6}, {2, 5}, {3, 4}}, false},
		// All partitions of four: those of two blocks of two.
		{bare(4), [][2]int{{0, 14}, {9, 11}, {9, 12}, {11, 12}}, false}, {constantsAlone(4, 2), [][2]int{{0, 14}, {9, 11}, {9, 12}, {11, 12}}, false},
		{productByRule(sums(4), sums(2)), [][2]int{{0, 7}, {1, 5}, {1, 6}, {3, 5}, {3, 6}}, false},
	}
	for _, c := range cases {
		l, one := impl.FactorPairs(c.a)
		is, two := impl.IsIndecomposable(c.a)
		if !one || !two || !slices.Equal(l, c.want) || is != c.is {
			t.Error("factor pairs of", c.a, l, one, is, two)
		}
	}
	pairs, ok := impl.FactorPairs(xors(8))
	if !ok || len(pairs) != 29 || pairs[0] != [2]int{0, 15} {
		t.Error("factor pairs of eight", pairs, ok)
	}
	// Each line has four planes without it.
	for _, pair := range pairs[1:] {
		if pair[0] < 1 || pair[0] > 7 || pair[1] < 8 || pair[1] > 14 {
			t.Error("factor pairs of eight", pairs)
		}
	}
}

func TestCasesOfIndecomposableLists(t *testing.T) {
	id := firstNumbers
	cases := []struct {
		a    impl.Algebra
		want [][]int
	}{
		{bare(1), nil}, {constantsAlone(1, 0), nil}, {unevenOf(1, 3, 2, 1, 0), nil},
		// Indecomposable ones have the identity alone.
		{bare(2), [][]int{id(2)}}, {bare(5), [][]int{id(5)}}, {sums(8), [][]int{id(8)}}, {tower(4), [][]int{id(4)}}, {pentagon(), [][]int{id(5)}}, {diamond(), [][]int{id(5)}}, {constantsAlone(3, 2), [][]int{id(3)}},
		// Products of two factors.
		{sums(6), [][]int{{0, 1, 2, 0, 1, 2}, {0, 1, 0, 1, 0, 1}}}, {xors(4), [][]int{{0, 0, 2, 2}, {0, 1, 0, 1}}}, {bare(4), [][]int{{0, 0, 2, 2}, {0, 1, 0, 1}}}, {productByRule(sums(4), sums(2)), [][]int{{0, 0, 2, 2, 4, 4, 6, 6}, {0, 1, 0, 1, 0, 1, 0, 1}}}, {productByRule(sums(2), sums(4)), [][]int{{0, 1, 2, 3, 0, 1, 2, 3}, {0, 0, 0, 0, 4, 4, 4, 4}}}, {latticeOf(0, 1, 2, 3), [][]int{{0, 0, 2, 2}, {0, 1, 0, 1}}}, {productByRule(tower(2), tower(4)), [][]int{{0, 1, 2, 3, 0, 1, 2, 3}, {0, 0, 0, 0, 4, 4, 4, 4}}},
		// Products of three: the first quotient or the second one is divided again.
		{cube(), [][]int{{0, 0, 0, 0, 4, 4, 4, 4}, {0, 0, 2, 2, 0, 0, 2, 2}, {0, 1, 0, 1, 0, 1, 0, 1}}}, {xors(8), [][]int{{0, 0, 0, 0, 4, 4, 4, 4}, {0, 0, 2, 2, 0, 0, 2, 2}, {0, 1, 0, 1, 0, 1, 0, 1}}},
	}
	for _, c := range cases {
		if l, ok := impl.IndecomposableList(c.a); !ok || !sameLists(l, c.want) {
			t.Error("indecomposable list of", c.a, l, ok, "not", c.want)
		}
	}
}

func TestCasesOfWidths(t *testing.T) {
	cases := []struct {
		a    impl.Algebra
		want int
	}{
		// Chains.
		{bare(1), 1}, {constantsAlone(1, 0), 1}, {bare(2), 1}, {sums(7), 1}, {sums(4), 1}, {sums(8), 1}, {cosets(8), 1}, {unaries(3, []int{0, 0, 1}), 1}, {diamond(), 1},
		// All partitions.
		{bare(3), 3}, {bare(4), 7}, {bare(5), 25}, {constantsAlone(4, 3), 7}, {constantsAlone(5, 0, 1), 25},
		// All subsets.
		{tower(3), 2}, {tower(4), 3}, {tower(5), 6}, {tower(6), 10}, {tower(7), 20}, {tower(8), 35}, {cube(), 3}, {sums(6), 2},
		// All subspaces.
		{xors(4), 3}, {xors(8), 7}, {pentagon(), 2}, {unaries(5, []int{1, 0, 3, 4, 2}), 2},
	}
	for _, c := range cases {
		if n, ok := impl.WidthOfCongruences(c.a); !ok || n != c.want {
			t.Error("width of", c.a, n, ok, "not", c.want)
		}
	}
}

// Just MaxCongruences congruences, and more.
func TestLimitOfSubdirectDecompositions(t *testing.T) {
	all := congruencesByRule(just200())
	if len(all) != 200 {
		t.Fatal("the rule is wrong", len(all))
	}
	checkIrreducible(t, just200(), all)
	checkDecomposed(t, just200(), all)
	for _, a := range []impl.Algebra{one201(), bare(6), bare(7), bare(8), constantsAlone(8, 1, 2), constantsAlone(6, 5)} {
		checkNotDecomposed(t, a)
		all := congruencesByRule(a)
		for _, p := range someOf(all, 6) {
			checkList(t, a, [][]int{p})
			for _, q := range someOf(all, 30) {
				checkList(t, a, [][]int{p, q, p})
				if is, ok := impl.IsFactorPair(a, p, q); !ok || is != areFactorsByRule(p, q) {
					t.Fatal("factor pair", p, q, "of", a, is, ok)
				}
			}
		}
		checkList(t, a, nil)
		checkList(t, a, all[:20])
		checkList(t, a, all[len(all)-20:])
		checkNoList(t, a, all[:21])
	}
}

// All short lists of loose numbers: just those that are congruences are in lists and in pairs.
func TestSeparatingByAllShortLists(t *testing.T) {
	for _, a := range []impl.Algebra{bare(3), lesser(3), sums(2), constantsAlone(3, 2), with(bare(1), 2, 0), opOf(3, 3, func(x []int) int { return x[0] / 2 })} {
		all := congruencesByRule(a)
		for n := range 5 {
			for _, l := range looseLists(3, n) {
				if !isIn(all, l) {
					checkNoList(t, a, [][]int{l})
					checkNoList(t, a, [][]int{all[0], l})
					checkNoPair(t, a, l)
					continue
				}
				checkList(t, a, [][]int{l})
				for _, p := range all {
					checkList(t, a, [][]int{p, l})
					if is, ok := impl.IsFactorPair(a, p, l); !ok || is != areFactorsByRule(p, l) {
						t.Fatal("factor pair", p, l, "of", a, is, ok)
					}
				}
			}
		}
	}
}

func TestSubdirectDecompositionsOfInvalidAlgebras(t *testing.T) {
	for _, a := range invalidAlgebras() {
		checkNotDecomposed(t, a)
		checkNoList(t, a, nil)
		checkNoList(t, a, [][]int{})
		for _, p := range [][]int{nil, {}, {0}, {0, 1}, {0, 0}, {1, 0}, {-1}, firstNumbers(8), fullOf(8), firstNumbers(9), stillMap(a)} {
			checkNoList(t, a, [][]int{p})
			checkNoList(t, a, [][]int{p, p})
			checkNoPair(t, a, p)
		}
	}
}

// subdirectResults calls each function of the chapter. It returns the lists of each result, and a
// text of everything.
func subdirectResults(a impl.Algebra, list [][]int, p, q []int) ([][][]int, string) {
	var results [][][]int
	var others []any
	keep := func(l [][]int, ok bool) {
		results = append(results, l)
		others = append(others, ok)
	}
	keepOne := func(l []int, ok bool) { keep([][]int{l}, ok) }
	tell := func(is, ok bool) { others = append(others, is, ok) }
	tell(impl.IsSimple(a))
	keepOne(impl.MonolithOf(a))
	tell(impl.IsIrreducibleAlgebra(a))
	keep(impl.IrreducibleCongruences(a))
	tell(impl.IsSeparating(a, list))
	keepOne(impl.SeparatingFor(a, 0, 1))
	keep(impl.SubdirectList(a))
	factors, ok := impl.SubdirectFactors(a)
	var tables [][]int
	for _, b := range factors {
		others = append(others, b.Size, len(b.Ops))
		tables = append(tables, tablesOf(b)...)
	}
	keep(tables, ok)
	for i := range factors {
		factors[i].Ops = append(factors[i].Ops[:0:cap(factors[i].Ops)], slices.Repeat([]impl.Op{{Arity: 10 + i}}, cap(factors[i].Ops))...)
	}
	for i, b := range factors {
		for _, f := range b.Ops {
			others = append(others, f.Arity == 10+i)
		}
	}
	keep(impl.BlockLists(a, list))
	tell(impl.IsFactorPair(a, p, q))
	pairs, ok := impl.FactorPairs(a)
	others = append(others, fmt.Sprint(pairs), ok)
	for i := range pairs[:cap(pairs)] {
		pairs[:cap(pairs)][i] = [2]int{-3, -4}
	}
	tell(impl.IsIndecomposable(a))
	keep(impl.IndecomposableList(a))
	n, ok := impl.WidthOfCongruences(a)
	others = append(others, n, ok)
	return results, fmt.Sprint(results, others)
}

func TestSubdirectFunctionsLeaveTheirArguments(t *testing.T) {
	lists := [][][]int{
		nil, {}, {firstNumbers(4)}, {fullOf(4), {0, 1, 0, 1}}, {{0, 1, 0, 1}, {0, 0, 2, 2}, {0, 1, 0, 1}}, {{0}, {0}}, {{0, 1}}, {{0, 1, 0}}, {{1, 1, 0, 0}}, {nil}, {firstNumbers(8), {0, 1, 0, 1, 0, 1, 0, 1}},
		slices.Repeat([][]int{{0, 0, 2, 2}}, 20), slices.Repeat([][]int{{0, 0, 2, 2}}, 21),
	}
	for _, a := range []impl.Algebra{bare(1), constantsAlone(1, 0), bare(2), bare(4), sums(4), xors(4), lesser(4), successors(4), constantsAlone(4, 1, 3), tower(4), unevenOf(4, 3, 3, 3, 3), mixed(4, 1, 1, 0, 2, 3), bare(8), sums(8), xors(8), cube(), productByRule(sums(4), sums(2)), {Size: 9}, {}} {
		for _, l := range lists {
			a, list := roomyAlgebra(a), roomyLists(l)
			var p, q []int
			if len(list) > 0 {
				// The members of the list are arguments once more.
				p, q = list[0], list[len(list)-1]
			}
			text := func() string { return allOfAlgebra(a, append(list[:cap(list):cap(list)], p, q)...) }
			before := text()
			results, first := subdirectResults(a, list, p, q)
			if _, second := subdirectResults(a, list, p, q); first != second {
				t.Fatal("another result", first, second)
			}
			for i, r := range results {
				if !areApart(r) {
					t.Fatal("the result", i, "shares memory with itself", a, list)
				}
				for j := range r[:cap(r)] {
					r[:cap(r)][j] = []int{-9}
				}
			}
			if after := text(); after != before {
				t.Fatal("changed", before, after)
			}
			if _, third := subdirectResults(a, list, p, q); third != first {
				t.Fatal("a result shares memory", a, list)
			}
		}
	}
}

// The greatest Algebras are done in good time.
func TestLargeSubdirectDecompositions(t *testing.T) {
	for _, a := range []impl.Algebra{unevenOf(8, 3, 3, 3, 3), mixed(8, 5, 3, 3, 3, 3), algebraOf(8, []int{3, 3, 3, 3}, func(op, at int) int { return max(at%8-1, 0) }), algebraOf(8, []int{3, 3, 3, 3}, func(op, at int) int { return (at%8 + op) / 2 % 8 })} {
		all := congruencesByRule(a)
		if len(all) > 200 {
			t.Fatal("too many", len(all))
		}
		checkIrreducible(t, a, all)
		checkDecomposed(t, a, all)
	}
	last := algebraOf(8, []int{3, 3, 3, 3}, func(_, at int) int { return at % 8 })
	checkNotDecomposed(t, last)
	checkList(t, last, slices.Repeat([][]int{{0, 0, 2, 0, 4, 4, 2, 0}, {0, 1, 2, 3, 1, 2, 3, 2}}, 10))
}
