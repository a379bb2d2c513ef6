package tests

import (
	"fmt"
	"math"
	"slices"
	"testing"

	"loop.example/g01078/impl"
)

// The signatures of chapter 9 are promised to other packages.
var (
	_ func(impl.Algebra, []int) (impl.Algebra, bool) = impl.QuotientAlgebra
	_ func(impl.Algebra, []int) ([]int, bool)        = impl.NaturalMap
	_ func(int, []int) ([]int, bool)                 = impl.PartitionOfMap
	_ func(impl.Algebra, []int, []int) ([]int, bool) = impl.LiftCongruence
	_ func(impl.Algebra, []int, []int) ([]int, bool) = impl.PushCongruence
	_ func(impl.Algebra, []int) ([][]int, bool)      = impl.CongruencesAbove
	_ func(impl.Algebra, []int, []int) ([]int, bool) = impl.CoarserMap
	_ func(impl.Algebra, []int, []int) ([]int, bool) = impl.RestrictCongruence
	_ func(impl.Algebra, []int, []int) ([]int, bool) = impl.SaturateSub
	_ func(impl.Algebra, []int) ([][]int, bool)      = impl.BlockSubs
	_ func(impl.Algebra, []int, []int) ([]int, bool) = impl.ImageSub
	_ func(impl.Algebra) ([][]int, bool)             = impl.FirstSeries
	_ func(impl.Algebra) ([]int, bool)               = impl.SeriesWidths
	_ func(impl.Algebra) (bool, bool)                = impl.IsUniform
)

// unlikeAlgebras returns Algebras in whose series a congruence has blocks with different numbers of
// blocks of the one before, the most of them first in one and last in the others.
func unlikeAlgebras() []impl.Algebra {
	return []impl.Algebra{
		unaries(5, []int{3, 4, 3, 1, 2}, []int{2, 0, 1, 2, 0}), unaries(5, []int{2, 3, 1, 0, 1}, []int{4, 2, 3, 4, 2}), unaries(5, []int{2, 4, 0, 4, 2}, []int{2, 2, 1, 3, 3}), unaries(5, []int{3, 4, 1, 3, 1}, []int{1, 2, 1, 2, 0}),
		unaries(6, []int{2, 0, 4, 4, 3, 0}, []int{2, 3, 1, 2, 1, 3}), unaries(6, []int{5, 0, 3, 2, 0, 3}, []int{2, 2, 4, 1, 5, 4}, []int{0, 4, 2, 5, 4, 3}),
	}
}

func quotientAlgebras() []impl.Algebra { return append(congruenceAlgebras(), unlikeAlgebras()...) }

// someOf returns at most about n members of a list, the first and the last one among them.
func someOf(lists [][]int, n int) [][]int {
	if len(lists) == 0 {
		return nil
	}
	var some [][]int
	for i := 0; i < len(lists)-1; i += 1 + len(lists)/n {
		some = append(some, lists[i])
	}
	return append(some, lists[len(lists)-1])
}

// blocksOfValues returns the partition of a list's places by the values there.
func blocksOfValues(values []int) []int {
	return partitionByRule(len(values), func(x, y int) bool { return values[x] == values[y] })
}

// valuesAt returns the values at some places.
func valuesAt(values []int, places []int) []int {
	var list []int
	for _, i := range places {
		list = append(list, values[i])
	}
	return list
}

// liftByRule has two elements in one block if their blocks, which natural tells, are in one.
func liftByRule(natural, q []int) []int { return blocksOfValues(valuesAt(q, natural)) }

// leastsByRule returns the least element of each block.
func leastsByRule(p []int) []int {
	var leasts []int
	for _, block := range blocksByRule(p) {
		leasts = append(leasts, block[0])
	}
	return leasts
}

// checkQuotient compares the quotient by a congruence with the rule, and returns it with the natural
// map.
func checkQuotient(t *testing.T, a impl.Algebra, p []int) (impl.Algebra, []int) {
	t.Helper()
	q, natural := quotientByRule(a, p)
	if !homByRule(a, q, natural) {
		t.Fatal("the rule is wrong for", a, p, q)
	}
	if b, ok := impl.QuotientAlgebra(a, p); !ok || !sameAlgebra(b, q) {
		t.Fatal("quotient of", a, "by", p, b, ok, "not", q)
	}
	if m, ok := impl.NaturalMap(a, p); !ok || !slices.Equal(m, natural) {
		t.Fatal("natural map of", p, m, ok, "not", natural)
	}
	return q, natural
}

// checkLifts lifts partitions of the blocks of p, and pushes them back.
func checkLifts(t *testing.T, a impl.Algebra, p []int, q impl.Algebra, natural []int) {
	t.Helper()
	for _, r := range someOf(partitionsOf(q.Size), 40) {
		lift, ok := impl.LiftCongruence(a, p, r)
		if ok != keptByRule(q, r) || !ok && len(lift) != 0 {
			t.Fatal("lift of", r, "by", p, "in", a, lift, ok)
		}
		if !ok {
			continue
		}
		if want := liftByRule(natural, r); !slices.Equal(lift, want) || !keptByRule(a, want) {
			t.Fatal("lift of", r, "by", p, "in", a, lift, "not", want)
		}
		if back, ok := impl.PushCongruence(a, p, lift); !ok || !slices.Equal(back, r) {
			t.Fatal("pushed", lift, "by", p, "in", a, back, ok, "not", r)
		}
	}
}

// checkCoarser compares what is said of two congruences.
func checkCoarser(t *testing.T, a impl.Algebra, p, c []int) {
	t.Helper()
	pushed, one := impl.PushCongruence(a, p, c)
	coarser, two := impl.CoarserMap(a, p, c)
	if is := finerByRule(p, c); one != is || two != is {
		t.Fatal("from", p, "to", c, "in", a, pushed, one, coarser, two)
	}
	if !one {
		if len(pushed)+len(coarser) != 0 {
			t.Fatal("from", p, "to", c, "in", a, pushed, coarser)
		}
		return
	}
	leasts := leastsByRule(p)
	if want := blocksOfValues(valuesAt(c, leasts)); !slices.Equal(pushed, want) {
		t.Fatal("pushed", c, "by", p, "in", a, pushed, "not", want)
	}
	// Each element goes the same way by the finer quotient as straight.
	_, finer := quotientByRule(a, p)
	_, straight := quotientByRule(a, c)
	if len(coarser) != len(leasts) || !slices.Equal(valuesAt(coarser, finer), straight) {
		t.Fatal("coarser map from", p, "to", c, "in", a, coarser)
	}
	if back, ok := impl.LiftCongruence(a, p, pushed); !ok || !slices.Equal(back, c) {
		t.Fatal("lift of", pushed, "by", p, "in", a, back, ok, "not", c)
	}
}

func TestQuotients(t *testing.T) {
	t.Parallel()
	comparable, others := 0, 0
	for _, a := range quotientAlgebras() {
		all := congruencesByRule(a)
		for _, p := range someOf(all, 9) {
			q, natural := checkQuotient(t, a, p)
			checkLifts(t, a, p, q, natural)
			for _, c := range someOf(all, 12) {
				checkCoarser(t, a, p, c)
				if finerByRule(p, c) {
					comparable++
				} else {
					others++
				}
			}
			above := chosen(all, func(c []int) bool { return finerByRule(p, c) })
			if len(all) > 200 {
				above = nil
			}
			if l, ok := impl.CongruencesAbove(a, p); ok != (len(all) <= 200) || !sameLists(l, above) {
				t.Fatal("above", p, "in", a, l, ok, "not", above)
			}
		}
	}
	if comparable < 1000 || others < 1000 {
		t.Error("only few", comparable, others)
	}
}

// The promise of the chapter, by functions of the program alone: the lifts of the congruences of a
// quotient are just the congruences above, also in their order, and pushing leads back.
func TestCongruencesOfQuotients(t *testing.T) {
	t.Parallel()
	checked := 0
	for _, a := range quotientAlgebras() {
		all, ok := impl.AllCongruences(a)
		if !ok {
			continue
		}
		for _, p := range someOf(all, 8) {
			q, one := impl.QuotientAlgebra(a, p)
			inner, two := impl.AllCongruences(q)
			above, three := impl.CongruencesAbove(a, p)
			if !one || !two || !three || len(inner) != len(above) || len(above) == 0 {
				t.Fatal("numbers for", p, "in", a, inner, above)
			}
			for i, r := range inner {
				lift, one := impl.LiftCongruence(a, p, r)
				push, two := impl.PushCongruence(a, p, above[i])
				is, three := impl.IsFiner(a.Size, p, lift)
				if !one || !two || !three || !is || !slices.Equal(lift, above[i]) || !slices.Equal(push, r) {
					t.Fatal("lift of", r, "by", p, "in", a, lift, "pushed", above[i], push)
				}
				checked++
			}
			covering, one := impl.CoveringCongruences(a, p)
			minimal, two := impl.MinimalCongruences(q)
			if !one || !two || len(covering) != len(minimal) {
				t.Fatal("covering", p, "in", a, covering, minimal)
			}
			for i, r := range minimal {
				if lift, ok := impl.LiftCongruence(a, p, r); !ok || !slices.Equal(lift, covering[i]) {
					t.Fatal("lift of the minimal", r, "by", p, "in", a, lift, covering[i])
				}
			}
		}
	}
	if checked < 5000 {
		t.Error("only few", checked)
	}
}

// The quotient by a lift is the quotient of the quotient, and the coarser map is its natural map.
func TestQuotientsOfQuotients(t *testing.T) {
	t.Parallel()
	for _, a := range quotientAlgebras() {
		all, ok := impl.AllCongruences(a)
		if !ok {
			continue
		}
		for _, p := range someOf(all, 5) {
			q, _ := impl.QuotientAlgebra(a, p)
			above, _ := impl.CongruencesAbove(a, p)
			for _, c := range someOf(above, 9) {
				straight, one := impl.QuotientAlgebra(a, c)
				push, two := impl.PushCongruence(a, p, c)
				steps, three := impl.QuotientAlgebra(q, push)
				if !one || !two || !three || !sameAlgebra(straight, steps) {
					t.Fatal("by", p, "and", c, "in", a, straight, steps)
				}
				natural, one := impl.NaturalMap(q, push)
				coarser, two := impl.CoarserMap(a, p, c)
				if !one || !two || !slices.Equal(natural, coarser) {
					t.Fatal("maps of", p, "and", c, "in", a, natural, coarser)
				}
				kernel, one := impl.KernelOf(q, straight, coarser)
				first, two := impl.NaturalMap(a, p)
				whole, three := impl.NaturalMap(a, c)
				composed, four := impl.ComposeHoms(a, q, straight, first, coarser)
				if !one || !two || !three || !four || !slices.Equal(kernel, push) || !slices.Equal(composed, whole) {
					t.Fatal("maps of", p, "and", c, "in", a, kernel, composed, whole)
				}
			}
		}
	}
}

// Each congruence is the kernel of its natural map, and the partition of it.
func TestNaturalMaps(t *testing.T) {
	for _, a := range quotientAlgebras() {
		for _, p := range someOf(congruencesByRule(a), 9) {
			q, one := impl.QuotientAlgebra(a, p)
			m, two := impl.NaturalMap(a, p)
			k, three := impl.KernelOf(a, q, m)
			l, four := impl.ImageOf(a, q, m)
			r, five := impl.PartitionOfMap(a.Size, m)
			if !one || !two || !three || !four || !five || !slices.Equal(k, p) || !slices.Equal(r, p) || !slices.Equal(l, firstNumbers(q.Size)) {
				t.Fatal("natural map of", p, "in", a, m, k, l, r)
			}
		}
	}
}

// saturatedByRule and imageByRule follow the words of the chapter.
func saturatedByRule(sub, p []int) []int {
	return slices.DeleteFunc(firstNumbers(len(p)), func(x int) bool {
		return !slices.ContainsFunc(sub, func(s int) bool { return p[s] == p[x] })
	})
}

func imageByRule(sub, p []int) []int {
	var image []int
	for i, block := range blocksByRule(p) {
		if slices.ContainsFunc(block, func(x int) bool { return slices.Contains(sub, x) }) {
			image = append(image, i)
		}
	}
	return image
}

// checkSubs compares what is said of a subuniverse and a congruence.
func checkSubs(t *testing.T, a impl.Algebra, sub, p []int) {
	t.Helper()
	want := saturatedByRule(sub, p)
	if s, ok := impl.SaturateSub(a, sub, p); !ok || !slices.Equal(s, want) {
		t.Fatal("saturation of", sub, "by", p, "in", a, s, ok, "not", want)
	}
	if is, ok := impl.IsSubuniverse(a, want); !ok || !is {
		t.Fatal("saturation of", sub, "by", p, "in", a, is, ok)
	}
	image := imageByRule(sub, p)
	if l, ok := impl.ImageSub(a, sub, p); !ok || !slices.Equal(l, image) {
		t.Fatal("image of", sub, "by", p, "in", a, l, ok, "not", image)
	}
	q, natural := quotientByRule(a, p)
	if !hasAll(image, valuesByRule(q, image)) {
		t.Fatal("image of", sub, "by", p, "in", a, image)
	}
	if l, ok := impl.ImageSub(a, want, p); !ok || !slices.Equal(l, image) {
		t.Fatal("image of the saturation", want, "by", p, "in", a, l, ok, "not", image)
	}
	r, ok := impl.RestrictCongruence(a, sub, p)
	if ok != (len(sub) > 0) || !slices.Equal(r, blocksOfValues(valuesAt(p, sub))) {
		t.Fatal("restricted", p, "to", sub, "in", a, r, ok)
	}
	if ok {
		checkRestricted(t, a, sub, p, r, image, natural)
	}
}

// checkRestricted checks that the quotient of the subalgebra is the subalgebra of the quotient, with
// the blocks of the same elements in the same order of their least ones.
func checkRestricted(t *testing.T, a impl.Algebra, sub, p, r, image, natural []int) {
	t.Helper()
	b, one := impl.SubalgebraOf(a, sub)
	inner, two := impl.QuotientAlgebra(b, r)
	whole, three := impl.QuotientAlgebra(a, p)
	outer, four := impl.SubalgebraOf(whole, image)
	m, five := impl.NaturalMap(b, r)
	if !one || !two || !three || !four || !five || len(m) != len(sub) {
		t.Fatal("restricted", p, "to", sub, "in", a, r, inner, outer)
	}
	toOuter := slices.Repeat([]int{-1}, inner.Size)
	for i, x := range sub {
		toOuter[m[i]] = slices.Index(image, natural[x])
	}
	if _, ok := impl.InverseIso(inner, outer, toOuter); !ok {
		t.Fatal("no isomorphism for", p, "and", sub, "in", a, toOuter)
	}
}

func TestSubuniversesAndQuotients(t *testing.T) {
	t.Parallel()
	empty, turned := 0, 0
	for _, a := range quotientAlgebras() {
		subs, all := subsByRule(a), congruencesByRule(a)
		for _, p := range someOf(all, 6) {
			for _, sub := range someOf(subs, 9) {
				checkSubs(t, a, sub, p)
				if len(sub) == 0 {
					empty++
				}
			}
			for i, l := range someOf(ascending(a.Size), 6) {
				if i%2 == 0 && len(l) > 1 {
					l = slices.Clone(l)
					slices.Reverse(l)
					turned++
				}
				if !isIn(subs, l) {
					checkNoSub(t, a, l, p)
				}
			}
			want := chosen(blocksByRule(p), func(l []int) bool { return isIn(subs, l) })
			if l, ok := impl.BlockSubs(a, p); !ok || !sameLists(l, want) {
				t.Fatal("blocks of", p, "in", a, l, ok, "not", want)
			}
		}
	}
	if empty < 100 || turned < 100 {
		t.Error("only few", empty, turned)
	}
}

// checkNoSub uses a list that is no subuniverse where one is asked for.
func checkNoSub(t *testing.T, a impl.Algebra, sub, p []int) {
	t.Helper()
	for i, f := range []func(impl.Algebra, []int, []int) ([]int, bool){impl.RestrictCongruence, impl.SaturateSub, impl.ImageSub} {
		if l, ok := f(a, sub, p); ok || len(l) != 0 {
			t.Errorf("no subuniverse %.60s of %.200s with %v: %d, %v, %v", fmt.Sprint(sub), fmt.Sprint(a), p, i, l, ok)
		}
	}
}

// checkNoCongruence uses a list that is no congruence where one is asked for.
func checkNoCongruence(t *testing.T, a impl.Algebra, p []int) {
	t.Helper()
	tell := func(what string, results ...any) {
		t.Helper()
		t.Errorf("%s by %.60s of %.200s: %v", what, fmt.Sprint(p), fmt.Sprint(a), results)
	}
	if b, ok := impl.QuotientAlgebra(a, p); ok || !isZeroAlgebra(b) {
		tell("quotient", b, ok)
	}
	if m, ok := impl.NaturalMap(a, p); ok || len(m) != 0 {
		tell("natural map", m, ok)
	}
	above, one := impl.CongruencesAbove(a, p)
	blocks, two := impl.BlockSubs(a, p)
	if one || two || len(above)+len(blocks) != 0 {
		tell("above and blocks", above, one, blocks, two)
	}
	for _, q := range [][]int{nil, {0}, {0, 0}, stillMap(a), make([]int, len(stillMap(a))), p} {
		r, one := impl.LiftCongruence(a, p, q)
		s, two := impl.PushCongruence(a, p, q)
		u, three := impl.PushCongruence(a, q, p)
		v, four := impl.CoarserMap(a, p, q)
		w, five := impl.CoarserMap(a, q, p)
		if one || two || three || four || five || len(r)+len(s)+len(u)+len(v)+len(w) != 0 {
			tell("with a second one", q, r, one, s, two, u, three, v, four, w, five)
		}
	}
	for _, sub := range [][]int{nil, {0}, stillMap(a)} {
		r, one := impl.RestrictCongruence(a, sub, p)
		s, two := impl.SaturateSub(a, sub, p)
		u, three := impl.ImageSub(a, sub, p)
		if one || two || three || len(r)+len(s)+len(u) != 0 {
			tell("with a list", sub, r, one, s, two, u, three)
		}
	}
}

func TestPartitionsThatAreNoCongruences(t *testing.T) {
	checked := 0
	for _, a := range quotientAlgebras() {
		for _, p := range someOf(partitionsOf(a.Size), 7) {
			if !keptByRule(a, p) {
				checkNoCongruence(t, a, p)
				checked++
			}
		}
	}
	if checked < 500 {
		t.Error("only few", checked)
	}
}

// All short lists of loose numbers: just those that are congruences have a quotient.
func TestQuotientsByAllShortLists(t *testing.T) {
	for _, a := range []impl.Algebra{bare(3), lesser(3), sums(2), constantsAlone(3, 2), with(bare(1), 2, 0), opOf(3, 3, func(x []int) int { return x[0] / 2 })} {
		all := congruencesByRule(a)
		for n := range 5 {
			for _, l := range looseLists(3, n) {
				if !isIn(all, l) {
					checkNoCongruence(t, a, l)
				} else {
					checkQuotient(t, a, l)
				}
			}
		}
	}
}

// wrongLists returns lists that are no partition of eight numbers.
func wrongLists() [][]int {
	return [][]int{
		nil, {}, {0}, firstNumbers(7), firstNumbers(9), fullOf(7), fullOf(9), {0, 1, 2, 3, 4, 5, 6, 8}, {0, 1, 2, 3, 4, 5, 6, -1}, {0, 1, 2, 3, 4, 5, 6, math.MaxInt},
		{math.MinInt, 1, 2, 3, 4, 5, 6, 7}, {7, 7, 7, 7, 7, 7, 7, 7}, {1, 1, 2, 3, 4, 5, 6, 7}, {0, 0, 1, 2, 3, 4, 5, 6}, {0, 1, 2, 3, 4, 5, 7, 6}, {0, 64, 2, 3, 4, 5, 6, 7}, make([]int, 1<<20), firstNumbers(1 << 20),
	}
}

func TestQuotientsByListsThatAreNoPartitions(t *testing.T) {
	for _, a := range []impl.Algebra{bare(8), sums(8), constantsAlone(8, 1), lesser(8)} {
		for _, l := range wrongLists() {
			checkNoCongruence(t, a, l)
		}
	}
}

func TestQuotientsOfInvalidAlgebras(t *testing.T) {
	for _, a := range invalidAlgebras() {
		for _, p := range [][]int{nil, {}, {0}, {0, 1}, {0, 0}, {1, 0}, {-1}, firstNumbers(8), fullOf(8), firstNumbers(9)} {
			checkNoCongruence(t, a, p)
			for _, sub := range [][]int{nil, {}, {0}, {-1}, {0, 1}, {a.Size}, firstNumbers(8)} {
				checkNoSub(t, a, sub, p)
			}
		}
		checkNoSeries(t, a)
	}
}

// checkNoSeries calls the functions of an Algebra alone where they have to fail.
func checkNoSeries(t *testing.T, a impl.Algebra) {
	t.Helper()
	s, one := impl.FirstSeries(a)
	w, two := impl.SeriesWidths(a)
	is, three := impl.IsUniform(a)
	if one || two || three || is || len(s)+len(w) != 0 {
		t.Errorf("series of %.200s: %v %v %v %v %v %v", fmt.Sprint(a), s, one, w, two, is, three)
	}
}

func TestCasesOfQuotients(t *testing.T) {
	even := []int{0, 1, 0, 1}
	second := func(x []int) int { return x[1] }
	lessEqual := opOf(4, 2, func(x []int) int { return max(0, x[0]-x[1]) })
	cases := []struct {
		a    impl.Algebra
		p    []int
		want impl.Algebra
	}{
		// By the identity, each element is a block.
		{sums(5), firstNumbers(5), sums(5)}, {unevenOf(8, 0, 1, 2, 3), firstNumbers(8), unevenOf(8, 0, 1, 2, 3)}, {unevenOf(3, 3, 3, 3, 3), firstNumbers(3), unevenOf(3, 3, 3, 3, 3)}, {bare(8), firstNumbers(8), bare(8)}, {constantsAlone(4, 3, 0), firstNumbers(4), constantsAlone(4, 3, 0)},
		// By the full partition there is one.
		{sums(5), fullOf(5), sums(1)}, {unevenOf(8, 0, 1, 2, 3), fullOf(8), unevenOf(1, 0, 1, 2, 3)}, {unevenOf(3, 3, 3, 3, 3), fullOf(3), unevenOf(1, 3, 3, 3, 3)}, {bare(8), fullOf(8), bare(1)}, {constantsAlone(4, 3, 0), fullOf(4), constantsAlone(1, 0, 0)},
		// Of a single element.
		{bare(1), []int{0}, bare(1)}, {constantsAlone(1, 0), []int{0}, constantsAlone(1, 0)}, {unevenOf(1, 3, 0, 2), []int{0}, unevenOf(1, 3, 0, 2)},
		// With constants alone, and without operations.
		{constantsAlone(8, 5, 2, 7, 0), []int{0, 0, 2, 0, 4, 2, 4, 0}, constantsAlone(3, 1, 1, 0, 0)}, {constantsAlone(5, 4), []int{0, 1, 1, 0, 4}, constantsAlone(3, 2)}, {bare(8), []int{0, 0, 2, 0, 4, 2, 4, 0}, bare(3)}, {bare(5), []int{0, 1, 2, 3, 3}, bare(4)},
		{sums(4), even, sums(2)}, {sums(6), []int{0, 1, 2, 0, 1, 2}, sums(3)}, {sums(6), []int{0, 1, 0, 1, 0, 1}, sums(2)}, {cosets(8), []int{0, 1, 2, 3, 0, 1, 2, 3}, cosets(4)}, {successors(6), []int{0, 1, 0, 1, 0, 1}, successors(2)},
		{tower(6), []int{0, 1, 1, 1, 4, 4}, tower(3)}, {pentagon(), []int{0, 1, 1, 3, 4}, latticeOf(0, 1, 2, 3)}, {pentagon(), []int{0, 0, 0, 3, 3}, tower(2)}, {pentagon(), []int{0, 1, 1, 0, 1}, tower(2)}, {cube(), []int{0, 1, 2, 3, 0, 1, 2, 3}, latticeOf(0, 1, 2, 3)},
		{opOf(4, 2, second), []int{0, 0, 2, 2}, opOf(2, 2, second)}, {opOf(6, 3, second), []int{0, 1, 0, 0, 4, 1}, opOf(3, 3, second)},
		// Blocks between the elements of others, and several operations.
		{unaries(5, []int{1, 0, 3, 4, 2}), []int{0, 0, 2, 2, 2}, unaries(2, []int{0, 1})}, {unaries(5, []int{1, 0, 3, 4, 2}), []int{0, 0, 2, 3, 4}, unaries(4, []int{0, 2, 3, 1})}, {unaries(6, []int{1, 2, 0, 4, 5, 3}, []int{3, 4, 5, 3, 4, 5}), []int{0, 1, 2, 0, 1, 2}, unaries(3, []int{1, 2, 0}, []int{0, 1, 2})},
		{with(with(sums(4), 0, 3), 1, 1, 2, 3, 0), even, with(with(sums(2), 0, 1), 1, 1, 0)},
	}
	for _, c := range cases {
		if b, ok := impl.QuotientAlgebra(c.a, c.p); !ok || !sameAlgebra(b, c.want) {
			t.Error("quotient of", c.a, "by", c.p, b, ok, "not", c.want)
		}
		checkQuotient(t, c.a, c.p)
	}
	// Partitions that are no congruences, and lists that are no partitions.
	none := []struct {
		a impl.Algebra
		p []int
	}{
		{sums(4), []int{0, 0, 2, 2}}, {sums(4), []int{0, 1, 1, 0}}, {sums(4), []int{0, 1, 2, 0}}, {sums(4), []int{0, 1, 1, 1}}, {sums(5), []int{0, 0, 0, 0, 4}}, {lessEqual, []int{0, 1, 1, 0}}, {pentagon(), []int{0, 1, 1, 1, 4}}, {diamond(), []int{0, 1, 1, 3, 4}}, {successors(4), []int{0, 0, 2, 3}},
		{sums(4), []int{1, 0, 1, 0}}, {sums(4), []int{0, 3, 0, 3}}, {sums(4), []int{2, 1, 2, 1}}, {sums(4), []int{0, 1, 0}}, {sums(4), []int{0, 1, 0, 1, 0}}, {sums(4), nil}, {bare(4), []int{0, 0, 1, 1}}, {bare(1), nil}, {bare(1), []int{1}}, {bare(1), []int{-1}}, {constantsAlone(2, 1), []int{1, 1}},
	}
	for _, c := range none {
		checkNoCongruence(t, c.a, c.p)
	}
}

func TestCasesOfNaturalMaps(t *testing.T) {
	cases := []struct {
		a       impl.Algebra
		p, want []int
	}{
		{bare(1), []int{0}, []int{0}}, {sums(4), firstNumbers(4), firstNumbers(4)}, {bare(8), firstNumbers(8), firstNumbers(8)}, {sums(4), fullOf(4), fullOf(4)}, {bare(8), fullOf(8), fullOf(8)}, {sums(4), []int{0, 1, 0, 1}, []int{0, 1, 0, 1}},
		// Blocks of one element beside larger ones.
		{bare(8), []int{0, 1, 0, 3, 1, 5, 0, 7}, []int{0, 1, 0, 2, 1, 3, 0, 4}}, {bare(8), []int{0, 0, 0, 0, 0, 0, 0, 7}, []int{0, 0, 0, 0, 0, 0, 0, 1}}, {bare(8), []int{0, 1, 1, 1, 1, 1, 1, 1}, []int{0, 1, 1, 1, 1, 1, 1, 1}}, {bare(8), []int{0, 1, 2, 3, 4, 5, 6, 0}, []int{0, 1, 2, 3, 4, 5, 6, 0}},
		{lesser(5), []int{0, 0, 2, 3, 3}, []int{0, 0, 1, 2, 2}}, {tower(8), []int{0, 1, 2, 2, 2, 5, 6, 6}, []int{0, 1, 2, 2, 2, 3, 4, 4}}, {pentagon(), []int{0, 1, 1, 3, 4}, []int{0, 1, 1, 2, 3}}, {pentagon(), []int{0, 0, 0, 3, 3}, []int{0, 0, 0, 1, 1}}, {unaries(5, []int{1, 0, 3, 4, 2}), []int{0, 0, 2, 3, 4}, []int{0, 0, 1, 2, 3}},
	}
	for _, c := range cases {
		if m, ok := impl.NaturalMap(c.a, c.p); !ok || !slices.Equal(m, c.want) {
			t.Error("natural map of", c.p, "in", c.a, m, ok, "not", c.want)
		}
	}
}

func TestPartitionOfMap(t *testing.T) {
	least, greatest := math.MinInt, math.MaxInt
	cases := []struct {
		n            int
		values, want []int
	}{
		{1, []int{0}, []int{0}}, {1, []int{greatest}, []int{0}}, {1, []int{least}, []int{0}}, {1, []int{-1}, []int{0}}, {4, []int{5, -1, 5, 0}, []int{0, 1, 0, 3}}, {2, []int{least, greatest}, []int{0, 1}}, {3, []int{greatest, least, greatest}, []int{0, 1, 0}},
		{8, []int{7, 7, 7, 7, 7, 7, 7, 7}, fullOf(8)}, {8, []int{8, 7, 6, 5, 4, 3, 2, 1}, firstNumbers(8)}, {8, []int{least, 0, greatest, -1, 0, greatest, least, 1}, []int{0, 1, 2, 3, 1, 2, 0, 7}}, {8, []int{1 << 40, 1 << 8, 0, 1 << 32, 1 << 8, 64, 0, 1 << 40}, []int{0, 1, 2, 3, 1, 5, 2, 0}},
		// A value that is a place of another one, and one next to another one.
		{4, []int{3, 2, 1, 0}, firstNumbers(4)}, {4, []int{1, 1, 0, 0}, []int{0, 0, 2, 2}}, {4, []int{greatest, greatest - 1, least, least + 1}, firstNumbers(4)}, {3, []int{-2, 2, -2}, []int{0, 1, 0}},
	}
	for _, c := range cases {
		if p, ok := impl.PartitionOfMap(c.n, c.values); !ok || !slices.Equal(p, c.want) {
			t.Error("partition of", c.values, p, ok, "not", c.want)
		}
	}
	for n := 1; n <= 6; n++ {
		for _, values := range argsOf(3, n) {
			if p, ok := impl.PartitionOfMap(n, values); !ok || !slices.Equal(p, blocksOfValues(values)) {
				t.Fatal("partition of", values, p, ok)
			}
		}
	}
	for n := 1; n <= 8; n++ {
		for _, p := range partitionsOf(n) {
			if q, ok := impl.PartitionOfMap(n, p); !ok || !slices.Equal(q, p) {
				t.Fatal("partition of", p, q, ok)
			}
		}
	}
	for _, n := range append(wrongCounts(), 1, 2, 7, 8) {
		for _, length := range []int{0, 1, 2, 6, 7, 8, 9, 10, 64, 1 << 16} {
			p, ok := impl.PartitionOfMap(n, make([]int, length))
			if ok != (n == length && n <= 8 && n >= 1) || !ok && len(p) != 0 {
				t.Error("partition of", length, "values for", n, p, ok)
			}
		}
		if p, ok := impl.PartitionOfMap(n, nil); ok || len(p) != 0 {
			t.Error("partition of nil for", n, p, ok)
		}
	}
}

func TestCasesOfLifts(t *testing.T) {
	halves, even := []int{0, 1, 2, 3, 0, 1, 2, 3}, []int{0, 1, 0, 1, 0, 1, 0, 1}
	some := []int{0, 0, 2, 2, 2, 5, 5, 7}
	cases := []struct {
		a          impl.Algebra
		p, q, want []int
	}{
		// The identity and the full partition of the quotient.
		{sums(8), halves, firstNumbers(4), halves}, {sums(8), halves, fullOf(4), fullOf(8)}, {sums(8), firstNumbers(8), firstNumbers(8), firstNumbers(8)}, {sums(8), firstNumbers(8), fullOf(8), fullOf(8)}, {sums(8), fullOf(8), []int{0}, fullOf(8)}, {bare(1), []int{0}, []int{0}, []int{0}}, {bare(8), some, firstNumbers(4), some},
		{sums(8), halves, []int{0, 1, 0, 1}, even}, {sums(8), firstNumbers(8), halves, halves}, {bare(8), some, []int{0, 1, 0, 3}, []int{0, 0, 2, 2, 2, 0, 0, 7}}, {bare(8), some, []int{0, 1, 2, 1}, []int{0, 0, 2, 2, 2, 5, 5, 2}}, {bare(8), some, []int{0, 1, 1, 1}, []int{0, 0, 2, 2, 2, 2, 2, 2}},
		// Blocks between the elements of others.
		{bare(8), []int{0, 1, 2, 1, 0, 2, 6, 1}, []int{0, 1, 1, 0}, []int{0, 1, 1, 1, 0, 1, 0, 1}}, {bare(8), []int{0, 1, 2, 1, 0, 2, 6, 1}, []int{0, 1, 2, 2}, []int{0, 1, 2, 1, 0, 2, 2, 1}}, {pentagon(), []int{0, 1, 1, 3, 4}, []int{0, 0, 2, 2}, []int{0, 0, 0, 3, 3}},
	}
	for _, c := range cases {
		if l, ok := impl.LiftCongruence(c.a, c.p, c.q); !ok || !slices.Equal(l, c.want) {
			t.Error("lift of", c.q, "by", c.p, "in", c.a, l, ok, "not", c.want)
		}
		if r, ok := impl.PushCongruence(c.a, c.p, c.want); !ok || !slices.Equal(r, c.q) {
			t.Error("pushed", c.want, "by", c.p, "in", c.a, r, ok, "not", c.q)
		}
	}
	// Lists whose length is that of the Algebra, and other ones that are no congruences of the quotient.
	for _, q := range [][]int{nil, {}, {0}, {0, 1, 2}, {0, 1, 2, 3, 4}, fullOf(3), fullOf(5), fullOf(8), halves, even, firstNumbers(8), {0, 0, 2, 2}, {0, 1, 1, 0}, {0, 1, 1, 3}, {0, 0, 0, 3}, {1, 1, 2, 3}, {2, 1, 2, 1}, {0, 3, 0, 3}, {0, 1, 0, 4}, {0, 1, 0, -1}, {0, 1, 0, math.MaxInt}, {math.MinInt, 1, 0, 1}, make([]int, 1<<20)} {
		if l, ok := impl.LiftCongruence(sums(8), halves, q); ok || len(l) != 0 {
			t.Errorf("lift of %.60s: %v, %v", fmt.Sprint(q), l, ok)
		}
	}
	for _, q := range [][]int{nil, {0, 0}, {1}, {-1}, fullOf(8), firstNumbers(8)} {
		if l, ok := impl.LiftCongruence(sums(8), fullOf(8), q); ok || len(l) != 0 {
			t.Error("lift of", q, "by the full partition", l, ok)
		}
	}
}

func TestCasesOfPushes(t *testing.T) {
	halves, even := []int{0, 1, 2, 3, 0, 1, 2, 3}, []int{0, 1, 0, 1, 0, 1, 0, 1}
	some := []int{0, 1, 2, 1, 0, 2, 6, 1}
	cases := []struct {
		a                     impl.Algebra
		p, q, pushed, coarser []int
	}{
		// The same one twice, and the full partition.
		{sums(8), halves, halves, firstNumbers(4), firstNumbers(4)}, {bare(8), some, some, firstNumbers(4), firstNumbers(4)}, {sums(8), fullOf(8), fullOf(8), []int{0}, []int{0}}, {sums(8), firstNumbers(8), firstNumbers(8), firstNumbers(8), firstNumbers(8)}, {bare(1), []int{0}, []int{0}, []int{0}, []int{0}},
		{sums(8), halves, fullOf(8), fullOf(4), fullOf(4)}, {sums(8), firstNumbers(8), fullOf(8), fullOf(8), fullOf(8)}, {bare(8), some, fullOf(8), fullOf(4), fullOf(4)},
		{sums(8), halves, even, []int{0, 1, 0, 1}, []int{0, 1, 0, 1}}, {sums(8), firstNumbers(8), halves, halves, halves}, {bare(8), some, []int{0, 1, 1, 1, 0, 1, 0, 1}, []int{0, 1, 1, 0}, []int{0, 1, 1, 0}}, {bare(8), some, []int{0, 1, 2, 1, 0, 2, 2, 1}, []int{0, 1, 2, 2}, []int{0, 1, 2, 2}},
		// The numbers of blocks are not their least elements.
		{bare(8), []int{0, 0, 2, 3, 3, 5, 6, 5}, []int{0, 0, 2, 3, 3, 2, 6, 2}, []int{0, 1, 2, 1, 4}, []int{0, 1, 2, 1, 3}}, {bare(8), []int{0, 0, 0, 3, 4, 5, 6, 7}, []int{0, 0, 0, 0, 4, 5, 5, 4}, []int{0, 0, 2, 3, 3, 2}, []int{0, 0, 1, 2, 2, 1}}, {pentagon(), []int{0, 1, 1, 3, 4}, []int{0, 0, 0, 3, 3}, []int{0, 0, 2, 2}, []int{0, 0, 1, 1}},
		// p is not finer than q.
		{sums(8), even, halves, nil, nil}, {sums(8), fullOf(8), firstNumbers(8), nil, nil}, {sums(8), halves, firstNumbers(8), nil, nil}, {sums(6), []int{0, 1, 0, 1, 0, 1}, []int{0, 1, 2, 0, 1, 2}, nil, nil}, {sums(6), []int{0, 1, 2, 0, 1, 2}, []int{0, 1, 0, 1, 0, 1}, nil, nil}, {bare(4), []int{0, 0, 2, 3}, []int{0, 1, 2, 2}, nil, nil}, {bare(4), []int{0, 1, 1, 1}, []int{0, 1, 1, 3}, nil, nil},
		// One of them is no congruence, and lists that are no partitions or of the quotient.
		{sums(8), []int{0, 0, 2, 2, 4, 4, 6, 6}, fullOf(8), nil, nil}, {sums(8), firstNumbers(8), []int{0, 0, 2, 2, 4, 4, 6, 6}, nil, nil}, {sums(8), []int{0, 0, 2, 2, 4, 4, 6, 6}, []int{0, 0, 2, 2, 4, 4, 6, 6}, nil, nil}, {sums(8), halves, firstNumbers(4), nil, nil}, {sums(8), halves, nil, nil, nil}, {sums(8), nil, halves, nil, nil}, {sums(8), halves, []int{0, 1, 0, 1}, nil, nil}, {sums(8), halves, append(slices.Clone(even), 0), nil, nil},
	}
	for _, c := range cases {
		l, one := impl.PushCongruence(c.a, c.p, c.q)
		m, two := impl.CoarserMap(c.a, c.p, c.q)
		if one != (c.pushed != nil) || two != one || !slices.Equal(l, c.pushed) || !slices.Equal(m, c.coarser) {
			t.Error("from", c.p, "to", c.q, "in", c.a, l, one, m, two)
		}
	}
}

func TestCasesOfCongruencesAbove(t *testing.T) {
	odd, even := []int{0, 1, 2, 0, 1, 2}, []int{0, 1, 0, 1, 0, 1}
	cases := []struct {
		a    impl.Algebra
		p    []int
		want [][]int
	}{
		{bare(1), []int{0}, [][]int{{0}}}, {sums(6), firstNumbers(6), [][]int{firstNumbers(6), odd, even, fullOf(6)}}, {sums(6), odd, [][]int{odd, fullOf(6)}}, {sums(6), even, [][]int{even, fullOf(6)}}, {sums(6), fullOf(6), [][]int{fullOf(6)}}, {diamond(), fullOf(5), [][]int{fullOf(5)}}, {diamond(), firstNumbers(5), [][]int{firstNumbers(5), fullOf(5)}},
		{bare(4), []int{0, 1, 1, 3}, [][]int{{0, 1, 1, 3}, {0, 0, 0, 3}, {0, 1, 1, 0}, {0, 1, 1, 1}, fullOf(4)}}, {bare(4), []int{0, 1, 1, 0}, [][]int{{0, 1, 1, 0}, fullOf(4)}}, {pentagon(), []int{0, 1, 1, 3, 4}, [][]int{{0, 1, 1, 3, 4}, {0, 0, 0, 3, 3}, {0, 1, 1, 0, 1}, fullOf(5)}},
	}
	for _, c := range cases {
		if l, ok := impl.CongruencesAbove(c.a, c.p); !ok || !sameLists(l, c.want) {
			t.Error("above", c.p, "in", c.a, l, ok, "not", c.want)
		}
	}
}

// Just MaxCongruences congruences, and one more: then it does not help that only few are above.
func TestNumbersOfCongruencesAbove(t *testing.T) {
	for _, a := range []impl.Algebra{just200(), bare(5), unaries(8, []int{0, 1, 0, 3, 3, 1, 1, 7}, []int{0, 1, 3, 1, 1, 1, 1, 7})} {
		all := congruencesByRule(a)
		if l, ok := impl.CongruencesAbove(a, firstNumbers(a.Size)); !ok || !sameLists(l, all) {
			t.Error("above the identity of", a, len(l), ok, "not", len(all))
		}
		if l, ok := impl.CongruencesAbove(a, fullOf(a.Size)); !ok || !sameLists(l, [][]int{fullOf(a.Size)}) {
			t.Error("above the full one of", a, l, ok)
		}
		checkSeries(t, a, all)
	}
	for _, a := range []impl.Algebra{one201(), unaries(8, []int{0, 1, 6, 6, 6, 1, 2, 0}), bare(6), bare(8), constantsAlone(6, 1, 5), unaries(8, fullOf(8))} {
		for _, p := range someOf(congruencesByRule(a), 9) {
			if l, ok := impl.CongruencesAbove(a, p); ok || len(l) != 0 {
				t.Error("above", p, "in", a, len(l), ok)
			}
		}
		checkNoSeries(t, a)
		// The other functions do not need all congruences.
		checkQuotient(t, a, fullOf(a.Size))
		checkCoarser(t, a, firstNumbers(a.Size), fullOf(a.Size))
		checkSubs(t, a, firstNumbers(a.Size), fullOf(a.Size))
		if l, ok := impl.BlockSubs(a, fullOf(a.Size)); !ok || !sameLists(l, [][]int{firstNumbers(a.Size)}) {
			t.Error("blocks of the full one of", a, l, ok)
		}
	}
}

func TestCasesOfRestrictions(t *testing.T) {
	halves, even := []int{0, 1, 2, 3, 0, 1, 2, 3}, []int{0, 1, 0, 1, 0, 1, 0, 1}
	some := []int{0, 0, 2, 3, 3, 5, 6, 6}
	cases := []struct {
		a            impl.Algebra
		sub, p, want []int
	}{
		// To a single element, and to all.
		{sums(8), []int{0}, halves, []int{0}}, {bare(8), []int{7}, some, []int{0}}, {bare(1), []int{0}, []int{0}, []int{0}}, {sums(8), firstNumbers(8), halves, halves}, {bare(8), firstNumbers(8), some, some}, {sums(8), firstNumbers(8), fullOf(8), fullOf(8)},
		{sums(8), []int{0, 2, 4, 6}, halves, []int{0, 1, 0, 1}}, {sums(8), []int{0, 2, 4, 6}, even, fullOf(4)}, {sums(8), []int{0, 4}, halves, []int{0, 0}}, {sums(8), []int{0, 2, 4, 6}, firstNumbers(8), firstNumbers(4)},
		{bare(8), []int{1, 3, 6}, some, []int{0, 1, 2}}, {bare(8), []int{1, 3, 4, 7}, some, []int{0, 1, 1, 3}}, {bare(8), []int{4, 5, 6, 7}, some, []int{0, 1, 2, 2}}, {bare(8), []int{2, 4, 5, 7}, some, firstNumbers(4)}, {lesser(5), []int{1, 2, 4}, []int{0, 0, 2, 3, 3}, []int{0, 1, 2}}, {lesser(5), []int{0, 3, 4}, []int{0, 0, 2, 3, 3}, []int{0, 1, 1}},
		// To the empty one, to lists that are no subuniverses and to ones in another order.
		{sums(8), nil, halves, nil}, {bare(8), []int{}, some, nil}, {constantsAlone(8, 3), nil, some, nil}, {sums(8), []int{0, 2}, halves, nil}, {sums(8), []int{1}, halves, nil}, {sums(8), []int{4, 0}, halves, nil}, {sums(8), []int{0, 4, 2, 6}, halves, nil}, {bare(8), []int{7, 3}, some, nil}, {bare(8), []int{3, 3}, some, nil}, {sums(8), []int{0, 0}, halves, nil}, {constantsAlone(8, 3), []int{1, 2}, some, nil},
		{bare(8), []int{-1}, some, nil}, {bare(8), []int{8}, some, nil}, {bare(8), []int{0, 8}, some, nil}, {bare(8), []int{math.MinInt, 0}, some, nil}, {bare(8), []int{0, math.MaxInt}, some, nil}, {bare(8), []int{0, 64}, some, nil}, {bare(8), make([]int, 1<<20), some, nil},
		// By what is no congruence.
		{sums(8), []int{0, 4}, []int{0, 0, 2, 2, 4, 4, 6, 6}, nil}, {sums(8), []int{0, 4}, nil, nil}, {sums(8), []int{0, 4}, []int{0, 1}, nil}, {sums(8), []int{0, 4}, []int{4, 1, 2, 3, 4, 1, 2, 3}, nil},
	}
	for _, c := range cases {
		if r, ok := impl.RestrictCongruence(c.a, c.sub, c.p); ok != (c.want != nil) || !slices.Equal(r, c.want) {
			t.Errorf("restricted %v to %.60s in %v: %v, %v, not %v", c.p, fmt.Sprint(c.sub), c.a, r, ok, c.want)
		}
	}
}

func TestCasesOfSaturations(t *testing.T) {
	halves, even := []int{0, 1, 2, 3, 0, 1, 2, 3}, []int{0, 1, 0, 1, 0, 1, 0, 1}
	some := []int{0, 0, 2, 3, 3, 5, 6, 6}
	cases := []struct {
		a                   impl.Algebra
		sub, p, want, image []int
	}{
		// The empty subuniverse.
		{sums(8), nil, halves, nil, nil}, {sums(8), []int{}, fullOf(8), nil, nil}, {bare(8), nil, some, nil, nil}, {bare(8), nil, firstNumbers(8), nil, nil}, {bare(8), nil, fullOf(8), nil, nil}, {bare(1), nil, []int{0}, nil, nil},
		// By the identity and by the full partition.
		{sums(8), []int{0, 4}, firstNumbers(8), []int{0, 4}, []int{0, 4}}, {bare(8), []int{2, 3, 7}, firstNumbers(8), []int{2, 3, 7}, []int{2, 3, 7}}, {sums(8), []int{0}, fullOf(8), firstNumbers(8), []int{0}}, {bare(8), []int{7}, fullOf(8), firstNumbers(8), []int{0}}, {constantsAlone(8, 5), []int{5}, fullOf(8), firstNumbers(8), []int{0}}, {constantsAlone(8, 5), []int{5}, firstNumbers(8), []int{5}, []int{5}}, {bare(1), []int{0}, []int{0}, []int{0}, []int{0}},
		{sums(8), []int{0}, even, []int{0, 2, 4, 6}, []int{0}}, {sums(8), []int{0, 4}, even, []int{0, 2, 4, 6}, []int{0}}, {sums(8), []int{0, 4}, halves, []int{0, 4}, []int{0}}, {sums(8), []int{0, 2, 4, 6}, halves, []int{0, 2, 4, 6}, []int{0, 2}}, {sums(8), firstNumbers(8), halves, firstNumbers(8), firstNumbers(4)}, {sums(6), []int{0, 3}, []int{0, 1, 0, 1, 0, 1}, firstNumbers(6), []int{0, 1}}, {sums(6), []int{0, 2, 4}, []int{0, 1, 2, 0, 1, 2}, firstNumbers(6), []int{0, 1, 2}},
		{bare(8), []int{1, 3, 6}, some, []int{0, 1, 3, 4, 6, 7}, []int{0, 2, 4}}, {bare(8), []int{2, 5}, some, []int{2, 5}, []int{1, 3}}, {bare(8), []int{4, 7}, some, []int{3, 4, 6, 7}, []int{2, 4}}, {constantsAlone(8, 4, 6), []int{4, 6}, some, []int{3, 4, 6, 7}, []int{2, 4}}, {pentagon(), []int{0, 2, 4}, []int{0, 1, 1, 3, 4}, []int{0, 1, 2, 4}, []int{0, 1, 3}},
	}
	for _, c := range cases {
		s, one := impl.SaturateSub(c.a, c.sub, c.p)
		l, two := impl.ImageSub(c.a, c.sub, c.p)
		if !one || !two || !slices.Equal(s, c.want) || !slices.Equal(l, c.image) {
			t.Error("saturation and image of", c.sub, "by", c.p, "in", c.a, s, one, l, two)
		}
		checkSubs(t, c.a, c.sub, c.p)
	}
	// Lists that are no subuniverses: with constants the empty one is none, either.
	for _, a := range []impl.Algebra{constantsAlone(8, 0), constantsAlone(8, 4, 6), with(sums(8), 0, 0), with(sums(8), 0, 3)} {
		for _, p := range [][]int{firstNumbers(8), fullOf(8)} {
			checkNoSub(t, a, nil, p)
			checkNoSub(t, a, []int{}, p)
			checkNoSub(t, a, []int{2}, p)
		}
	}
	for _, l := range [][]int{{0, 2}, {1}, {4, 0}, {0, 4, 4}, {0, 0}, {0, 4, 2, 6}, {0, 8}, {-1, 0}, {0, 64}, {math.MinInt}, {math.MaxInt}, append(firstNumbers(8), 8), append(firstNumbers(8), 7), slices.Repeat([]int{0}, 20), make([]int, 1<<20)} {
		checkNoSub(t, sums(8), l, halves)
		checkNoSub(t, sums(8), l, firstNumbers(8))
	}
}

func TestCasesOfBlockSubs(t *testing.T) {
	even := []int{0, 1, 0, 1}
	singles := func(n int) [][]int {
		var lists [][]int
		for x := range n {
			lists = append(lists, []int{x})
		}
		return lists
	}
	cases := []struct {
		a    impl.Algebra
		p    []int
		want [][]int
	}{
		// None, since an operation leads from each block to another one, or constants are in different ones.
		{successors(4), even, nil}, {successors(4), firstNumbers(4), nil}, {constantsAlone(4, 0, 1), even, nil}, {constantsAlone(4, 3, 2), firstNumbers(4), nil}, {unaries(4, []int{1, 0, 3, 2}), []int{0, 1, 0, 1}, nil},
		// All.
		{lesser(4), []int{0, 0, 2, 2}, [][]int{{0, 1}, {2, 3}}}, {cosets(4), even, [][]int{{0, 2}, {1, 3}}}, {bare(8), []int{0, 1, 0, 3, 1, 5, 0, 7}, [][]int{{0, 2, 6}, {1, 4}, {3}, {5}, {7}}}, {bare(1), []int{0}, [][]int{{0}}}, {constantsAlone(1, 0), []int{0}, [][]int{{0}}}, {successors(4), fullOf(4), [][]int{firstNumbers(4)}}, {unevenOf(8, 3, 2, 1, 0), fullOf(8), [][]int{firstNumbers(8)}}, {pentagon(), []int{0, 1, 1, 3, 4}, [][]int{{0}, {1, 2}, {3}, {4}}},
		// Of one element each.
		{tower(4), firstNumbers(4), singles(4)}, {bare(8), firstNumbers(8), singles(8)}, {sums(4), firstNumbers(4), [][]int{{0}}}, {constantsAlone(4, 2), firstNumbers(4), [][]int{{2}}}, {unaries(3, []int{0, 2, 1}), firstNumbers(3), [][]int{{0}}}, {opOf(4, 2, func(x []int) int { return x[0] * x[1] % 4 }), firstNumbers(4), [][]int{{0}, {1}}},
		{sums(4), even, [][]int{{0, 2}}}, {constantsAlone(4, 1), []int{0, 0, 2, 2}, [][]int{{0, 1}}}, {constantsAlone(4, 2, 3), []int{0, 0, 2, 2}, [][]int{{2, 3}}}, {unaries(3, []int{0, 2, 1}), []int{0, 1, 1}, [][]int{{0}, {1, 2}}}, {unaries(5, []int{1, 0, 3, 4, 2}), []int{0, 0, 2, 3, 4}, [][]int{{0, 1}}}, {unaries(5, []int{1, 0, 3, 4, 2}), []int{0, 1, 2, 2, 2}, [][]int{{2, 3, 4}}}, {unaries(4, []int{2, 3, 2, 3}), []int{0, 1, 0, 1}, [][]int{{0, 2}, {1, 3}}}, {unaries(4, []int{2, 2, 2, 2}), []int{0, 1, 2, 1}, [][]int{{2}}},
	}
	for _, c := range cases {
		if l, ok := impl.BlockSubs(c.a, c.p); !ok || !sameLists(l, c.want) {
			t.Error("blocks of", c.p, "in", c.a, l, ok, "not", c.want)
		}
	}
}

// seriesByRule goes on, again and again, to the first congruence that covers the one before.
func seriesByRule(all [][]int, n int) [][]int {
	series := [][]int{firstNumbers(n)}
	for {
		covers := coversByRule(all, series[len(series)-1])
		if len(covers) == 0 {
			return series
		}
		series = append(series, covers[0])
	}
}

// widthsByRule counts the least elements of blocks of one congruence in the blocks of the next one.
func widthsByRule(series [][]int) []int {
	var widths []int
	for i := range len(series) - 1 {
		width := 0
		for _, block := range blocksByRule(series[i+1]) {
			inside := slices.DeleteFunc(slices.Clone(block), func(x int) bool { return series[i][x] != x })
			width = max(width, len(inside))
		}
		widths = append(widths, width)
	}
	return widths
}

func uniformByRule(all [][]int) bool {
	return !slices.ContainsFunc(all, func(p []int) bool {
		blocks := blocksByRule(p)
		return slices.ContainsFunc(blocks, func(b []int) bool { return len(b) != len(blocks[0]) })
	})
}

// checkSeries compares what is said of an Algebra with all these congruences.
func checkSeries(t *testing.T, a impl.Algebra, all [][]int) {
	t.Helper()
	series := seriesByRule(all, a.Size)
	if !slices.Equal(series[len(series)-1], fullOf(a.Size)) {
		t.Fatal("the rule is wrong for", a, series)
	}
	if s, ok := impl.FirstSeries(a); !ok || !sameLists(s, series) {
		t.Fatal("series of", a, s, ok, "not", series)
	}
	if w, ok := impl.SeriesWidths(a); !ok || !slices.Equal(w, widthsByRule(series)) {
		t.Fatal("widths of", a, w, ok, "not", widthsByRule(series))
	}
	if is, ok := impl.IsUniform(a); !ok || is != uniformByRule(all) {
		t.Fatal("uniform", a, is, ok)
	}
}

func TestSeries(t *testing.T) {
	t.Parallel()
	uniform, uneven, unlike := 0, 0, 0
	for _, a := range quotientAlgebras() {
		all := congruencesByRule(a)
		if len(all) > 200 {
			checkNoSeries(t, a)
			continue
		}
		checkSeries(t, a, all)
		series := seriesByRule(all, a.Size)
		for i := range len(series) - 1 {
			if isUnlike(series[i], series[i+1]) {
				unlike++
			}
		}
		if uniformByRule(all) {
			uniform++
		} else {
			uneven++
		}
	}
	if uniform < 50 || uneven < 50 || unlike < 5 {
		t.Error("only few", uniform, uneven, unlike)
	}
}

// isUnlike reports whether the blocks of q have different numbers, greater than 1, of blocks of p,
// and not the first one of these the most.
func isUnlike(p, q []int) bool {
	var counts []int
	for _, block := range blocksByRule(q) {
		inside := slices.DeleteFunc(slices.Clone(block), func(x int) bool { return p[x] != x })
		if len(inside) > 1 {
			counts = append(counts, len(inside))
		}
	}
	return len(counts) > 0 && slices.Max(counts) > counts[0]
}

func TestCasesOfSeries(t *testing.T) {
	id, unlike := firstNumbers, unlikeAlgebras()
	cases := []struct {
		a      impl.Algebra
		series [][]int
		widths []int
		is     bool
	}{
		// Of a single element: the identity is full.
		{bare(1), [][]int{{0}}, nil, true}, {constantsAlone(1, 0), [][]int{{0}}, nil, true}, {unevenOf(1, 3, 2, 1, 0), [][]int{{0}}, nil, true},
		// Of just two congruences.
		{bare(2), [][]int{{0, 1}, {0, 0}}, []int{2}, true}, {constantsAlone(2, 1), [][]int{{0, 1}, {0, 0}}, []int{2}, true}, {sums(3), [][]int{id(3), fullOf(3)}, []int{3}, true}, {sums(7), [][]int{id(7), fullOf(7)}, []int{7}, true}, {diamond(), [][]int{id(5), fullOf(5)}, []int{5}, true}, {successors(5), [][]int{id(5), fullOf(5)}, []int{5}, true},
		{sums(4), [][]int{id(4), {0, 1, 0, 1}, fullOf(4)}, []int{2, 2}, true}, {sums(6), [][]int{id(6), {0, 1, 2, 0, 1, 2}, fullOf(6)}, []int{2, 3}, true}, {sums(8), [][]int{id(8), {0, 1, 2, 3, 0, 1, 2, 3}, {0, 1, 0, 1, 0, 1, 0, 1}, fullOf(8)}, []int{2, 2, 2}, true}, {cosets(6), [][]int{id(6), {0, 1, 2, 0, 1, 2}, fullOf(6)}, []int{2, 3}, true},
		{opOf(4, 2, func(x []int) int { return x[0] ^ x[1] }), [][]int{id(4), {0, 0, 2, 2}, fullOf(4)}, []int{2, 2}, true}, {opOf(8, 2, func(x []int) int { return x[0] ^ x[1] }), [][]int{id(8), {0, 0, 2, 2, 4, 4, 6, 6}, {0, 0, 0, 0, 4, 4, 4, 4}, fullOf(8)}, []int{2, 2, 2}, true},
		// Blocks of different sizes, of many congruences and of a single one, the first or the last ones.
		{bare(3), [][]int{id(3), {0, 0, 2}, fullOf(3)}, []int{2, 2}, false}, {bare(5), [][]int{id(5), {0, 0, 2, 3, 4}, {0, 0, 0, 3, 4}, {0, 0, 0, 0, 4}, fullOf(5)}, []int{2, 2, 2, 2}, false}, {tower(4), [][]int{id(4), {0, 0, 2, 3}, {0, 0, 0, 3}, fullOf(4)}, []int{2, 2, 2}, false},
		{unaries(3, []int{0, 0, 1}), [][]int{id(3), {0, 0, 2}, fullOf(3)}, []int{2, 2}, false}, {unaries(3, []int{1, 2, 2}), [][]int{id(3), {0, 1, 1}, fullOf(3)}, []int{2, 2}, false}, {unaries(4, []int{1, 0, 3, 2}), [][]int{id(4), {0, 0, 2, 3}, {0, 0, 2, 2}, fullOf(4)}, []int{2, 2, 2}, false},
		{pentagon(), [][]int{id(5), {0, 1, 1, 3, 4}, {0, 0, 0, 3, 3}, fullOf(5)}, []int{2, 2, 2}, false}, {unaries(5, []int{1, 0, 3, 4, 2}), [][]int{id(5), {0, 0, 2, 3, 4}, {0, 0, 2, 2, 2}, fullOf(5)}, []int{2, 3, 2}, false}, {unlike[0], [][]int{id(5), {0, 0, 0, 3, 3}, fullOf(5)}, []int{3, 2}, false}, {unlike[1], [][]int{id(5), {0, 0, 2, 2, 2}, fullOf(5)}, []int{3, 2}, false}, {unlike[2], [][]int{id(5), {0, 1, 1, 1, 0}, fullOf(5)}, []int{3, 2}, false}, {unlike[4], [][]int{id(6), {0, 1, 2, 3, 4, 1}, {0, 1, 1, 1, 0, 1}, fullOf(6)}, []int{2, 3, 2}, false},
		{cube(), [][]int{id(8), {0, 0, 2, 2, 4, 4, 6, 6}, {0, 0, 0, 0, 4, 4, 4, 4}, fullOf(8)}, []int{2, 2, 2}, true},
	}
	for _, c := range cases {
		s, one := impl.FirstSeries(c.a)
		w, two := impl.SeriesWidths(c.a)
		is, three := impl.IsUniform(c.a)
		if !one || !two || !three || !sameLists(s, c.series) || !slices.Equal(w, c.widths) || is != c.is {
			t.Error("series of", c.a, s, one, w, two, is, three)
		}
	}
}

// quotientResults calls each function of the chapter. It returns the lists of each result, and a text
// of everything.
func quotientResults(a impl.Algebra, p, q, sub []int) ([][][]int, string) {
	var results [][][]int
	var others []any
	keep := func(l [][]int, ok bool) {
		results = append(results, l)
		others = append(others, ok)
	}
	keepOne := func(l []int, ok bool) { keep([][]int{l}, ok) }
	b, ok := impl.QuotientAlgebra(a, p)
	others = append(others, b.Size, len(b.Ops))
	var tables [][]int
	for _, f := range b.Ops {
		others = append(others, f.Arity)
		tables = append(tables, f.Table)
	}
	keep(tables, ok)
	keepOne(impl.NaturalMap(a, p))
	keepOne(impl.PartitionOfMap(len(q), q))
	keepOne(impl.LiftCongruence(a, p, q))
	keepOne(impl.PushCongruence(a, p, q))
	keep(impl.CongruencesAbove(a, p))
	keepOne(impl.CoarserMap(a, p, q))
	keepOne(impl.RestrictCongruence(a, sub, p))
	keepOne(impl.SaturateSub(a, sub, p))
	keep(impl.BlockSubs(a, p))
	keepOne(impl.ImageSub(a, sub, p))
	keep(impl.FirstSeries(a))
	keepOne(impl.SeriesWidths(a))
	is, ok := impl.IsUniform(a)
	others = append(others, is, ok)
	return results, fmt.Sprint(results, others)
}

func TestQuotientFunctionsLeaveTheirArguments(t *testing.T) {
	lists := [][]int{nil, firstNumbers(4), fullOf(4), {0, 1, 0, 1}, {0, 0, 2, 2}, {0, 0}, {0, 1}, {1, 1, 0, 0}, firstNumbers(8), make([]int, 21)}
	for _, a := range []impl.Algebra{bare(4), sums(4), lesser(4), cosets(4), successors(4), constantsAlone(4, 1, 3), tower(4), unevenOf(4, 3, 3, 3, 3), mixed(4, 1, 1, 0, 2, 3), bare(8), sums(8), {Size: 9}, {}} {
		for _, p := range lists {
			for i, q := range append(lists[:7:7], p) {
				a, p, q, sub := roomyAlgebra(a), roomy(p), roomy(q), roomy([][]int{{0, 2}, {0}, {}, firstNumbers(4), {1, 3}}[i%5])
				if i == 7 {
					// The same list as two arguments.
					q = p
				}
				before := allOfAlgebra(a, p, q, sub)
				results, first := quotientResults(a, p, q, sub)
				if _, second := quotientResults(a, p, q, sub); first != second {
					t.Fatal("another result", first, second)
				}
				for i, l := range results {
					if !areApart(l) {
						t.Fatal("the result", i, "shares memory with itself", a, p, q)
					}
				}
				for i := range results {
					for j := range results[i][:cap(results[i])] {
						results[i][:cap(results[i])][j] = []int{-9}
					}
				}
				if after := allOfAlgebra(a, p, q, sub); after != before {
					t.Fatal("changed", before, after)
				}
				if _, third := quotientResults(a, p, q, sub); third != first {
					t.Fatal("a result shares memory", a, p, q)
				}
			}
		}
	}
}

// The greatest Algebras are done in good time.
func TestLargeQuotients(t *testing.T) {
	halves := algebraOf(8, []int{3, 3, 3, 3}, func(op, at int) int { return (at%8 + op) / 2 % 8 })
	for _, a := range []impl.Algebra{unevenOf(8, 3, 3, 3, 3), mixed(8, 5, 3, 3, 3, 3), algebraOf(8, []int{3, 3, 3, 3}, func(op, at int) int { return max(at%8-1, 0) }), halves, cube(), just200()} {
		all := congruencesByRule(a)
		checkSeries(t, a, all)
		for _, p := range someOf(all, 9) {
			q, natural := checkQuotient(t, a, p)
			checkLifts(t, a, p, q, natural)
		}
	}
	last := algebraOf(8, []int{3, 3, 3, 3}, func(_, at int) int { return at % 8 })
	checkNoSeries(t, last)
	checkQuotient(t, last, []int{0, 0, 2, 3, 4, 4, 2, 0})
}
