package tests

import (
	"fmt"
	"math"
	"slices"
	"testing"

	"loop.example/g01078/impl"
)

// The signatures and limits of chapter 7 are promised to other packages.
var (
	_ func(impl.Algebra, impl.Algebra, []int) (bool, bool)                       = impl.IsHom
	_ func(impl.Algebra, impl.Algebra, []int) (int, []int, bool)                 = impl.HomFault
	_ func(impl.Algebra, impl.Algebra, []int) ([]int, bool)                      = impl.ClosePartial
	_ func(impl.Algebra, impl.Algebra) ([][]int, bool)                           = impl.AllHoms
	_ func(impl.Algebra, impl.Algebra) ([]int, bool)                             = impl.FirstEmbedding
	_ func(impl.Algebra, impl.Algebra) ([]int, bool)                             = impl.FirstOnto
	_ func(impl.Algebra, impl.Algebra) ([]int, bool)                             = impl.FirstIso
	_ func(impl.Algebra, impl.Algebra) (bool, bool)                              = impl.AreIsomorphic
	_ func(impl.Algebra) ([][]int, bool)                                         = impl.Endomorphisms
	_ func(impl.Algebra) ([][]int, bool)                                         = impl.Automorphisms
	_ func(impl.Algebra) ([][]int, bool)                                         = impl.AutomorphismOrbits
	_ func(impl.Algebra) ([][]int, bool)                                         = impl.Retractions
	_ func(impl.Algebra, impl.Algebra, impl.Algebra, []int, []int) ([]int, bool) = impl.ComposeHoms
	_ func(impl.Algebra, impl.Algebra, []int) ([]int, bool)                      = impl.InverseIso
	_ func(impl.Algebra, impl.Algebra, []int) ([]int, bool)                      = impl.KernelOf
	_ func(impl.Algebra, impl.Algebra, []int) ([]int, bool)                      = impl.ImageOf
)

func TestHomLimits(t *testing.T) {
	if impl.MaxHoms != 300 || impl.MaxMapTries != 5000 {
		t.Error("limits", impl.MaxHoms, impl.MaxMapTries)
	}
}

// eachArgs visits all lists of arguments that are members of a list, in lexicographic order of
// their places there.
func eachArgs(members []int, arity int, visit func(args []int)) {
	args := make([]int, arity)
	var fill func(i int)
	fill = func(i int) {
		if i == arity {
			visit(args)
			return
		}
		for _, x := range members {
			args[i] = x
			fill(i + 1)
		}
	}
	fill(0)
}

// valueFor returns the value of an operation for the images of arguments.
func valueFor(a impl.Algebra, op int, args []int, image func(x int) int) int {
	at := 0
	for _, x := range args {
		at = at*a.Size + image(x)
	}
	return a.Ops[op].Table[at]
}

// fact tells which image the value of an operation has to have.
type fact struct {
	op    int
	args  []int
	value int
	image int
}

// factsByRule returns what a partial map tells of all arguments that are not open, in the order of
// the operations and in lexicographic order of the arguments.
func factsByRule(a, b impl.Algebra, f []int) []fact {
	var known []int
	for x, y := range f {
		if y >= 0 {
			known = append(known, x)
		}
	}
	var facts []fact
	for k, g := range a.Ops {
		eachArgs(known, g.Arity, func(args []int) {
			value := valueFor(a, k, args, func(x int) int { return x })
			image := valueFor(b, k, args, func(x int) int { return f[x] })
			facts = append(facts, fact{k, slices.Clone(args), value, image})
		})
	}
	return facts
}

// faultByRule returns the first fact that a map does not obey.
func faultByRule(a, b impl.Algebra, f []int) (fact, bool) {
	for _, c := range factsByRule(a, b, f) {
		if f[c.value] != c.image {
			return c, true
		}
	}
	return fact{}, false
}

func homByRule(a, b impl.Algebra, f []int) bool {
	_, faulty := faultByRule(a, b, f)
	return !faulty
}

// closedByWords gives one image at a time, the last one first that there is to give.
func closedByWords(a, b impl.Algebra, f []int) ([]int, bool) {
	f = slices.Clone(f)
	for {
		next := -1
		facts := factsByRule(a, b, f)
		for i, c := range facts {
			if f[c.value] >= 0 && f[c.value] != c.image {
				return nil, false
			}
			if f[c.value] < 0 {
				next = i
			}
		}
		if next < 0 {
			return f, true
		}
		f[facts[next].value] = facts[next].image
	}
}

// closedByPairs is the same: the images are those in the subuniverse of the pairs of both Algebras
// that the images generate, and closing fails if that is no map.
func closedByPairs(a, b impl.Algebra, f []int) ([]int, bool) {
	f = slices.Clone(f)
	for {
		before := slices.Clone(f)
		var known []int
		for x, y := range f {
			if y >= 0 {
				known = append(known, x)
			}
		}
		clash := false
		for k, g := range a.Ops {
			eachArgs(known, g.Arity, func(args []int) {
				value := valueFor(a, k, args, func(x int) int { return x })
				image := valueFor(b, k, args, func(x int) int { return f[x] })
				clash = clash || f[value] >= 0 && f[value] != image
				f[value] = image
			})
			if clash {
				return nil, false
			}
		}
		if slices.Equal(f, before) {
			return f, true
		}
	}
}

// allMinusOne returns the partial map with all elements open.
func allMinusOne(n int) []int { return slices.Repeat([]int{-1}, n) }

// isInjective reports whether no two elements that are not open have the same image.
func isInjective(f []int) bool {
	for x, y := range f {
		if y >= 0 && slices.Contains(f[:x], y) {
			return false
		}
	}
	return true
}

func isSurjective(b impl.Algebra, f []int) bool { return hasAll(f, firstNumbers(b.Size)) }

// searchByRule keeps the partial maps that are still to be looked at in a pile, the next one on top.
// It returns what is found and the number of tries; the search ends when enough is found, and after
// some more tries than may be made.
func searchByRule(a, b impl.Algebra, embeddings bool, enough func(found [][]int) bool) ([][]int, int) {
	var found [][]int
	pile := [][]int{allMinusOne(a.Size)}
	tries := -1
	for len(pile) > 0 && tries <= 7500 {
		f, ok := closedByPairs(a, b, pile[len(pile)-1])
		pile = pile[:len(pile)-1]
		// What is on the pile at the beginning is no try.
		tries++
		if !ok || embeddings && !isInjective(f) {
			continue
		}
		x := slices.Index(f, -1)
		if x < 0 {
			found = append(found, f)
			if enough(found) {
				return found, tries
			}
			continue
		}
		for y := b.Size - 1; y >= 0; y-- {
			g := slices.Clone(f)
			g[x] = y
			pile = append(pile, g)
		}
	}
	return found, tries
}

func never([][]int) bool { return false }

// allByRule returns what AllHoms and the search for all embeddings have to return.
func allByRule(a, b impl.Algebra, embeddings bool) ([][]int, bool) {
	found, tries := searchByRule(a, b, embeddings, func(found [][]int) bool { return len(found) > 300 })
	if len(found) > 300 || tries > 5000 {
		return nil, false
	}
	return found, true
}

// firstByRule returns what FirstEmbedding and FirstOnto have to return, and whether the search did
// not fail.
func firstByRule(a, b impl.Algebra, embeddings bool, wanted func(f []int) bool) ([]int, bool, bool) {
	isLast := func(found [][]int) bool { return wanted(found[len(found)-1]) }
	found, tries := searchByRule(a, b, embeddings, isLast)
	if tries > 5000 {
		return nil, false, false
	}
	if len(found) == 0 || !isLast(found) {
		return nil, false, true
	}
	return found[len(found)-1], true, true
}

// homGroups returns lists of Algebras of the same type.
func homGroups() [][]impl.Algebra {
	groups := [][]impl.Algebra{
		{bare(1), bare(2), bare(3), bare(4), bare(5), bare(6), bare(8)},
		{constantsAlone(1, 0), constantsAlone(2, 0), constantsAlone(2, 1), constantsAlone(3, 1), constantsAlone(4, 3), constantsAlone(8, 5)},
		{constantsAlone(1, 0, 0), constantsAlone(2, 0, 0), constantsAlone(2, 0, 1), constantsAlone(2, 1, 0), constantsAlone(3, 0, 2), constantsAlone(3, 1, 1), constantsAlone(4, 3, 0), constantsAlone(4, 2, 2)},
		{unaries(4, []int{0, 0, 2, 2}, []int{1, 0, 3, 2}), unaries(3, []int{0, 1, 2}, []int{0, 0, 0}), unaries(2, []int{0, 0}, []int{1, 0}), unaries(1, []int{0}, []int{0}), mixed(5, 1, 1, 1), mixed(4, 2, 1, 1), mixed(7, 3, 1, 1), mixed(8, 6, 1, 1)},
		{tower(1), tower(2), tower(3), tower(4), tower(6), pentagon(), diamond(), latticeOf(0, 1, 2, 3), latticeOf(0, 1, 2, 3, 7), cube()},
		{unevenOf(1, 0, 1, 2, 3), unevenOf(2, 0, 1, 2, 3), unevenOf(3, 0, 1, 2, 3), unevenOf(5, 0, 1, 2, 3), mixed(4, 2, 0, 1, 2, 3), mixed(6, 3, 0, 1, 2, 3)},
		{mixed(3, 1, 2, 1, 0), mixed(4, 2, 2, 1, 0), mixed(1, 0, 2, 1, 0), mixed(2, 3, 2, 1, 0), mixed(2, 4, 2, 1, 0), mixed(5, 4, 2, 1, 0)},
		{unevenOf(2, 3, 3, 3, 3), unevenOf(3, 3, 3, 3, 3), mixed(3, 1, 3, 3, 3, 3), mixed(1, 1, 3, 3, 3, 3), mixed(4, 7, 3, 3, 3, 3)},
	}
	var ones, twos, threes []impl.Algebra
	for size := 1; size <= 6; size++ {
		ones = append(ones, successors(size), mixed(size, size, 1), opOf(size, 1, func(x []int) int { return x[0] / 2 }), opOf(size, 1, func(x []int) int { return min(x[0]+1, size-1) }))
		twos = append(twos, sums(size), lesser(size), mixed(size, size, 2), opOf(size, 2, func(x []int) int { return x[0] * x[1] % size }), opOf(size, 2, func(x []int) int { return x[0] }))
		threes = append(threes, cosets(size), mixed(size, size, 3), opOf(size, 3, func(x []int) int { return x[1] }))
	}
	ones = append(ones, unaries(8, []int{1, 2, 0, 4, 3, 6, 5, 7}), unaries(7, []int{6, 6, 6, 6, 6, 6, 5}))
	twos = append(twos, sums(8), opOf(4, 2, func(x []int) int { return x[0] ^ x[1] }), opOf(8, 2, func(x []int) int { return x[0] ^ x[1] }))
	return append(groups, ones, twos, threes)
}

// eachPair calls check with all pairs of Algebras of the same type.
func eachPair(check func(a, b impl.Algebra)) {
	for _, group := range homGroups() {
		for _, a := range group {
			for _, b := range group {
				check(a, b)
			}
		}
	}
}

// checkFirst compares the functions that return the first map with the rule.
func checkFirst(t *testing.T, a, b impl.Algebra) {
	t.Helper()
	emb, hasEmb, done := firstByRule(a, b, true, func([]int) bool { return true })
	if f, ok := impl.FirstEmbedding(a, b); ok != hasEmb || !slices.Equal(f, emb) {
		t.Fatal("first embedding", a, b, f, ok, "not", emb)
	}
	onto, hasOnto, _ := firstByRule(a, b, false, func(f []int) bool { return isSurjective(b, f) })
	if f, ok := impl.FirstOnto(a, b); ok != hasOnto || !slices.Equal(f, onto) {
		t.Fatal("first onto", a, b, f, ok, "not", onto)
	}
	if a.Size != b.Size {
		emb, hasEmb, done = nil, false, true
	}
	if f, ok := impl.FirstIso(a, b); ok != hasEmb || !slices.Equal(f, emb) {
		t.Fatal("first isomorphism", a, b, f, ok, "not", emb)
	}
	if is, ok := impl.AreIsomorphic(a, b); ok != done || is != hasEmb {
		t.Fatal("isomorphic", a, b, is, ok, "not", hasEmb, done)
	}
}

// checkSelf compares the functions of one Algebra with the rule.
func checkSelf(t *testing.T, a impl.Algebra) {
	t.Helper()
	ends, endsOk := allByRule(a, a, false)
	if l, ok := impl.Endomorphisms(a); ok != endsOk || !sameLists(l, ends) {
		t.Fatal("endomorphisms", a, l, ok, "not", ends, endsOk)
	}
	still := chosen(ends, func(f []int) bool {
		return !slices.ContainsFunc(f, func(y int) bool { return f[y] != y })
	})
	if l, ok := impl.Retractions(a); ok != endsOk || !sameLists(l, still) {
		t.Fatal("retractions", a, l, ok, "not", still)
	}
	autos, autosOk := allByRule(a, a, true)
	if l, ok := impl.Automorphisms(a); ok != autosOk || !sameLists(l, autos) {
		t.Fatal("automorphisms", a, l, ok, "not", autos, autosOk)
	}
	var orbits [][]int
	for x := range a.Size {
		var orbit []int
		for _, f := range autos {
			orbit = append(orbit, f[x])
		}
		slices.Sort(orbit)
		orbit = slices.Compact(orbit)
		if autosOk && !isIn(orbits, orbit) {
			orbits = append(orbits, orbit)
		}
	}
	slices.SortFunc(orbits, func(x, y []int) int { return x[0] - y[0] })
	if l, ok := impl.AutomorphismOrbits(a); ok != autosOk || !sameLists(l, orbits) {
		t.Fatal("orbits", a, l, ok, "not", orbits, autosOk)
	}
}

func TestSearches(t *testing.T) {
	eachPair(func(a, b impl.Algebra) {
		want, done := allByRule(a, b, false)
		if l, ok := impl.AllHoms(a, b); ok != done || !sameLists(l, want) {
			t.Fatal("homomorphisms", a, b, l, ok, "not", want, done)
		}
		checkFirst(t, a, b)
	})
	for _, group := range homGroups() {
		for _, a := range group {
			checkSelf(t, a)
		}
	}
}

// What is found is just what there is: all maps are tried.
func TestFoundAmongAllMaps(t *testing.T) {
	t.Parallel()
	pairs := 0
	eachPair(func(a, b impl.Algebra) {
		if power(b.Size, a.Size) > 3200 {
			return
		}
		pairs++
		homs := chosen(argsOf(b.Size, a.Size), func(f []int) bool { return homByRule(a, b, f) })
		if l, ok := impl.AllHoms(a, b); ok != (len(homs) <= 300) || ok && !sameLists(l, homs) {
			t.Fatal("homomorphisms", a, b, l, ok, "not", homs)
		}
		for i, wanted := range []func(f []int) bool{isInjective, func(f []int) bool { return isSurjective(b, f) }} {
			some := append(chosen(homs, wanted), nil)
			f, ok := []func(a, b impl.Algebra) ([]int, bool){impl.FirstEmbedding, impl.FirstOnto}[i](a, b)
			if ok != (len(some) > 1) || !slices.Equal(f, some[0]) {
				t.Fatal("first one", i, a, b, f, ok, "not", some[0])
			}
		}
		isos := append(chosen(homs, func(f []int) bool { return isInjective(f) && isSurjective(b, f) }), nil)
		f, one := impl.FirstIso(a, b)
		is, two := impl.AreIsomorphic(a, b)
		if !two || one != (len(isos) > 1) || is != one || !slices.Equal(f, isos[0]) {
			t.Fatal("isomorphism", a, b, f, one, is, two, "not", isos[0])
		}
	})
	if pairs < 300 {
		t.Error("only few pairs", pairs)
	}
}

// stillMap returns the map of an Algebra that takes each element to itself; the Algebra need not
// be valid.
func stillMap(a impl.Algebra) []int { return firstNumbers(min(max(a.Size, 0), 9)) }

// checkNoHom uses a list that is no homomorphism where one is asked for.
func checkNoHom(t *testing.T, a, b impl.Algebra, f []int) {
	t.Helper()
	i, one := impl.InverseIso(a, b, f)
	k, two := impl.KernelOf(a, b, f)
	l, three := impl.ImageOf(a, b, f)
	if one || two || three || len(i)+len(k)+len(l) != 0 {
		t.Errorf("no homomorphism %v %v %.60s: %v %v %v %v %v %v", a, b, fmt.Sprint(f), i, one, k, two, l, three)
	}
	g, one := impl.ComposeHoms(a, b, b, f, stillMap(b))
	h, two := impl.ComposeHoms(a, a, b, stillMap(a), f)
	if one || two || len(g)+len(h) != 0 {
		t.Errorf("no homomorphism composed %v %v %.60s: %v %v %v %v", a, b, fmt.Sprint(f), g, one, h, two)
	}
}

// checkNoMap uses a list that is no map where any numbers, a map or a homomorphism are asked for.
func checkNoMap(t *testing.T, a, b impl.Algebra, f []int) {
	t.Helper()
	if is, ok := impl.IsHom(a, b, f); is || !ok {
		t.Errorf("is %.60s from %v to %v a homomorphism: %v, %v", fmt.Sprint(f), a, b, is, ok)
	}
	if op, args, ok := impl.HomFault(a, b, f); ok || op != 0 || len(args) != 0 {
		t.Errorf("fault of %.60s from %v to %v: %v, %v, %v", fmt.Sprint(f), a, b, op, args, ok)
	}
	checkNoHom(t, a, b, f)
}

// checkMap compares what is said of a map with the rule.
func checkMap(t *testing.T, a, b impl.Algebra, f []int) {
	t.Helper()
	want, faulty := faultByRule(a, b, f)
	if is, ok := impl.IsHom(a, b, f); !ok || is == faulty {
		t.Fatal("is homomorphism", a, b, f, is, ok)
	}
	if op, args, ok := impl.HomFault(a, b, f); ok != faulty || op != want.op || !slices.Equal(args, want.args) {
		t.Fatal("fault", a, b, f, op, args, ok, "not", want, faulty)
	}
	if g, ok := impl.ClosePartial(a, b, f); ok == faulty || ok && !slices.Equal(g, f) || !ok && len(g) != 0 {
		t.Fatal("closed map", a, b, f, g, ok)
	}
	if faulty {
		checkNoHom(t, a, b, f)
		return
	}
	kernel := partitionByRule(a.Size, func(x, y int) bool { return f[x] == f[y] })
	if k, ok := impl.KernelOf(a, b, f); !ok || !slices.Equal(k, kernel) {
		t.Fatal("kernel", a, b, f, k, ok, "not", kernel)
	}
	image := slices.Compact(slices.Sorted(slices.Values(f)))
	if l, ok := impl.ImageOf(a, b, f); !ok || !slices.Equal(l, image) {
		t.Fatal("image", a, b, f, l, ok, "not", image)
	}
	i, ok := impl.InverseIso(a, b, f)
	if ok != (isInjective(f) && len(image) == b.Size) || !ok && len(i) != 0 {
		t.Fatal("inverse", a, b, f, i, ok)
	}
	for x := range i {
		if len(i) != b.Size || i[f[x]] != x {
			t.Fatal("inverse", a, b, f, i)
		}
	}
}

// checkPartial compares closing a partial map with the words of the chapter.
func checkPartial(t *testing.T, a, b impl.Algebra, f []int) {
	t.Helper()
	want, fine := closedByWords(a, b, f)
	if g, ok := impl.ClosePartial(a, b, f); ok != fine || !slices.Equal(g, want) {
		t.Fatal("closed", a, b, f, g, ok, "not", want, fine)
	}
	if other, ok := closedByPairs(a, b, f); ok != fine || !slices.Equal(other, want) {
		t.Fatal("closed in another order", a, b, f, other, ok, "not", want, fine)
	}
}

// All lists of numbers from -1 to one that is no element, of all lengths up to one too long.
func TestAllShortMaps(t *testing.T) {
	eachPair(func(a, b impl.Algebra) {
		if power(b.Size+2, a.Size+1) > 1300 {
			return
		}
		for length := range a.Size + 2 {
			for _, f := range looseLists(b.Size, length) {
				isMap := length == a.Size && !slices.Contains(f, -1) && !slices.Contains(f, b.Size)
				isPartial := length == a.Size && !slices.Contains(f, b.Size)
				if isMap {
					checkMap(t, a, b, f)
				} else {
					checkNoMap(t, a, b, f)
				}
				if isPartial {
					checkPartial(t, a, b, f)
				} else if g, ok := impl.ClosePartial(a, b, f); ok || len(g) != 0 {
					t.Fatal("closed", a, b, f, g, ok)
				}
			}
		}
	})
}

// Some maps and partial maps of larger Algebras, among them all homomorphisms that are found and
// those with one image changed or left open.
func TestLongerMaps(t *testing.T) {
	eachPair(func(a, b impl.Algebra) {
		homs, _ := impl.AllHoms(a, b)
		homs = append(homs[:min(len(homs), 12)], firstNumbers(a.Size), fullOf(a.Size))
		for i, f := range homs {
			if slices.Max(f) < b.Size {
				checkMap(t, a, b, f)
				checkPartial(t, a, b, f)
			}
			for x := range f {
				g := slices.Clone(f)
				g[x] = (g[x] + 1 + i) % b.Size
				if slices.Max(g) >= b.Size {
					continue
				}
				checkMap(t, a, b, g)
				g[(x+i)%a.Size] = -1
				checkPartial(t, a, b, g)
				g = allMinusOne(a.Size)
				g[x] = (f[x] + i/5) % b.Size
				checkPartial(t, a, b, g)
				g[i%a.Size] = f[i%a.Size] % b.Size
				checkPartial(t, a, b, g)
			}
		}
	})
}

func TestListsThatAreNoMaps(t *testing.T) {
	a, b := sums(4), sums(2)
	lists := [][]int{
		nil, {}, {0}, {0, 1, 0}, {0, 1, 0, 1, 0}, {0, 1, 0, 1, 0, 1, 0, 1}, fullOf(3), fullOf(5), make([]int, 1<<20),
		{0, 1, 0, 2}, {0, 1, 2, 1}, {0, 2, 0, 2}, {2, 1, 0, 1}, {0, 1, 2, 3}, {0, 1, 0, 3}, {0, 1, 0, math.MaxInt}, {0, 1, 0, 64}, {0, 1, 0, 65}, {8, 1, 0, 1},
		{0, 1, 0, -2}, {-2, 1, 0, 1}, {0, math.MinInt, 0, 1}, {0, 1, -64, 1}, {0, -3, 0, 1}, {-8, -1, -1, -1}, {-1, -1, -1, 2}, {2, -1, -1, -1}, {-1, -1, -1}, {-1, -1, -1, -1, -1},
	}
	for _, f := range lists {
		checkNoMap(t, a, b, f)
		if g, ok := impl.ClosePartial(a, b, f); ok || len(g) != 0 {
			t.Errorf("closed %.60s: %v, %v", fmt.Sprint(f), g, ok)
		}
	}
	// Partial maps with open elements are no maps, but they can be closed.
	for _, f := range [][]int{{-1, -1, -1, -1}, {0, 1, 0, -1}, {-1, 1, 0, 1}, {0, -1, -1, 1}} {
		checkNoMap(t, a, b, f)
		if _, ok := impl.ClosePartial(a, b, f); !ok {
			t.Error("closed", f)
		}
	}
	// A number may be an element of a that is none of b, and the other way round.
	checkNoMap(t, bare(3), bare(2), []int{0, 1, 2})
	checkMap(t, bare(2), bare(3), []int{2, 2})
	checkNoMap(t, bare(2), bare(3), []int{2, 3})
	checkNoMap(t, bare(8), bare(8), []int{0, 1, 2, 3, 4, 5, 6, 8})
	checkNoMap(t, bare(1), bare(1), []int{1})
	checkNoMap(t, bare(1), bare(1), nil)
}

func TestHomFault(t *testing.T) {
	succ := successors(3).Ops[0].Table
	// In the first one, the second and the third operation fail for a map, in the others just one.
	several := with(with(lesser(3), 1, succ...), 2, sums(3).Ops[0].Table...)
	cases := []struct {
		a, b impl.Algebra
		f    []int
		op   int
		args []int
	}{
		{sums(3), sums(3), []int{1, 1, 1}, 0, []int{0, 0}}, {sums(3), sums(3), []int{0, 1, 1}, 0, []int{1, 1}}, {sums(3), sums(3), []int{0, 0, 1}, 0, []int{1, 1}},
		{sums(4), sums(4), []int{0, 1, 2, 1}, 0, []int{1, 2}}, {sums(4), sums(2), []int{0, 1, 0, 0}, 0, []int{1, 2}}, {sums(2), sums(4), []int{0, 1}, 0, []int{1, 1}},
		{several, several, []int{0, 0, 2}, 1, []int{0}}, {several, several, []int{0, 1, 1}, 1, []int{1}}, {several, several, []int{1, 0, 2}, 0, []int{0, 1}}, {several, several, []int{2, 2, 2}, 1, []int{0}},
		// Constants have the empty list as their only arguments.
		{constantsAlone(2, 0), constantsAlone(2, 1), []int{0, 1}, 0, []int{}}, {constantsAlone(3, 0, 1, 2), constantsAlone(3, 0, 1, 1), []int{0, 1, 2}, 2, []int{}},
		{constantsAlone(2, 0, 0), constantsAlone(2, 0, 1), []int{0, 0}, 1, []int{}}, {constantsAlone(2, 0, 0), constantsAlone(2, 0, 1), []int{1, 1}, 0, []int{}},
		{with(lesser(2), 0, 1), with(lesser(2), 0, 0), []int{0, 1}, 1, []int{}}, {with(lesser(2), 0, 1), with(lesser(2), 0, 0), []int{1, 0}, 0, []int{0, 1}},
		{with(constantsAlone(2, 0), 1, 1, 1), with(constantsAlone(2, 0), 1, 1, 0), []int{0, 1}, 1, []int{1}}, {with(constantsAlone(2, 0), 1, 1, 1), with(constantsAlone(2, 1), 1, 1, 0), []int{0, 1}, 0, []int{}},
		// The first fault is at the last arguments, or in the last operation.
		{opOf(8, 3, func(x []int) int { return 0 }), opOf(8, 3, func(x []int) int { return (x[0] + x[1] + x[2]) / 21 }), firstNumbers(8), 0, []int{7, 7, 7}},
		{opOf(8, 3, func(x []int) int { return x[0] }), opOf(8, 3, func(x []int) int { return max(x[0]+(x[1]-5)*(x[2]/7), x[0]) % 8 }), firstNumbers(8), 0, []int{0, 6, 7}},
		{with(successors(4), 3, opOf(4, 3, func(x []int) int { return x[2] }).Ops[0].Table...), with(successors(4), 3, opOf(4, 3, func(x []int) int { return x[2] ^ x[0]/3 }).Ops[0].Table...), firstNumbers(4), 1, []int{3, 0, 0}},
		{bare(1), bare(1), []int{0}, -1, nil}, {bare(3), bare(2), []int{1, 0, 1}, -1, nil}, {sums(3), sums(3), []int{0, 2, 1}, -1, nil}, {sums(4), sums(2), []int{0, 1, 0, 1}, -1, nil},
		{several, several, []int{0, 1, 2}, -1, nil}, {constantsAlone(2, 0, 1), constantsAlone(3, 2, 2), []int{2, 2}, -1, nil},
	}
	for _, c := range cases {
		op, args, ok := impl.HomFault(c.a, c.b, c.f)
		if ok != (c.op >= 0) || op != max(c.op, 0) || !slices.Equal(args, c.args) {
			t.Error("fault", c.a, c.b, c.f, op, args, ok)
		}
		if is, ok := impl.IsHom(c.a, c.b, c.f); !ok || is != (c.op < 0) {
			t.Error("homomorphism", c.a, c.b, c.f, is, ok)
		}
		checkMap(t, c.a, c.b, c.f)
	}
}

func TestClosePartial(t *testing.T) {
	down := opOf(8, 1, func(x []int) int { return (x[0] + 7) % 8 })
	double := opOf(8, 1, func(x []int) int { return x[0] * 3 % 8 })
	product := with(lesser(3), 0, 1)
	cases := []struct {
		a, b impl.Algebra
		f    []int
		want []int
	}{
		{sums(3), sums(3), []int{-1, 1, -1}, []int{0, 1, 2}}, {sums(3), sums(3), []int{-1, -1, 1}, []int{0, 2, 1}},
		// All elements open, without and with constants, where just some become known, and all.
		{sums(3), sums(3), allMinusOne(3), allMinusOne(3)}, {bare(8), bare(1), allMinusOne(8), allMinusOne(8)}, {constantsAlone(4, 2), constantsAlone(3, 1), allMinusOne(4), []int{-1, -1, 1, -1}},
		{constantsAlone(2, 1, 0), constantsAlone(8, 7, 6), allMinusOne(2), []int{6, 7}}, {constantsAlone(2, 0, 1), constantsAlone(2, 1, 1), allMinusOne(2), []int{1, 1}},
		{with(successors(5), 0, 3), with(successors(5), 0, 1), allMinusOne(5), []int{3, 4, 0, 1, 2}}, {with(sums(6), 0, 0), with(sums(6), 0, 0), allMinusOne(6), []int{0, -1, -1, -1, -1, -1}},
		{with(sums(6), 0, 2), with(sums(3), 0, 1), allMinusOne(6), []int{0, -1, 1, -1, 2, -1}},
		// Constants without a common image.
		{constantsAlone(2, 0, 0), constantsAlone(2, 0, 1), allMinusOne(2), nil}, {constantsAlone(3, 1, 2, 1), constantsAlone(3, 0, 0, 1), allMinusOne(3), nil}, {constantsAlone(2, 0), constantsAlone(2, 1), []int{0, -1}, nil},
		{constantsAlone(2, 0), constantsAlone(2, 1), []int{-1, 0}, []int{1, 0}}, {product, product, []int{0, -1, -1}, []int{0, 1, -1}}, {product, product, []int{2, -1, -1}, nil},
		// No open element: a homomorphism, and a map that is none.
		{sums(4), sums(2), []int{0, 1, 0, 1}, []int{0, 1, 0, 1}}, {sums(4), sums(2), []int{0, 1, 1, 0}, nil}, {bare(2), bare(2), []int{1, 1}, []int{1, 1}}, {constantsAlone(2, 0), constantsAlone(2, 1), []int{0, 0}, nil},
		// Several rounds, as each image comes of the one before, from the last one to the first.
		{successors(8), successors(8), []int{5, -1, -1, -1, -1, -1, -1, -1}, []int{5, 6, 7, 0, 1, 2, 3, 4}}, {down, down, []int{-1, -1, -1, -1, -1, -1, -1, 2}, []int{3, 4, 5, 6, 7, 0, 1, 2}},
		{down, down, []int{2, -1, -1, -1, -1, -1, -1, -1}, []int{2, 3, 4, 5, 6, 7, 0, 1}}, {double, double, []int{-1, -1, 6, 2, -1, -1, -1, -1}, []int{-1, 6, 6, 2, -1, -1, 2, -1}},
		{opOf(8, 1, func(x []int) int { return max(x[0]-1, 0) }), opOf(4, 1, func(x []int) int { return max(x[0]-1, 0) }), []int{-1, -1, -1, -1, -1, -1, 3, -1}, []int{0, 0, 0, 0, 1, 2, 3, -1}},
		// An element would have two images at once, in the second round, and only by the last arguments.
		{successors(4), successors(4), []int{0, 2, -1, -1}, nil}, {successors(4), successors(8), []int{0, -1, -1, -1}, nil}, {down, successors(8), []int{-1, -1, 0, -1, -1, -1, 1, -1}, nil}, {down, successors(8), []int{-1, -1, 0, -1, -1, -1, -1, -1}, []int{2, 1, 0, 7, 6, 5, 4, 3}},
		{sums(4), sums(3), []int{-1, 1, -1, -1}, nil}, {sums(4), sums(3), []int{-1, 0, -1, -1}, []int{0, 0, 0, 0}}, {lesser(3), lesser(3), []int{2, -1, 1}, nil}, {lesser(3), lesser(3), []int{1, -1, 2}, []int{1, -1, 2}},
		{opOf(8, 3, func(x []int) int { return x[0] * x[1] * x[2] / 343 }), opOf(2, 3, func(x []int) int { return 1 - x[0]*x[1]*x[2] }), []int{0, 1, 1, 1, 1, 1, 1, 1}, nil},
	}
	for _, c := range cases {
		if f, ok := impl.ClosePartial(c.a, c.b, c.f); ok != (c.want != nil) || !slices.Equal(f, c.want) {
			t.Error("closed", c.a, c.b, c.f, f, ok, "not", c.want)
		}
		checkPartial(t, c.a, c.b, c.f)
	}
}

// checkNothing uses two Algebras between which there are no maps, as one is not valid or they have
// different types.
func checkNothing(t *testing.T, a, b impl.Algebra) {
	t.Helper()
	lists := [][]int{nil, {}, {0}, {-1}, {0, 1}, {-1, 0}, fullOf(8), firstNumbers(8), allMinusOne(8), make([]int, 1<<16)}
	for _, c := range []impl.Algebra{a, b} {
		n := len(stillMap(c))
		lists = append(lists, stillMap(c), fullOf(n), allMinusOne(n))
	}
	for _, f := range lists {
		is, one := impl.IsHom(a, b, f)
		op, args, two := impl.HomFault(a, b, f)
		g, three := impl.ClosePartial(a, b, f)
		if is || one || two || three || op != 0 || len(args)+len(g) != 0 {
			t.Errorf("between %v and %v %.60s: %v %v %v %v %v %v %v", a, b, fmt.Sprint(f), is, one, op, args, two, g, three)
		}
		checkNoHom(t, a, b, f)
		for _, c := range []impl.Algebra{a, b, bare(1)} {
			g, one := impl.ComposeHoms(a, b, c, f, stillMap(c))
			h, two := impl.ComposeHoms(c, a, b, fullOf(len(stillMap(c))), f)
			if one || two || len(g)+len(h) != 0 {
				t.Errorf("composed between %v and %v %.60s: %v %v %v %v", a, b, fmt.Sprint(f), g, one, h, two)
			}
		}
	}
	all, one := impl.AllHoms(a, b)
	emb, two := impl.FirstEmbedding(a, b)
	onto, three := impl.FirstOnto(a, b)
	iso, four := impl.FirstIso(a, b)
	is, five := impl.AreIsomorphic(a, b)
	if one || two || three || four || five || is || len(all)+len(emb)+len(onto)+len(iso) != 0 {
		t.Error("searched between", a, b, all, emb, onto, iso, is, one, two, three, four, five)
	}
}

func TestDifferentTypes(t *testing.T) {
	kinds := []impl.Algebra{
		bare(2), constantsAlone(2, 0), constantsAlone(2, 0, 0), constantsAlone(2, 1, 1, 1), constantsAlone(2, 1, 1, 1, 1), unevenOf(2, 1), unevenOf(2, 2), unevenOf(2, 3),
		unevenOf(2, 0, 1), unevenOf(2, 1, 0), unevenOf(2, 1, 2), unevenOf(2, 2, 1), unevenOf(2, 2, 2), unevenOf(2, 2, 2, 0), unevenOf(2, 2, 2, 1), unevenOf(2, 2, 2, 0, 0), unevenOf(2, 2, 2, 0, 1), unevenOf(2, 3, 3, 3, 3),
		unevenOf(3, 2, 0), unevenOf(1, 0, 2), unevenOf(1, 3, 0), unevenOf(1, 0, 3), unevenOf(8, 1, 1), unevenOf(8, 1, 3),
		// Of a single element, each operation has the same Table.
		unevenOf(1, 1, 1, 1), unevenOf(1, 1, 1, 2), unevenOf(1, 0, 1, 1), unevenOf(1, 1, 1, 1, 1), unevenOf(4, 0, 0, 1), unevenOf(4, 0, 0, 2),
	}
	for i, a := range kinds {
		for j, b := range kinds {
			if i != j {
				checkNothing(t, a, b)
			}
		}
		// The Size makes no difference.
		if is, ok := impl.IsHom(a, a, firstNumbers(a.Size)); !ok || !is {
			t.Error("identity of", a, is, ok)
		}
	}
	// One of three Algebras has another type.
	a, other := sums(2), with(sums(2), 0, 0)
	for i := range 3 {
		three := []impl.Algebra{a, a, a}
		three[i] = other
		if h, ok := impl.ComposeHoms(three[0], three[1], three[2], []int{0, 0}, []int{0, 0}); ok || len(h) != 0 {
			t.Error("composed", three, h, ok)
		}
	}
	if h, ok := impl.ComposeHoms(a, a, a, []int{0, 0}, []int{0, 0}); !ok || !slices.Equal(h, []int{0, 0}) {
		t.Error("composed", h, ok)
	}
}

func TestHomsOfInvalidAlgebras(t *testing.T) {
	for _, a := range invalidAlgebras() {
		checkNothing(t, a, a)
		for _, b := range []impl.Algebra{bare(2), constantsAlone(1, 0), sums(2)} {
			checkNothing(t, a, b)
			checkNothing(t, b, a)
		}
		for i, f := range []func(impl.Algebra) ([][]int, bool){impl.Endomorphisms, impl.Automorphisms, impl.AutomorphismOrbits, impl.Retractions} {
			if l, ok := f(a); ok || len(l) != 0 {
				t.Error("list", i, "of", a, l, ok)
			}
		}
		for _, b := range []impl.Algebra{bare(1), constantsAlone(1, 0), unevenOf(1, 1)} {
			for i, three := range [][3]impl.Algebra{{a, b, b}, {b, a, b}, {b, b, a}} {
				if h, ok := impl.ComposeHoms(three[0], three[1], three[2], []int{0}, []int{0}); ok || len(h) != 0 {
					t.Error("composed with an invalid one at", i, a, h, ok)
				}
			}
		}
	}
}

// Without operations, each map is a homomorphism.
func TestHomsWithoutOperations(t *testing.T) {
	for n := 1; n <= 8; n++ {
		for m := 1; m <= 8; m++ {
			a, b := bare(n), bare(m)
			maps := power(m, n)
			l, ok := impl.AllHoms(a, b)
			if ok != (maps <= 300) || ok && !sameLists(l, argsOf(m, n)) || !ok && len(l) != 0 {
				t.Error("maps", n, m, len(l), ok)
			}
			f, ok := impl.FirstEmbedding(a, b)
			if ok != (n <= m) || ok && !slices.Equal(f, firstNumbers(n)) || !ok && len(f) != 0 {
				t.Error("embedding", n, m, f, ok)
			}
			f, one := impl.FirstIso(a, b)
			is, two := impl.AreIsomorphic(a, b)
			if !two || is != (n == m) || one != is || one && !slices.Equal(f, firstNumbers(n)) {
				t.Error("isomorphism", n, m, f, one, is, two)
			}
			for i := range min(maps, 40) {
				f := argsOf(m, min(n, 4))[i*37%power(m, min(n, 4))]
				for len(f) < n {
					f = append(f, f[len(f)-1])
				}
				checkMap(t, a, b, f)
			}
		}
	}
	onto := []struct {
		n, m int
		want []int
	}{
		{1, 1, []int{0}}, {8, 1, fullOf(8)}, {8, 2, []int{0, 0, 0, 0, 0, 0, 0, 1}}, {8, 3, []int{0, 0, 0, 0, 0, 0, 1, 2}}, {5, 4, []int{0, 0, 1, 2, 3}}, {5, 5, firstNumbers(5)},
		// The first one comes behind more than MaxHoms others, and behind too many tries.
		{6, 6, firstNumbers(6)}, {8, 6, []int{0, 0, 0, 1, 2, 3, 4, 5}}, {7, 7, nil}, {8, 8, nil}, {1, 2, nil}, {4, 5, nil}, {7, 8, nil},
	}
	for _, c := range onto {
		if f, ok := impl.FirstOnto(bare(c.n), bare(c.m)); ok != (c.want != nil) || !slices.Equal(f, c.want) {
			t.Error("onto", c.n, c.m, f, ok)
		}
	}
}

func TestHomsOfConstantsAlone(t *testing.T) {
	cases := []struct {
		a, b           impl.Algebra
		all            [][]int
		emb, onto, iso []int
	}{
		{constantsAlone(1, 0), constantsAlone(1, 0), [][]int{{0}}, []int{0}, []int{0}, []int{0}},
		{constantsAlone(2, 0), constantsAlone(2, 1), [][]int{{1, 0}, {1, 1}}, []int{1, 0}, []int{1, 0}, []int{1, 0}},
		{constantsAlone(2, 1), constantsAlone(3, 2), [][]int{{0, 2}, {1, 2}, {2, 2}}, []int{0, 2}, nil, nil},
		{constantsAlone(3, 1), constantsAlone(2, 0), [][]int{{0, 0, 0}, {0, 0, 1}, {1, 0, 0}, {1, 0, 1}}, nil, []int{0, 0, 1}, nil},
		{constantsAlone(2, 0, 1), constantsAlone(2, 1, 0), [][]int{{1, 0}}, []int{1, 0}, []int{1, 0}, []int{1, 0}},
		{constantsAlone(3, 2, 0), constantsAlone(4, 1, 3), [][]int{{3, 0, 1}, {3, 1, 1}, {3, 2, 1}, {3, 3, 1}}, []int{3, 0, 1}, nil, nil},
		// Two constants have the same value in b only: a search for embeddings ends when it begins.
		{constantsAlone(2, 0, 1), constantsAlone(2, 1, 1), [][]int{{1, 1}}, nil, nil, nil}, {constantsAlone(3, 0, 2), constantsAlone(3, 1, 1), [][]int{{1, 0, 1}, {1, 1, 1}, {1, 2, 1}}, nil, nil, nil},
		{constantsAlone(3, 1, 2), constantsAlone(8, 7, 7), [][]int{{0, 7, 7}, {1, 7, 7}, {2, 7, 7}, {3, 7, 7}, {4, 7, 7}, {5, 7, 7}, {6, 7, 7}, {7, 7, 7}}, nil, nil, nil},
		{constantsAlone(2, 0, 1), constantsAlone(1, 0, 0), [][]int{{0, 0}}, nil, []int{0, 0}, nil},
		// Two constants have the same value in a only: there is no common image.
		{constantsAlone(2, 1, 1), constantsAlone(2, 0, 1), nil, nil, nil, nil}, {constantsAlone(1, 0, 0), constantsAlone(2, 0, 1), nil, nil, nil, nil}, {constantsAlone(8, 3, 4, 5, 3), constantsAlone(8, 3, 4, 5, 6), nil, nil, nil, nil},
	}
	for _, c := range cases {
		all, one := impl.AllHoms(c.a, c.b)
		if !one || !sameLists(all, c.all) {
			t.Error("all", c.a, c.b, all, one)
		}
		emb, one := impl.FirstEmbedding(c.a, c.b)
		onto, two := impl.FirstOnto(c.a, c.b)
		iso, three := impl.FirstIso(c.a, c.b)
		is, four := impl.AreIsomorphic(c.a, c.b)
		if !slices.Equal(emb, c.emb) || !slices.Equal(onto, c.onto) || !slices.Equal(iso, c.iso) || one != (emb != nil) || two != (onto != nil) || three != (iso != nil) {
			t.Error("first ones", c.a, c.b, emb, one, onto, two, iso, three)
		}
		if !four || is != (c.iso != nil) {
			t.Error("isomorphic", c.a, c.b, is, four)
		}
	}
}

func TestAllHoms(t *testing.T) {
	cases := []struct {
		a, b impl.Algebra
		all  [][]int
	}{
		{sums(3), sums(3), [][]int{{0, 0, 0}, {0, 1, 2}, {0, 2, 1}}}, {sums(4), sums(2), [][]int{{0, 0, 0, 0}, {0, 1, 0, 1}}}, {sums(2), sums(4), [][]int{{0, 0}, {0, 2}}},
		// Just one, and none.
		{sums(3), sums(2), [][]int{{0, 0, 0}}}, {sums(8), sums(1), [][]int{fullOf(8)}}, {with(tower(3), 0, 0), with(tower(2), 0, 0), [][]int{{0, 0, 0}, {0, 0, 1}, {0, 1, 1}}},
		{successors(3), successors(2), nil}, {successors(2), successors(3), nil}, {successors(2), successors(4), nil}, {successors(4), successors(2), [][]int{{0, 1, 0, 1}, {1, 0, 1, 0}}}, {unaries(2, []int{0, 1}), successors(2), nil},
		{tower(2), tower(3), [][]int{{0, 0}, {0, 1}, {0, 2}, {1, 1}, {1, 2}, {2, 2}}}, {diamond(), tower(2), [][]int{fullOf(5), {1, 1, 1, 1, 1}}}, {pentagon(), tower(2), [][]int{fullOf(5), {0, 0, 0, 1, 1}, {0, 1, 1, 0, 1}, {1, 1, 1, 1, 1}}},
	}
	for _, c := range cases {
		if l, ok := impl.AllHoms(c.a, c.b); !ok || !sameLists(l, c.all) {
			t.Error("all", c.a, c.b, l, ok)
		}
	}
}

// In the order of the first ones: the last one is behind the images that closing gives.
func TestOrderOfHoms(t *testing.T) {
	// The element 3 is open first in none of them: 0 has it as its value.
	a := unaries(4, []int{3, 1, 2, 3})
	b := unaries(4, []int{2, 1, 2, 0})
	want := chosen(argsOf(4, 4), func(f []int) bool { return homByRule(a, b, f) })
	if l, ok := impl.AllHoms(a, b); !ok || !sameLists(l, want) || !slices.IsSortedFunc(l, slices.Compare[[]int]) || len(l) < 4 {
		t.Error("order", l, ok, "not", want)
	}
}

// checkCounts tests that a pair of Algebras is what it is used for: a search with just so many
// tries, which finds just so many maps.
func checkCounts(t *testing.T, a, b impl.Algebra, embeddings bool, wanted func(f []int) bool, tries, count int) {
	t.Helper()
	found, made := searchByRule(a, b, embeddings, func(found [][]int) bool { return wanted(found[len(found)-1]) })
	if made != tries || len(found) != count {
		t.Fatal("counts", a, b, made, len(found), "not", tries, count)
	}
}

func none([]int) bool { return false }

func each([]int) bool { return true }

// with300 and with301 are pairs with just MaxHoms homomorphisms, and with one more.
func with300() [2]impl.Algebra {
	return [2]impl.Algebra{unaries(8, []int{0, 1, 0, 3, 3, 5, 5, 6}), unaries(6, []int{3, 4, 2, 2, 4, 2})}
}

func with301() [2]impl.Algebra {
	return [2]impl.Algebra{unaries(8, []int{7, 7, 2, 1, 1, 1, 2, 4}), unaries(7, []int{3, 4, 6, 3, 4, 4, 6})}
}

func TestNumbersOfHoms(t *testing.T) {
	cases := []struct {
		pair  [2]impl.Algebra
		tries int
		count int
	}{
		{with300(), 2622, 300}, {with301(), 1463, 301}, {[2]impl.Algebra{bare(2), bare(8)}, 72, 64}, {[2]impl.Algebra{bare(8), bare(2)}, 510, 256}, {[2]impl.Algebra{bare(3), bare(7)}, 399, 343},
		{[2]impl.Algebra{unaries(8, []int{4, 6, 7, 7, 5, 5, 5, 4}), unaries(8, []int{4, 6, 7, 7, 5, 5, 5, 4})}, 1400, 300}, {[2]impl.Algebra{unaries(7, []int{6, 1, 2, 5, 1, 1, 6}), unaries(7, []int{6, 1, 2, 5, 1, 1, 6})}, 1435, 306},
	}
	for _, c := range cases {
		a, b := c.pair[0], c.pair[1]
		checkCounts(t, a, b, false, none, c.tries, c.count)
		l, ok := impl.AllHoms(a, b)
		if ok != (c.count <= 300) || ok && len(l) != c.count || !ok && len(l) != 0 {
			t.Error("all", a, b, len(l), ok)
		}
		for _, f := range l {
			if !homByRule(a, b, f) {
				t.Fatal("no homomorphism", a, b, f)
			}
		}
		if !slices.IsSortedFunc(l, slices.Compare[[]int]) || len(slices.CompactFunc(l, slices.Equal[[]int])) != len(l) {
			t.Error("order", a, b)
		}
		// The other searches do not need all of them.
		checkFirst(t, a, b)
	}
	for _, c := range cases[len(cases)-2:] {
		checkSelf(t, c.pair[0])
		l, one := impl.Endomorphisms(c.pair[0])
		r, two := impl.Retractions(c.pair[0])
		if one != (c.count <= 300) || two != one || one != (len(l) > 0) || one != (len(r) > 0) {
			t.Error("endomorphisms", len(l), one, len(r), two)
		}
	}
}

// Some pairs of Algebras whose searches for homomorphisms need 5000 tries and more, but find few.
func TestNumbersOfTries(t *testing.T) {
	cases := []struct {
		a, b  impl.Algebra
		tries int
		count int
	}{
		{unaries(8, []int{0, 4, 2, 5, 0, 3, 5, 0}), unaries(8, []int{4, 1, 2, 3, 0, 5, 6, 7}), 5000, 288},
		{unaries(8, []int{0, 5, 0, 2, 5, 5, 1, 6}), unaries(8, []int{2, 3, 2, 3, 2, 2, 7, 2}), 5008, 272},
		{unaries(8, []int{6, 7, 4, 7, 7, 5, 4, 4}), unaries(8, []int{4, 7, 4, 4, 7, 4, 4, 4}), 5000, 0},
		{unaries(8, []int{0, 1, 2, 3, 1, 5, 0, 2}, []int{1, 0, 0, 0, 0, 0, 5, 5}), unaries(8, []int{0, 1, 2, 3, 4, 5, 3, 7}, []int{1, 3, 1, 1, 1, 1, 1, 1}), 5016, 0},
	}
	for _, c := range cases {
		checkCounts(t, c.a, c.b, false, none, c.tries, c.count)
		l, ok := impl.AllHoms(c.a, c.b)
		if ok != (c.tries <= 5000) || ok && len(l) != c.count || !ok && len(l) != 0 {
			t.Error("all", c.a, c.b, len(l), ok)
		}
	}
}

// arrows has the second one of two arguments as its value if an arrow leads from the first one to
// it, and otherwise the first one: so closing gives nothing, but embeddings have to keep arrows.
func arrows(size int, list ...[2]int) impl.Algebra {
	return opOf(size, 2, func(x []int) int {
		if slices.Contains(list, [2]int(x)) {
			return x[1]
		}
		return x[0]
	})
}

// lines is arrows in both directions.
func lines(size int, list ...[2]int) impl.Algebra {
	for _, l := range slices.Clone(list) {
		list = append(list, [2]int{l[1], l[0]})
	}
	return arrows(size, list...)
}

func TestTriesOfFirstEmbeddings(t *testing.T) {
	cases := []struct {
		a, b  impl.Algebra
		tries int
		found bool
	}{
		{arrows(7, [2]int{4, 1}, [2]int{5, 4}, [2]int{6, 1}), arrows(8, [2]int{0, 5}, [2]int{1, 0}, [2]int{2, 5}, [2]int{5, 3}), 5000, true},
		{arrows(7, [2]int{2, 4}, [2]int{5, 6}), arrows(8, [2]int{0, 4}, [2]int{1, 5}, [2]int{2, 4}), 5001, true},
		{with(arrows(8, [2]int{0, 7}, [2]int{1, 7}, [2]int{2, 7}, [2]int{6, 0}, [2]int{7, 2}), 0, 3), with(arrows(8, [2]int{1, 6}, [2]int{2, 6}, [2]int{4, 7}, [2]int{6, 1}, [2]int{7, 6}), 0, 3), 5000, true},
		{with(arrows(8, [2]int{1, 5}, [2]int{2, 5}, [2]int{5, 2}, [2]int{5, 4}, [2]int{5, 6}, [2]int{5, 7}), 0, 6), with(arrows(8, [2]int{0, 4}, [2]int{1, 4}, [2]int{4, 1}, [2]int{4, 2}, [2]int{4, 3}, [2]int{4, 7}), 0, 2), 5001, true},
		// There is no embedding at all.
		{lines(8, [2]int{0, 3}, [2]int{2, 4}, [2]int{3, 6}, [2]int{6, 7}), lines(8, [2]int{0, 4}, [2]int{0, 6}, [2]int{1, 5}, [2]int{2, 3}, [2]int{4, 5}), 5000, false},
		{
			arrows(8, [2]int{0, 6}, [2]int{0, 7}, [2]int{1, 6}, [2]int{1, 7}, [2]int{2, 4}, [2]int{2, 5}, [2]int{2, 7}, [2]int{3, 4}, [2]int{3, 5}, [2]int{3, 6}, [2]int{4, 1}, [2]int{4, 3}, [2]int{4, 5}, [2]int{5, 1}, [2]int{5, 2}, [2]int{6, 0}, [2]int{6, 5}, [2]int{7, 1}, [2]int{7, 2}),
			arrows(8, [2]int{1, 4}, [2]int{2, 5}, [2]int{4, 2}, [2]int{4, 3}, [2]int{5, 2}, [2]int{5, 6}, [2]int{7, 5}), 5008, false,
		},
	}
	for _, c := range cases {
		wanted, count := none, 0
		if c.found {
			wanted, count = each, 1
		}
		checkCounts(t, c.a, c.b, true, wanted, c.tries, count)
		checkFirst(t, c.a, c.b)
		in := c.tries <= 5000
		if f, ok := impl.FirstEmbedding(c.a, c.b); ok != (c.found && in) || !ok && len(f) != 0 || ok && !(isInjective(f) && homByRule(c.a, c.b, f)) {
			t.Error("first embedding", c.a, c.b, f, ok)
		}
		is, ok := impl.AreIsomorphic(c.a, c.b)
		if sameSize := c.a.Size == c.b.Size; ok != (in || !sameSize) || is != (sameSize && c.found && in) {
			t.Error("isomorphic", c.a, c.b, is, ok)
		}
	}
}

func TestTriesOfFirstOnto(t *testing.T) {
	cases := []struct {
		a, b  impl.Algebra
		tries int
		count int
	}{
		{unaries(8, []int{0, 1, 0, 0, 0, 4, 1, 5}), unaries(7, []int{4, 1, 1, 1, 4, 1, 2}), 5000, 439},
		{unaries(8, []int{0, 1, 2, 2, 4, 5, 6, 7}, []int{0, 1, 2, 3, 5, 5, 6, 7}), unaries(8, []int{0, 1, 2, 3, 4, 5, 6, 5}, []int{0, 3, 2, 3, 4, 5, 6, 7}), 5000, 3084},
		{unaries(7, []int{6, 6, 6, 6, 0, 4, 6}), unaries(6, []int{4, 4, 4, 4, 4, 1}), 5001, 79},
		{unaries(7, []int{5, 0, 5, 5, 5, 5, 6}), unaries(6, []int{0, 0, 0, 0, 3, 0}), 5001, 665},
	}
	for _, c := range cases {
		isOnto := func(f []int) bool { return isSurjective(c.b, f) }
		checkCounts(t, c.a, c.b, false, isOnto, c.tries, c.count)
		f, ok := impl.FirstOnto(c.a, c.b)
		if ok != (c.tries <= 5000) || !ok && len(f) != 0 || ok && !(isOnto(f) && homByRule(c.a, c.b, f)) {
			t.Error("first onto", c.a, c.b, f, ok)
		}
	}
}

// halves has two kinds of elements: those from 4 on may be exchanged as one likes, but the others
// just by even permutations.
func halves() impl.Algebra {
	isEven := func(x []int) bool {
		even := true
		for i := range x {
			for j := range i {
				even = even == (x[j] < x[i])
			}
		}
		return even
	}
	return opOf(8, 3, func(x []int) int {
		if slices.Max(x) < 4 && isInjective(x) {
			last := 6 - x[0] - x[1] - x[2]
			if isEven([]int{x[0], x[1], x[2], last}) {
				return last
			}
		}
		return x[0]
	})
}

func TestNumbersOfAutomorphisms(t *testing.T) {
	pairs := unaries(8, []int{1, 0, 3, 2, 5, 4, 7, 6})
	cases := []struct {
		a     impl.Algebra
		tries int
		count int
		ok    bool
	}{
		// There are never 289 to 300: no permutations of at most 8 elements have such a number.
		{halves(), 4456, 288, true}, {bare(5), 1030, 120, true}, {pairs, 1992, 384, false}, {unaries(8, []int{0, 1, 2, 5, 6, 3, 4, 7}), 2632, 192, true}, {bare(6), 7422, 720, false},
		{lines(8, [2]int{0, 4}, [2]int{0, 5}, [2]int{0, 6}, [2]int{1, 5}, [2]int{2, 5}, [2]int{3, 6}, [2]int{4, 5}), 5000, 2, true},
		{
			arrows(8, [2]int{0, 7}, [2]int{1, 6}, [2]int{2, 5}, [2]int{2, 6}, [2]int{2, 7}, [2]int{4, 6}, [2]int{5, 6}, [2]int{5, 7}, [2]int{6, 2}, [2]int{6, 3}, [2]int{6, 4}, [2]int{6, 7}, [2]int{7, 0}, [2]int{7, 1}, [2]int{7, 2}, [2]int{7, 6}), 5008, 1, false,
		},
	}
	for _, c := range cases {
		checkCounts(t, c.a, c.a, true, none, c.tries, c.count)
		checkSelf(t, c.a)
		l, one := impl.Automorphisms(c.a)
		o, two := impl.AutomorphismOrbits(c.a)
		if one != c.ok || two != c.ok || c.ok && len(l) != c.count || !c.ok && len(l)+len(o) != 0 {
			t.Error("automorphisms", c.a, len(l), one, o, two)
		}
	}
	if o, ok := impl.AutomorphismOrbits(halves()); !ok || !sameLists(o, [][]int{{0, 1, 2, 3}, {4, 5, 6, 7}}) {
		t.Error("orbits", o, ok)
	}
}

func TestFirstOnes(t *testing.T) {
	klein := opOf(4, 2, func(x []int) int { return x[0] ^ x[1] })
	down := opOf(5, 1, func(x []int) int { return (x[0] + 4) % 5 })
	cases := []struct {
		a, b           impl.Algebra
		emb, onto, iso []int
	}{
		{sums(3), sums(3), firstNumbers(3), firstNumbers(3), firstNumbers(3)}, {bare(1), bare(1), []int{0}, []int{0}, []int{0}}, {sums(1), sums(1), []int{0}, []int{0}, []int{0}},
		// b is smaller than a, or greater; the first homomorphism has just one image.
		{sums(4), sums(2), nil, []int{0, 1, 0, 1}, nil}, {sums(2), sums(4), []int{0, 2}, nil, nil}, {sums(6), sums(3), nil, []int{0, 1, 2, 0, 1, 2}, nil}, {sums(3), sums(6), []int{0, 2, 4}, nil, nil},
		{sums(5), sums(3), nil, nil, nil}, {sums(3), sums(5), nil, nil, nil}, {tower(2), tower(4), []int{0, 1}, nil, nil}, {tower(4), tower(2), nil, []int{0, 0, 0, 1}, nil}, {tower(2), diamond(), []int{0, 1}, nil, nil},
		{successors(2), successors(6), nil, nil, nil}, {successors(6), successors(2), nil, []int{0, 1, 0, 1, 0, 1}, nil}, {successors(6), successors(3), nil, []int{0, 1, 2, 0, 1, 2}, nil},
		// The same Size, without and with an isomorphism.
		{sums(4), klein, nil, nil, nil}, {klein, sums(4), nil, nil, nil}, {pentagon(), diamond(), nil, nil, nil}, {diamond(), tower(5), nil, nil, nil}, {tower(5), tower(5), firstNumbers(5), firstNumbers(5), firstNumbers(5)}, {klein, klein, firstNumbers(4), firstNumbers(4), firstNumbers(4)},
		{successors(5), down, []int{0, 4, 3, 2, 1}, []int{0, 4, 3, 2, 1}, []int{0, 4, 3, 2, 1}}, {unaries(3, []int{0, 0, 0}), unaries(3, []int{2, 2, 2}), []int{2, 0, 1}, []int{2, 0, 1}, []int{2, 0, 1}},
		{unaries(4, []int{1, 0, 2, 3}), unaries(4, []int{0, 1, 3, 2}), []int{2, 3, 0, 1}, []int{2, 3, 0, 1}, []int{2, 3, 0, 1}}, {unaries(3, []int{0, 0, 0}), unaries(3, []int{0, 0, 1}), nil, nil, nil},
		// Onto, although the Sizes are the same, is all that is asked for: then it is an isomorphism.
		{unaries(4, []int{1, 2, 3, 3}), unaries(4, []int{0, 0, 1, 2}), []int{3, 2, 1, 0}, []int{3, 2, 1, 0}, []int{3, 2, 1, 0}},
	}
	for _, c := range cases {
		emb, one := impl.FirstEmbedding(c.a, c.b)
		onto, two := impl.FirstOnto(c.a, c.b)
		iso, three := impl.FirstIso(c.a, c.b)
		is, four := impl.AreIsomorphic(c.a, c.b)
		if one != (c.emb != nil) || two != (c.onto != nil) || three != (c.iso != nil) || !slices.Equal(emb, c.emb) || !slices.Equal(onto, c.onto) || !slices.Equal(iso, c.iso) {
			t.Error("first ones", c.a, c.b, emb, one, onto, two, iso, three)
		}
		if !four || is != (c.iso != nil) {
			t.Error("isomorphic", c.a, c.b, is, four)
		}
	}
}

// Algebras are isomorphic to themselves and to those with other names for the elements.
func TestOtherNames(t *testing.T) {
	for _, group := range homGroups() {
		for _, a := range group {
			all := permutations(min(a.Size, 5))
			for i := 0; i < len(all); i += 1 + len(all)/8 {
				names := slices.Concat(all[i], firstNumbers(a.Size)[len(all[i]):])
				b, ok := impl.RenameElements(a, names)
				if !ok {
					t.Fatal("names", a, names)
				}
				checkMap(t, a, b, names)
				if is, ok := impl.AreIsomorphic(a, b); !ok || !is {
					t.Fatal("isomorphic", a, names, is, ok)
				}
				f, ok := impl.FirstIso(a, b)
				if !ok || slices.Compare(f, names) > 0 {
					t.Fatal("first isomorphism", a, names, f, ok)
				}
				if c, ok := impl.RenameElements(a, f); !ok || !sameAlgebra(b, c) {
					t.Fatal("renamed by an isomorphism", a, names, f)
				}
				i, ok := impl.InverseIso(a, b, f)
				if is, fine := impl.IsHom(b, a, i); !ok || !fine || !is {
					t.Fatal("inverse", a, names, i, ok)
				}
				back, one := impl.ComposeHoms(a, b, a, f, i)
				there, two := impl.ComposeHoms(b, a, b, i, f)
				if !one || !two || !slices.Equal(back, stillMap(a)) || !slices.Equal(there, stillMap(b)) {
					t.Fatal("there and back", a, names, back, there)
				}
			}
		}
	}
}

func TestMapsToItself(t *testing.T) {
	only, unmoved := [][]int{{0}}, func(n int) [][]int { return [][]int{firstNumbers(n)} }
	all3 := permutations(3)
	slices.SortFunc(all3, slices.Compare[[]int])
	cases := []struct {
		a                           impl.Algebra
		ends, autos, orbits, retras [][]int
	}{
		{bare(1), only, only, only, only}, {sums(1), only, only, only, only}, {constantsAlone(1, 0, 0), only, only, only, only}, {unevenOf(1, 0, 1, 2, 3), only, only, only, only},
		{sums(3), [][]int{{0, 0, 0}, {0, 1, 2}, {0, 2, 1}}, [][]int{{0, 1, 2}, {0, 2, 1}}, [][]int{{0}, {1, 2}}, [][]int{{0, 0, 0}, {0, 1, 2}}},
		{sums(4), [][]int{fullOf(4), {0, 1, 2, 3}, {0, 2, 0, 2}, {0, 3, 2, 1}}, [][]int{{0, 1, 2, 3}, {0, 3, 2, 1}}, [][]int{{0}, {1, 3}, {2}}, [][]int{fullOf(4), {0, 1, 2, 3}}},
		// The identity is the only automorphism, and the only endomorphism.
		{tower(2), [][]int{{0, 0}, {0, 1}, {1, 1}}, unmoved(2), [][]int{{0}, {1}}, [][]int{{0, 0}, {0, 1}, {1, 1}}}, {constantsAlone(3, 0, 1, 2), unmoved(3), unmoved(3), [][]int{{0}, {1}, {2}}, unmoved(3)},
		{with(successors(4), 0, 0), unmoved(4), unmoved(4), [][]int{{0}, {1}, {2}, {3}}, unmoved(4)},
		// Automorphisms that leave no element alone, and endomorphisms that are all automorphisms.
		{successors(3), [][]int{{0, 1, 2}, {1, 2, 0}, {2, 0, 1}}, [][]int{{0, 1, 2}, {1, 2, 0}, {2, 0, 1}}, [][]int{{0, 1, 2}}, unmoved(3)},
		{unaries(4, []int{2, 3, 0, 1}, []int{1, 0, 3, 2}), [][]int{{0, 1, 2, 3}, {1, 0, 3, 2}, {2, 3, 0, 1}, {3, 2, 1, 0}}, [][]int{{0, 1, 2, 3}, {1, 0, 3, 2}, {2, 3, 0, 1}, {3, 2, 1, 0}}, [][]int{{0, 1, 2, 3}}, unmoved(4)},
		// Orbits with elements between those of another one.
		{with(unaries(4, []int{2, 1, 0, 3}), 0, 1), [][]int{{0, 1, 2, 1}, {0, 1, 2, 3}, {1, 1, 1, 1}, {1, 1, 1, 3}, {2, 1, 0, 1}, {2, 1, 0, 3}, {3, 1, 3, 1}, {3, 1, 3, 3}}, [][]int{{0, 1, 2, 3}, {2, 1, 0, 3}}, [][]int{{0, 2}, {1}, {3}}, [][]int{{0, 1, 2, 1}, {0, 1, 2, 3}, {1, 1, 1, 1}, {1, 1, 1, 3}, {3, 1, 3, 3}}},
		{unaries(4, []int{2, 1, 0, 3}, []int{0, 0, 2, 2}), nil, [][]int{{0, 1, 2, 3}, {2, 3, 0, 1}}, [][]int{{0, 2}, {1, 3}}, nil},
		{bare(2), [][]int{{0, 0}, {0, 1}, {1, 0}, {1, 1}}, [][]int{{0, 1}, {1, 0}}, [][]int{{0, 1}}, [][]int{{0, 0}, {0, 1}, {1, 1}}},
		{bare(3), argsOf(3, 3), all3, [][]int{{0, 1, 2}}, [][]int{{0, 0, 0}, {0, 0, 2}, {0, 1, 0}, {0, 1, 1}, {0, 1, 2}, {0, 2, 2}, {1, 1, 1}, {1, 1, 2}, {2, 1, 2}, {2, 2, 2}}},
	}
	for _, c := range cases {
		ends, one := impl.Endomorphisms(c.a)
		autos, two := impl.Automorphisms(c.a)
		orbits, three := impl.AutomorphismOrbits(c.a)
		retras, four := impl.Retractions(c.a)
		if !one || !two || !three || !four || !sameLists(autos, c.autos) || !sameLists(orbits, c.orbits) {
			t.Error("maps of", c.a, one, autos, two, orbits, three, four)
		}
		if c.ends != nil && (!sameLists(ends, c.ends) || !sameLists(retras, c.retras)) {
			t.Error("endomorphisms of", c.a, ends, retras)
		}
		checkSelf(t, c.a)
	}
	// There are 5 to the power of 5 maps, too many, but only 120 automorphisms.
	ends, one := impl.Endomorphisms(bare(5))
	retras, two := impl.Retractions(bare(5))
	autos, three := impl.Automorphisms(bare(5))
	orbits, four := impl.AutomorphismOrbits(bare(5))
	want := permutations(5)
	slices.SortFunc(want, slices.Compare[[]int])
	if one || two || !three || !four || len(ends)+len(retras) != 0 || !sameLists(autos, want) || !sameLists(orbits, [][]int{firstNumbers(5)}) {
		t.Error("maps of five elements", len(ends), one, len(retras), two, len(autos), three, orbits, four)
	}
}

func TestComposeHoms(t *testing.T) {
	composed := 0
	for _, group := range homGroups() {
		for i, a := range group {
			for j := range 3 {
				b, c := group[(i+j)%len(group)], group[(i*j+2)%len(group)]
				first, _ := impl.AllHoms(a, b)
				second, _ := impl.AllHoms(b, c)
				for _, f := range first[:min(len(first), 9)] {
					for _, g := range second[:min(len(second), 9)] {
						h, ok := impl.ComposeHoms(a, b, c, f, g)
						if !ok || len(h) != a.Size || !homByRule(a, c, h) {
							t.Fatal("composed", a, b, c, f, g, h, ok)
						}
						for x := range h {
							if h[x] != g[f[x]] {
								t.Fatal("composed", a, b, c, f, g, h)
							}
						}
						composed++
					}
				}
			}
		}
	}
	if composed < 1000 {
		t.Error("only few", composed)
	}
	m4, m2, m8 := sums(4), sums(2), sums(8)
	cases := []struct {
		a, b, c impl.Algebra
		f, g, h []int
	}{
		{m4, m2, m8, []int{0, 1, 0, 1}, []int{0, 4}, []int{0, 4, 0, 4}}, {m2, m4, m8, []int{0, 2}, []int{0, 2, 4, 6}, []int{0, 4}}, {m8, m4, m2, []int{0, 1, 2, 3, 0, 1, 2, 3}, []int{0, 1, 0, 1}, []int{0, 1, 0, 1, 0, 1, 0, 1}},
		{m4, m4, m4, []int{0, 3, 2, 1}, []int{0, 3, 2, 1}, []int{0, 1, 2, 3}}, {m4, m4, m2, []int{0, 2, 0, 2}, []int{0, 1, 0, 1}, fullOf(4)},
		// f is no homomorphism, g is none, neither is, though all would be maps; and lists that are no maps.
		{m4, m2, m8, []int{0, 1, 1, 1}, []int{0, 4}, nil}, {m4, m2, m8, []int{0, 1, 0, 1}, []int{0, 3}, nil}, {m4, m2, m8, []int{1, 1, 1, 1}, []int{4, 0}, nil}, {m4, m4, m4, []int{0, 0, 2, 2}, []int{0, 0, 0, 0}, nil},
		{m4, m2, m8, nil, []int{0, 4}, nil}, {m4, m2, m8, []int{0, 1, 0, 1}, nil, nil}, {m4, m2, m8, []int{0, 1, 0}, []int{0, 4}, nil}, {m4, m2, m8, []int{0, 1, 0, 1}, []int{0, 4, 0}, nil}, {m4, m2, m8, []int{0, 1, 0, 1}, []int{0}, nil},
		{m4, m2, m8, []int{0, 2, 0, 2}, []int{0, 4}, nil}, {m4, m2, m8, []int{0, -1, 0, -1}, []int{0, 4}, nil}, {m4, m2, m8, []int{0, 1, 0, 1}, []int{0, -1}, nil}, {m4, m2, m8, []int{0, 1, 0, 1}, []int{0, 8}, nil}, {m4, m2, m8, fullOf(4), []int{0, 9}, nil},
		// The wrong way round.
		{m8, m2, m4, []int{0, 1, 0, 1}, []int{0, 4}, nil}, {m4, m2, m8, []int{0, 4}, []int{0, 1, 0, 1}, nil},
	}
	for _, c := range cases {
		if h, ok := impl.ComposeHoms(c.a, c.b, c.c, c.f, c.g); ok != (c.h != nil) || !slices.Equal(h, c.h) {
			t.Error("composed", c.a.Size, c.b.Size, c.c.Size, c.f, c.g, h, ok)
		}
	}
}

func TestInversesKernelsAndImages(t *testing.T) {
	cases := []struct {
		a, b                   impl.Algebra
		f                      []int
		inverse, kernel, image []int
	}{
		{sums(3), sums(3), []int{0, 2, 1}, []int{0, 2, 1}, []int{0, 1, 2}, []int{0, 1, 2}}, {successors(4), successors(4), []int{1, 2, 3, 0}, []int{3, 0, 1, 2}, firstNumbers(4), firstNumbers(4)},
		{bare(5), bare(5), []int{4, 0, 3, 1, 2}, []int{1, 3, 4, 2, 0}, firstNumbers(5), firstNumbers(5)}, {bare(1), bare(1), []int{0}, []int{0}, []int{0}, []int{0}},
		// Onto a single element, and to just one element of several.
		{sums(3), sums(1), []int{0, 0, 0}, nil, []int{0, 0, 0}, []int{0}}, {sums(3), sums(3), []int{0, 0, 0}, nil, []int{0, 0, 0}, []int{0}}, {bare(8), bare(8), slices.Repeat([]int{7}, 8), nil, fullOf(8), []int{7}},
		// An embedding that is not onto, and what is onto but no embedding.
		{sums(2), sums(4), []int{0, 2}, nil, []int{0, 1}, []int{0, 2}}, {bare(3), bare(8), []int{6, 1, 5}, nil, []int{0, 1, 2}, []int{1, 5, 6}}, {sums(4), sums(2), []int{0, 1, 0, 1}, nil, []int{0, 1, 0, 1}, []int{0, 1}}, {bare(4), bare(2), []int{1, 0, 0, 1}, nil, []int{0, 1, 1, 0}, []int{0, 1}},
		// Neither.
		{bare(6), bare(6), []int{5, 3, 5, 0, 3, 5}, nil, []int{0, 1, 0, 3, 1, 0}, []int{0, 3, 5}}, {sums(4), sums(4), []int{0, 2, 0, 2}, nil, []int{0, 1, 0, 1}, []int{0, 2}}, {tower(4), tower(3), []int{0, 2, 2, 2}, nil, []int{0, 1, 1, 1}, []int{0, 2}},
		// No homomorphisms: one to one and onto, one to one, onto, and neither.
		{sums(3), sums(3), []int{1, 0, 2}, nil, nil, nil}, {sums(2), sums(4), []int{0, 1}, nil, nil, nil}, {sums(4), sums(2), []int{0, 1, 1, 0}, nil, nil, nil}, {sums(4), sums(4), []int{1, 1, 0, 0}, nil, nil, nil}, {constantsAlone(2, 0), constantsAlone(2, 1), []int{0, 1}, nil, nil, nil},
	}
	for _, c := range cases {
		i, one := impl.InverseIso(c.a, c.b, c.f)
		k, two := impl.KernelOf(c.a, c.b, c.f)
		l, three := impl.ImageOf(c.a, c.b, c.f)
		if one != (c.inverse != nil) || two != (c.kernel != nil) || three != (c.image != nil) || !slices.Equal(i, c.inverse) || !slices.Equal(k, c.kernel) || !slices.Equal(l, c.image) {
			t.Error("of", c.a, c.b, c.f, i, one, k, two, l, three)
		}
		checkMap(t, c.a, c.b, c.f)
	}
}

// quotientByRule returns the Algebra of the blocks of a congruence, in the order of their least
// elements, and the number of the block of each element.
func quotientByRule(a impl.Algebra, p []int) (impl.Algebra, []int) {
	blocks := blocksByRule(p)
	number := make([]int, a.Size)
	for i, block := range blocks {
		for _, x := range block {
			number[x] = i
		}
	}
	q := bare(len(blocks))
	for k, f := range a.Ops {
		var table []int
		eachArgs(firstNumbers(len(blocks)), f.Arity, func(args []int) {
			// Another member of a block has to give the same block as the least one.
			least := valueFor(a, k, args, func(i int) int { return blocks[i][0] })
			last := valueFor(a, k, args, func(i int) int { return blocks[i][len(blocks[i])-1] })
			if number[least] != number[last] {
				panic("no congruence")
			}
			table = append(table, number[least])
		})
		q = with(q, f.Arity, table...)
	}
	return q, number
}

// The promise of the chapter: the kernel of a homomorphism is a congruence, and the quotient by it
// is isomorphic to the subalgebra of the images.
func TestQuotientsByKernels(t *testing.T) {
	checked, proper := 0, 0
	eachPair(func(a, b impl.Algebra) {
		homs, _ := impl.AllHoms(a, b)
		for i := 0; i < len(homs); i += 1 + len(homs)/25 {
			f := homs[i]
			kernel, one := impl.KernelOf(a, b, f)
			image, two := impl.ImageOf(a, b, f)
			is, three := impl.IsCongruence(a, kernel)
			sub, four := impl.IsSubuniverse(b, image)
			if !one || !two || !three || !four || !is || !sub || !keptByRule(a, kernel) {
				t.Fatal("kernel and image", a, b, f, kernel, is, image, sub)
			}
			quotient, natural := quotientByRule(a, kernel)
			images, ok := impl.SubalgebraOf(b, image)
			if same, fine := impl.AreIsomorphic(quotient, images); !ok || !fine || !same {
				t.Fatal("not isomorphic", a, b, f, quotient, images, same, fine)
			}
			// The isomorphism takes the block of an element to the image of the element.
			toImages := make([]int, quotient.Size)
			for x, y := range f {
				toImages[natural[x]] = slices.Index(image, y)
			}
			if _, ok := impl.InverseIso(quotient, images, toImages); !ok {
				t.Fatal("no isomorphism", a, b, f, quotient, images, toImages)
			}
			// So the homomorphism is made of the one to the quotient, and two embeddings.
			g, one := impl.ComposeHoms(a, quotient, images, natural, toImages)
			h, two := impl.ComposeHoms(a, images, b, g, image)
			if !one || !two || !slices.Equal(h, f) {
				t.Fatal("made of", a, b, f, natural, toImages, image, h)
			}
			checked++
			if quotient.Size > 1 && quotient.Size < a.Size && images.Size < b.Size {
				proper++
			}
		}
	})
	if checked < 1000 || proper < 100 {
		t.Error("only few", checked, proper)
	}
}

// Each congruence is the kernel of the map to its quotient, and each subuniverse the image of the
// map from its subalgebra.
func TestKernelsOfNaturalMaps(t *testing.T) {
	for _, group := range homGroups() {
		for _, a := range group {
			all, ok := impl.AllCongruences(a)
			if !ok {
				continue
			}
			for i := 0; i < len(all); i += 1 + len(all)/20 {
				q, natural := quotientByRule(a, all[i])
				if k, ok := impl.KernelOf(a, q, natural); !ok || !slices.Equal(k, all[i]) {
					t.Fatal("kernel of the natural map", a, all[i], k, ok)
				}
				if l, ok := impl.ImageOf(a, q, natural); !ok || !slices.Equal(l, firstNumbers(q.Size)) {
					t.Fatal("image of the natural map", a, all[i], l, ok)
				}
			}
			subs, _ := impl.AllSubuniverses(a)
			for _, s := range subs {
				if b, ok := impl.SubalgebraOf(a, s); ok {
					l, one := impl.ImageOf(b, a, s)
					k, two := impl.KernelOf(b, a, s)
					if !one || !two || !slices.Equal(l, s) || !slices.Equal(k, firstNumbers(len(s))) {
						t.Fatal("image of a subalgebra", a, s, l, one, k, two)
					}
				}
			}
		}
	}
}

// homResults calls each function of the chapter. It returns the lists of each result, and a text of
// everything.
func homResults(a, b impl.Algebra, f, g []int) ([][][]int, string) {
	var results [][][]int
	var others []any
	keep := func(l [][]int, ok bool) {
		results = append(results, l)
		others = append(others, ok)
	}
	keepOne := func(l []int, ok bool) { keep([][]int{l}, ok) }
	tell := func(is, ok bool) { others = append(others, is, ok) }
	tell(impl.IsHom(a, b, f))
	tell(impl.IsHom(a, b, g))
	tell(impl.AreIsomorphic(a, b))
	op, args, ok := impl.HomFault(a, b, g)
	others = append(others, op)
	keepOne(args, ok)
	keepOne(impl.ClosePartial(a, b, f))
	keepOne(impl.ClosePartial(a, b, g))
	keep(impl.AllHoms(a, b))
	keepOne(impl.FirstEmbedding(a, b))
	keepOne(impl.FirstOnto(a, b))
	keepOne(impl.FirstIso(a, b))
	keep(impl.Endomorphisms(a))
	keep(impl.Automorphisms(a))
	keep(impl.AutomorphismOrbits(a))
	keep(impl.Retractions(a))
	keepOne(impl.ComposeHoms(a, b, a, f, g))
	keepOne(impl.ComposeHoms(a, a, b, f, f))
	keepOne(impl.InverseIso(a, b, f))
	keepOne(impl.KernelOf(a, b, f))
	keepOne(impl.ImageOf(a, b, f))
	return results, fmt.Sprint(results, others)
}

func TestHomFunctionsLeaveTheirArguments(t *testing.T) {
	lists := [][]int{nil, {0, 1, 2, 3}, {0, 3, 2, 1}, {0, 0, 0, 0}, {0, 2, 0, 2}, {1, 1, 0, 0}, {-1, 1, -1, -1}, {-1, -1, -1, -1}, {0, 1}, {0, 1, 2, 4}, firstNumbers(8), make([]int, 21)}
	algebras := []impl.Algebra{bare(4), sums(4), sums(2), lesser(4), successors(4), cosets(4), constantsAlone(4, 1, 3), constantsAlone(4, 3, 3), tower(4), unevenOf(4, 3, 3, 3, 3), mixed(4, 1, 1, 0, 2, 3), bare(8), {Size: 9}, {}}
	for i, a := range algebras {
		for _, b := range []impl.Algebra{a, algebras[(i+1)%len(algebras)]} {
			a, b := roomyAlgebra(a), roomyAlgebra(b)
			for _, f := range lists {
				for _, g := range lists[1:8] {
					f, g := roomy(f), roomy(g)
					before := allOfAlgebra(a, f, g) + allOfAlgebra(b)
					results, first := homResults(a, b, f, g)
					if _, second := homResults(a, b, f, g); first != second {
						t.Fatal("another result", first, second)
					}
					for i, l := range results {
						if !areApart(l) {
							t.Fatal("the result", i, "shares memory with itself", a, b, f, g)
						}
					}
					for i := range results {
						for j := range results[i][:cap(results[i])] {
							results[i][:cap(results[i])][j] = []int{-9}
						}
					}
					if after := allOfAlgebra(a, f, g) + allOfAlgebra(b); after != before {
						t.Fatal("changed", before, after)
					}
					if _, third := homResults(a, b, f, g); third != first {
						t.Fatal("a result shares memory", a, b, f, g)
					}
				}
			}
		}
	}
}

// The greatest Algebras are done in good time, also where the search fails.
func TestLargeHoms(t *testing.T) {
	kinds := []func(op, at int) int{
		func(_, at int) int { return at % 8 }, func(_, at int) int { return at / 64 }, func(_, at int) int { return max(at%8, at/64) }, func(_, at int) int { return 0 },
		func(op, at int) int { return (at%8 + op) / 2 % 8 }, func(_, at int) int { return at % 8 / 2 },
	}
	for _, rule := range kinds {
		a := algebraOf(8, []int{3, 3, 3, 3}, rule)
		if f, ok := impl.FirstIso(a, a); !ok || len(f) != 8 {
			t.Error("isomorphism", f, ok)
		}
		if f, ok := impl.FirstOnto(a, a); ok && !homByRule(a, a, f) {
			t.Error("onto", f)
		}
		if l, ok := impl.AllHoms(a, a); ok && len(l) == 0 {
			t.Error("endomorphisms", l)
		}
		if l, ok := impl.Automorphisms(a); ok && len(l) == 0 {
			t.Error("automorphisms", l)
		}
	}
}
