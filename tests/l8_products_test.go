package tests

import (
	"fmt"
	"math"
	"slices"
	"testing"

	"loop.example/g01078/impl"
)

// The signatures and limits of chapter 8 are promised to other packages.
var (
	_ func(impl.Algebra, impl.Algebra) (impl.Algebra, bool)       = impl.ProductOf
	_ func(impl.Algebra, int) (impl.Algebra, bool)                = impl.PowerOf
	_ func(impl.Algebra, impl.Algebra, int) ([]int, bool)         = impl.FactorOfProduct
	_ func(impl.Algebra) (int, bool)                              = impl.MostTuples
	_ func(impl.Algebra, int, [][]int) ([]int, bool)              = impl.ApplyTo
	_ func(impl.Algebra, int, [][]int) (bool, bool)               = impl.IsSubpower
	_ func(impl.Algebra, int, [][]int) ([][]int, bool)            = impl.GenerateSubpower
	_ func(impl.Algebra, int) ([][]int, bool)                     = impl.Diagonal
	_ func(impl.Algebra, int, [][]int, []int) ([][]int, bool)     = impl.ProjectTo
	_ func(impl.Algebra, int, [][]int, [][]int) ([][]int, bool)   = impl.MeetSubpowers
	_ func(impl.Algebra, int, [][]int) (bool, bool)               = impl.IsSubdirect
	_ func(impl.Algebra, int, [][]int) (impl.Algebra, bool)       = impl.AlgebraOfSubpower
	_ func(impl.Algebra, int, [][]int, []int, []int) (bool, bool) = impl.DoesMake
	_ func(impl.Algebra, int, [][]int, []int) ([]int, bool)       = impl.FirstTermFor
	_ func(impl.Algebra, int, [][]int) ([][]int, bool)            = impl.TermsFor
	_ [64]int                                                     = [impl.MaxLength]int{}
)

// wrongLengths are no lengths of tuples.
func wrongLengths() []int { return []int{0, -1, 65, 66, 128, math.MaxInt, math.MinInt} }

// sameNumber returns the argument; valueFor with it is the value for the arguments themselves.
func sameNumber(x int) int { return x }

// checkProduct compares an Algebra with the product of some others: its elements are the lists of
// one element of each, in lexicographic order.
func checkProduct(t *testing.T, factors []impl.Algebra, product impl.Algebra) {
	t.Helper()
	lists := [][]int{{}}
	for _, a := range factors {
		var longer [][]int
		for _, l := range lists {
			for x := range a.Size {
				longer = append(longer, append(slices.Clone(l), x))
			}
		}
		lists = longer
	}
	if product.Size != len(lists) {
		t.Fatal("Size", product.Size, "not", len(lists))
	}
	for op, f := range product.Ops {
		at := 0
		eachArgs(firstNumbers(len(lists)), f.Arity, func(args []int) {
			value := lists[f.Table[at]]
			for i, a := range factors {
				if want := valueFor(a, op, args, func(x int) int { return lists[x][i] }); value[i] != want {
					t.Fatal("operation", op, "of", args, "is", value, "with", i, "not", want)
				}
			}
			at++
		})
		if len(f.Table) != at {
			t.Fatal("operation", op, "has", len(f.Table), "values, not", at)
		}
	}
}

// sameType tells of two valid Algebras whether they have the same type.
func sameType(a, b impl.Algebra) bool {
	return slices.EqualFunc(a.Ops, b.Ops, func(f, g impl.Op) bool { return f.Arity == g.Arity })
}

func TestProducts(t *testing.T) {
	list := append(someAlgebras(), bare(1), bare(2), sums(2), sums(4), lesser(2), lesser(4), successors(3), cosets(2), constantsAlone(2, 1, 0), constantsAlone(4, 3, 2), unevenOf(1, 1, 3), unevenOf(8, 1, 3))
	products, largest := 0, 0
	for _, a := range list {
		for _, b := range list {
			p, ok := impl.ProductOf(a, b)
			one, oneOk := impl.FactorOfProduct(a, b, 0)
			two, twoOk := impl.FactorOfProduct(a, b, 1)
			if !sameType(a, b) || a.Size*b.Size > 8 {
				if ok || oneOk || twoOk || !isZeroAlgebra(p) || len(one)+len(two) != 0 {
					t.Fatal("product of", a, b, p, one, two)
				}
				continue
			}
			if !ok || !oneOk || !twoOk || !impl.IsAlgebra(p) || !sameType(a, p) {
				t.Fatal("product of", a, b, p, ok, oneOk, twoOk)
			}
			checkProduct(t, []impl.Algebra{a, b}, p)
			for x := range a.Size {
				for y := range b.Size {
					if e := x*b.Size + y; one[e] != x || two[e] != y {
						t.Fatal("factors of", a, b, one, two)
					}
				}
			}
			if len(one) != p.Size || len(two) != p.Size || !homByRule(p, a, one) || !homByRule(p, b, two) {
				t.Fatal("factors of", a, b, one, two)
			}
			for _, which := range []int{-1, 2, 3, math.MaxInt, math.MinInt} {
				if f, ok := impl.FactorOfProduct(a, b, which); ok || len(f) != 0 {
					t.Fatal("factor", which, f, ok)
				}
			}
			products++
			if p.Size == 8 {
				largest++
			}
		}
	}
	if products < 200 || largest < 40 {
		t.Error("only few", products, largest)
	}
}

func TestProductsOfCases(t *testing.T) {
	cases := []struct{ a, b, want impl.Algebra }{
		{bare(1), bare(1), bare(1)}, {bare(2), bare(4), bare(8)}, {bare(8), bare(1), bare(8)}, {bare(2), bare(3), bare(6)}, {bare(3), bare(3), impl.Algebra{}}, {bare(8), bare(2), impl.Algebra{}}, {bare(8), bare(8), impl.Algebra{}},
		{constantsAlone(2, 1), constantsAlone(3, 1), constantsAlone(6, 4)}, {constantsAlone(3, 1), constantsAlone(2, 1), constantsAlone(6, 3)}, {constantsAlone(2, 1, 0), constantsAlone(4, 2, 3), constantsAlone(8, 6, 3)},
		{unevenOf(1, 0, 3), unevenOf(1, 0, 3), unevenOf(1, 0, 3)}, {sums(1), lesser(2), lesser(2)}, {lesser(2), sums(1), lesser(2)},
		{unaries(2, []int{1, 0}), unaries(3, []int{2, 2, 1}), unaries(6, []int{5, 5, 4, 2, 2, 1})}, {unaries(3, []int{2, 2, 1}), unaries(2, []int{1, 0}), unaries(6, []int{5, 4, 5, 4, 3, 2})},
		// The types are not the same.
		{bare(1), constantsAlone(1, 0), impl.Algebra{}}, {constantsAlone(2, 0), constantsAlone(2, 0, 0), impl.Algebra{}}, {sums(2), successors(2), impl.Algebra{}}, {unevenOf(1, 0, 1), unevenOf(1, 1, 0), impl.Algebra{}}, {unevenOf(1, 2), unevenOf(1, 3), impl.Algebra{}},
	}
	for _, c := range cases {
		if p, ok := impl.ProductOf(c.a, c.b); ok != (c.want.Size > 0) || !sameAlgebra(p, c.want) {
			t.Error("product", c.a, c.b, p, ok, "not", c.want)
		}
		for which := -1; which <= 2; which++ {
			f, ok := impl.FactorOfProduct(c.a, c.b, which)
			if want := c.want.Size > 0 && (which == 0 || which == 1); ok != want || ok && len(f) != c.want.Size || !ok && len(f) != 0 {
				t.Error("factor", which, c.a, c.b, f, ok)
			}
		}
	}
	factors := [][]int{{0, 0, 0, 0, 1, 1, 1, 1}, {0, 1, 2, 3, 0, 1, 2, 3}}
	for which, want := range factors {
		if f, ok := impl.FactorOfProduct(bare(2), bare(4), which); !ok || !slices.Equal(f, want) {
			t.Error("factor", which, f, ok)
		}
	}
}

func TestPowers(t *testing.T) {
	for _, a := range append(someAlgebras(), bare(2), constantsAlone(2, 1), constantsAlone(1, 0), constantsAlone(8, 7), lesser(2), cosets(2)) {
		for k := range 4 {
			p, ok := impl.PowerOf(a, k)
			if power(a.Size, k) > 8 {
				if ok || !isZeroAlgebra(p) {
					t.Fatal("power", k, "of", a, p, ok)
				}
				continue
			}
			if !ok || !impl.IsAlgebra(p) || !sameType(a, p) {
				t.Fatal("power", k, "of", a, p, ok)
			}
			checkProduct(t, slices.Repeat([]impl.Algebra{a}, k), p)
		}
		if p, ok := impl.PowerOf(a, 1); !ok || !sameAlgebra(p, a) {
			t.Fatal("power", a, p, ok)
		}
		for _, k := range []int{-1, 4, 5, 8, -2, math.MaxInt, math.MinInt} {
			if p, ok := impl.PowerOf(a, k); ok || !isZeroAlgebra(p) {
				t.Fatal("power", k, "of", a, p, ok)
			}
		}
	}
	cases := []struct {
		a    impl.Algebra
		k    int
		want impl.Algebra
	}{
		{bare(2), 3, bare(8)}, {bare(2), 0, bare(1)}, {bare(3), 2, impl.Algebra{}}, {bare(3), 3, impl.Algebra{}}, {bare(8), 1, bare(8)}, {bare(8), 0, bare(1)}, {bare(8), 2, impl.Algebra{}}, {bare(1), 3, bare(1)},
		{constantsAlone(2, 1), 3, constantsAlone(8, 7)}, {constantsAlone(2, 1, 0), 2, constantsAlone(4, 3, 0)}, {constantsAlone(8, 5, 2), 0, constantsAlone(1, 0, 0)}, {unevenOf(1, 0, 3), 3, unevenOf(1, 0, 3)},
		{unaries(2, []int{1, 1}), 2, unaries(4, []int{3, 3, 3, 3})}, {unaries(2, []int{1, 0}), 3, unaries(8, []int{7, 6, 5, 4, 3, 2, 1, 0})}, {sums(3), 0, sums(1)}, {unevenOf(8, 3, 3), 0, unevenOf(1, 3, 3)}, {lesser(3), 2, impl.Algebra{}},
	}
	for _, c := range cases {
		if p, ok := impl.PowerOf(c.a, c.k); ok != (c.want.Size > 0) || !sameAlgebra(p, c.want) {
			t.Error("power", c.a, c.k, p, ok, "not", c.want)
		}
	}
}

func TestMostTuples(t *testing.T) {
	cases := []struct {
		a    impl.Algebra
		want int
	}{
		{bare(1), 300}, {bare(8), 300}, {constantsAlone(3, 1), 300}, {constantsAlone(1, 0, 0, 0, 0), 300}, {successors(4), 300}, {unevenOf(8, 0, 1, 0, 1), 300}, {unevenOf(1, 1), 300},
		{sums(2), 200}, {unevenOf(1, 2), 200}, {unevenOf(5, 2, 1, 0), 200}, {unevenOf(5, 0, 1, 1, 2), 200}, {unevenOf(3, 2, 2, 2, 2), 200},
		{cosets(2), 40}, {unevenOf(1, 3), 40}, {unevenOf(2, 3, 2, 1, 0), 40}, {unevenOf(2, 0, 1, 2, 3), 40}, {unevenOf(8, 1, 3, 2), 40}, {unevenOf(8, 3, 3, 3, 3), 40},
	}
	for _, c := range cases {
		if n, ok := impl.MostTuples(c.a); !ok || n != c.want {
			t.Error("most tuples of", c.a, n, ok, "not", c.want)
		}
	}
}

// mostByRule is MostTuples of a valid Algebra.
func mostByRule(a impl.Algebra) int {
	most := 300
	for _, f := range a.Ops {
		switch {
		case f.Arity == 3:
			most = min(most, 40)
		case f.Arity == 2:
			most = min(most, 200)
		}
	}
	return most
}

// appliedByRule returns the value of an operation for some tuples of the length k.
func appliedByRule(a impl.Algebra, k, op int, tuples [][]int) []int {
	value := make([]int, k)
	for p := range value {
		args := make([]int, len(tuples))
		for i, t := range tuples {
			args[i] = t[p]
		}
		value[p] = valueFor(a, op, args, sameNumber)
	}
	return value
}

// eachValue visits the values of all operations for all lists of some tuples.
func eachValue(a impl.Algebra, k int, tuples [][]int, visit func(op int, args [][]int, value []int)) {
	for op, f := range a.Ops {
		eachArgs(firstNumbers(len(tuples)), f.Arity, func(places []int) {
			args := make([][]int, len(places))
			for i, p := range places {
				args[i] = tuples[p]
			}
			visit(op, args, appliedByRule(a, k, op, args))
		})
	}
}

// keyOf returns a text for a tuple, to look it up.
func keyOf(u []int) string {
	key := make([]byte, len(u))
	for p, x := range u {
		key[p] = byte(x)
	}
	return string(key)
}

func allMet(tuples [][]int) map[string]bool {
	met := map[string]bool{}
	for _, u := range tuples {
		met[keyOf(u)] = true
	}
	return met
}

// closedTuples reports whether a list has the value of each operation for all its tuples.
func closedTuples(a impl.Algebra, k int, tuples [][]int) bool {
	met, closed := allMet(tuples), true
	eachValue(a, k, tuples, func(_ int, _ [][]int, value []int) { closed = closed && met[keyOf(value)] })
	return closed
}

// ordered returns all different lists in lexicographic order.
func ordered(lists [][]int) [][]int {
	lists = slices.Clone(lists)
	slices.SortFunc(lists, slices.Compare[[]int])
	return slices.CompactFunc(lists, slices.Equal[[]int])
}

// grownByRule returns what some tuples generate, with all values again and again; it fails if there
// are too many.
func grownByRule(a impl.Algebra, k int, gens [][]int) ([][]int, bool) {
	all := ordered(gens)
	for {
		met, next := allMet(all), all
		eachValue(a, k, all, func(_ int, _ [][]int, value []int) {
			if key := keyOf(value); !met[key] {
				met[key] = true
				next = append(next[:len(next):len(next)], value)
			}
		})
		if len(next) > mostByRule(a) {
			return nil, false
		}
		if len(next) == len(all) {
			return ordered(all), true
		}
		all = next
	}
}

// projectedByRule returns the parts of some tuples at some places.
func projectedByRule(tuples [][]int, places []int) [][]int {
	var parts [][]int
	for _, t := range tuples {
		var part []int
		for _, p := range places {
			part = append(part, t[p])
		}
		parts = append(parts, part)
	}
	return ordered(parts)
}

// checkSubpower compares what is told of a subpower with the rules.
func checkSubpower(t *testing.T, a impl.Algebra, k int, r [][]int) {
	t.Helper()
	if is, ok := impl.IsSubpower(a, k, r); !ok || !is {
		t.Fatal("is a subpower", a, k, r, is, ok)
	}
	whole := true
	for p := range k {
		part := projectedByRule(r, []int{p})
		whole = whole && len(part) == a.Size
		// Long lists take their time.
		if p%31 > 4 {
			continue
		}
		if l, ok := impl.ProjectTo(a, k, r, []int{p}); !ok || !sameLists(l, part) {
			t.Fatal("at the place", p, a, k, r, l, ok)
		}
	}
	if is, ok := impl.IsSubdirect(a, k, r); !ok || is != whole {
		t.Fatal("subdirect", a, k, r, is, ok)
	}
	turned := firstNumbers(k)
	slices.Reverse(turned)
	for _, places := range [][]int{firstNumbers(k), turned, {0, 0}, {k - 1, 0, k - 1}, {k / 2, k - 1}, slices.Repeat([]int{k / 2}, 64), slices.Repeat(turned, 64/k)} {
		want := projectedByRule(r, places)
		if l, ok := impl.ProjectTo(a, k, r, places); !ok || !sameLists(l, want) {
			t.Fatal("projected to", places, a, k, r, l, ok, "not", want)
		}
	}
	for _, places := range [][]int{nil, {}, {-1}, {k}, {0, k}, {k, 0}, {0, -1}, {math.MaxInt}, {math.MinInt}, slices.Repeat([]int{0}, 65)} {
		if l, ok := impl.ProjectTo(a, k, r, places); ok || len(l) != 0 {
			t.Fatal("projected to", places, l, ok)
		}
	}
	if m, ok := impl.MeetSubpowers(a, k, r, r); !ok || !sameLists(m, r) {
		t.Fatal("with itself", a, k, r, m, ok)
	}
	checkAlgebraOf(t, a, k, r)
}

// checkAlgebraOf compares the Algebra of a subpower with the operations on the tuples.
func checkAlgebraOf(t *testing.T, a impl.Algebra, k int, r [][]int) {
	t.Helper()
	b, ok := impl.AlgebraOfSubpower(a, k, r)
	if len(r) == 0 || len(r) > 8 {
		if ok || !isZeroAlgebra(b) {
			t.Fatal("Algebra of", a, k, r, b, ok)
		}
		return
	}
	want := impl.Algebra{Size: len(r)}
	for _, f := range a.Ops {
		want.Ops = append(want.Ops, impl.Op{Arity: f.Arity})
	}
	eachValue(a, k, r, func(op int, _ [][]int, value []int) {
		at := slices.IndexFunc(r, func(u []int) bool { return slices.Equal(u, value) })
		want.Ops[op].Table = append(want.Ops[op].Table, at)
	})
	if !ok || !impl.IsAlgebra(b) || !sameAlgebra(b, want) {
		t.Fatal("Algebra of", a, k, r, b, ok, "not", want)
	}
}

// checkNoSubpower uses a list that is no subpower where one is asked for.
func checkNoSubpower(t *testing.T, a impl.Algebra, k int, r [][]int) {
	t.Helper()
	l, one := impl.ProjectTo(a, k, r, []int{0})
	is, two := impl.IsSubdirect(a, k, r)
	b, three := impl.AlgebraOfSubpower(a, k, r)
	if one || two || three || is || len(l) != 0 || !isZeroAlgebra(b) {
		t.Errorf("no subpower %v %d %.80s: %v %v %v", a, k, fmt.Sprint(r), l, is, b)
	}
	all, _ := impl.Diagonal(a, k)
	for i, pair := range [][2][][]int{{r, all}, {all, r}, {r, r}} {
		if l, ok := impl.MeetSubpowers(a, k, pair[0], pair[1]); ok || len(l) != 0 {
			t.Errorf("no subpower %v %d %.80s: meet %d %v", a, k, fmt.Sprint(r), i, l)
		}
	}
}

// refuse is checkNoSubpower for a length and an Algebra that are all right.
func refuse(t *testing.T, a impl.Algebra, k int, r [][]int) {
	t.Helper()
	if is, ok := impl.IsSubpower(a, k, r); !ok || is {
		t.Errorf("no subpower %v %d %.80s: %v %v", a, k, fmt.Sprint(r), is, ok)
	}
	checkNoSubpower(t, a, k, r)
}

// spaces returns Algebras and lengths for which there are just a few tuples.
func spaces() []struct {
	a impl.Algebra
	k int
} {
	type space = struct {
		a impl.Algebra
		k int
	}
	var list []space
	twos := []impl.Algebra{bare(2), constantsAlone(2, 1), constantsAlone(2, 1, 0), successors(2), sums(2), lesser(2), cosets(2), with(lesser(2), 0, 1), with(cosets(2), 0, 0), unevenOf(2, 0, 1, 2, 3), unevenOf(2, 3, 2), unevenOf(2, 2, 1), with(lesser(2), 1, 1, 0), tower(2), opOf(2, 3, func(x []int) int { return (x[0] + x[1] + x[2]) / 2 })}
	for _, table := range argsOf(2, 4) {
		twos = append(twos, with(bare(2), 2, table...))
	}
	for _, a := range twos {
		list = append(list, space{a, 1}, space{a, 2}, space{a, 3})
	}
	for seed := range 6 {
		list = append(list, space{mixed(3, seed, 2), 2}, space{mixed(3, seed, 1, 0), 2}, space{mixed(3, seed, 3), 2}, space{mixed(2, seed, 3, 1), 3}, space{mixed(8, seed, 2), 1}, space{mixed(7, seed, 1, 0, 2), 1}, space{mixed(6, seed, 3), 1})
	}
	for _, a := range []impl.Algebra{bare(3), sums(3), lesser(3), cosets(3), successors(3), unevenOf(3, 1, 2), constantsAlone(3, 2, 0)} {
		list = append(list, space{a, 1}, space{a, 2})
	}
	return append(list, space{bare(1), 1}, space{unevenOf(1, 2), 3}, space{constantsAlone(1, 0), 5}, space{unevenOf(1, 0, 1, 2, 3), 64}, space{bare(1), 64})
}

// Each list of tuples is tried, and subpowers are those that are closed.
func TestAllSubpowers(t *testing.T) {
	t.Parallel()
	for _, s := range spaces() {
		tuples := argsOf(s.a.Size, s.k)
		var subpowers [][][]int
		for _, chosenPlaces := range ascending(len(tuples)) {
			var r [][]int
			for _, i := range chosenPlaces {
				r = append(r, tuples[i])
			}
			slices.SortFunc(r, slices.Compare[[]int])
			if !closedTuples(s.a, s.k, r) {
				refuse(t, s.a, s.k, r)
				continue
			}
			subpowers = append(subpowers, r)
			if len(subpowers)%7 < 3 {
				checkSubpower(t, s.a, s.k, r)
			}
		}
		for i, r := range subpowers {
			for j := i % 5; j < len(subpowers); j += 5 {
				want := chosen(r, func(u []int) bool { return isIn(subpowers[j], u) })
				if m, ok := impl.MeetSubpowers(s.a, s.k, r, subpowers[j]); !ok || !sameLists(m, want) {
					t.Fatal("meet", s.a, s.k, r, subpowers[j], m, ok, "not", want)
				}
			}
		}
		checkLeast(t, s.a, s.k, tuples, subpowers)
	}
}

// checkLeast compares what tuples generate with the subpower of the fewest tuples that has them.
func checkLeast(t *testing.T, a impl.Algebra, k int, tuples [][]int, subpowers [][][]int) {
	t.Helper()
	least := func(gens [][]int) [][]int {
		var best [][]int
		found := false
		for _, r := range subpowers {
			has := !slices.ContainsFunc(gens, func(g []int) bool { return !isIn(r, g) })
			if has && (!found || len(r) < len(best)) {
				best, found = r, true
			}
		}
		return best
	}
	for _, places := range ascending(len(tuples)) {
		if len(places) > 4 && len(places) < len(tuples) {
			continue
		}
		var gens [][]int
		for _, i := range places {
			gens = append(gens, tuples[i])
		}
		want := least(gens)
		slices.Reverse(gens)
		for range 2 {
			if l, ok := impl.GenerateSubpower(a, k, gens); !ok || !sameLists(l, want) {
				t.Fatal("generated by", gens, a, k, l, ok, "not", want)
			}
			// The same ones again, and some twice.
			gens = append(gens, gens[:len(gens)/2+len(gens)%2]...)
		}
	}
}

func TestApplyTo(t *testing.T) {
	for _, a := range append(someAlgebras(), sums(5), lesser(8), cosets(7), successors(6)) {
		for op, f := range a.Ops {
			for _, k := range []int{1, 2, 5, 63, 64} {
				var tuples [][]int
				for i := range f.Arity {
					tuples = append(tuples, make([]int, k))
					for p := range k {
						tuples[i][p] = (p*p*(i+2) + i + p/3) % a.Size
					}
				}
				if f.Arity == 0 {
					continue
				}
				want := appliedByRule(a, k, op, tuples)
				if v, ok := impl.ApplyTo(a, op, tuples); !ok || !slices.Equal(v, want) {
					t.Fatal("applied", a, op, tuples, v, ok, "not", want)
				}
			}
		}
	}
	cases := []struct {
		a      impl.Algebra
		op     int
		tuples [][]int
		want   []int
	}{
		{sums(3), 0, [][]int{{2, 1, 0}, {2, 2, 2}}, []int{1, 0, 2}}, {successors(3), 0, [][]int{{2, 1, 0}}, []int{0, 2, 1}}, {opOf(3, 2, func(x []int) int { return x[0] }), 0, [][]int{{2, 1}, {0, 0}}, []int{2, 1}}, {opOf(3, 3, func(x []int) int { return x[2] }), 0, [][]int{{2}, {0}, {1}}, []int{1}},
		{unevenOf(2, 0, 1), 1, [][]int{{0, 1}}, appliedByRule(unevenOf(2, 0, 1), 2, 1, [][]int{{0, 1}})}, {sums(1), 0, [][]int{fullOf(64), fullOf(64)}, fullOf(64)},
		// An operation of the Arity 0, and numbers that are no operations.
		{constantsAlone(2, 1), 0, nil, nil}, {constantsAlone(2, 1), 0, [][]int{{0}}, nil}, {unevenOf(2, 1, 0), 1, [][]int{}, nil}, {unevenOf(2, 1, 0), 1, [][]int{{1}}, nil}, {successors(2), 1, [][]int{{0}}, nil}, {successors(2), -1, [][]int{{0}}, nil}, {bare(2), 0, [][]int{{0}}, nil}, {bare(2), 0, nil, nil}, {successors(2), math.MaxInt, [][]int{{0}}, nil}, {successors(2), math.MinInt, [][]int{{0}}, nil},
		// Too few and too many tuples.
		{successors(2), 0, nil, nil}, {successors(2), 0, [][]int{{0}, {0}}, nil}, {sums(2), 0, [][]int{}, nil}, {sums(2), 0, [][]int{{0}}, nil}, {sums(2), 0, [][]int{{0}, {0}, {0}}, nil}, {cosets(2), 0, [][]int{{0}, {0}}, nil}, {cosets(2), 0, [][]int{{0}, {0}, {0}, {0}}, nil},
		// Tuples of different lengths, and of lengths out of range.
		{sums(2), 0, [][]int{{0}, {0, 1}}, nil}, {sums(2), 0, [][]int{{0, 1}, {0}}, nil}, {sums(2), 0, [][]int{{0}, nil}, nil}, {sums(2), 0, [][]int{nil, {0}}, nil}, {cosets(2), 0, [][]int{{0}, {0}, {0, 0}}, nil}, {cosets(2), 0, [][]int{{0, 0}, {0}, {0, 0}}, nil},
		{sums(2), 0, [][]int{nil, nil}, nil}, {sums(2), 0, [][]int{{}, {}}, nil}, {successors(2), 0, [][]int{{}}, nil}, {successors(2), 0, [][]int{fullOf(65)}, nil}, {sums(2), 0, [][]int{fullOf(65), fullOf(65)}, nil}, {sums(2), 0, [][]int{fullOf(64), fullOf(65)}, nil}, {sums(2), 0, [][]int{fullOf(65), fullOf(64)}, nil},
		// Numbers that are no elements.
		{sums(2), 0, [][]int{{0, 2}, {0, 0}}, nil}, {sums(2), 0, [][]int{{0, 0}, {-1, 0}}, nil}, {successors(8), 0, [][]int{{8}}, nil}, {successors(8), 0, [][]int{{256}}, nil}, {successors(8), 0, [][]int{{-256}}, nil}, {successors(8), 0, [][]int{{math.MaxInt}}, nil}, {successors(8), 0, [][]int{{math.MinInt}}, nil},
	}
	for _, c := range cases {
		if v, ok := impl.ApplyTo(c.a, c.op, c.tuples); ok != (c.want != nil) || !slices.Equal(v, c.want) {
			t.Error("applied", c.a, c.op, c.tuples, v, ok, "not", c.want)
		}
	}
}

func TestNoSubpowers(t *testing.T) {
	s := lesser(2)
	all := argsOf(2, 2)
	checkSubpower(t, s, 2, all)
	cases := []struct {
		a impl.Algebra
		k int
		r [][]int
	}{
		// In another order, and with a tuple twice.
		{s, 2, [][]int{{0, 1}, {0, 0}, {1, 0}, {1, 1}}}, {s, 2, [][]int{{0, 0}, {0, 1}, {1, 1}, {1, 0}}}, {s, 2, [][]int{{1, 1}, {0, 0}}}, {s, 2, [][]int{{0, 0}, {0, 0}}}, {s, 2, [][]int{{0, 0}, {1, 1}, {1, 1}}}, {bare(2), 3, [][]int{{1, 0, 0}, {0, 1, 1}}}, {bare(2), 3, [][]int{{0, 1, 1}, {0, 1, 0}}},
		// Tuples of another length.
		{s, 2, [][]int{{0}}}, {s, 2, [][]int{nil}}, {s, 2, [][]int{{}}}, {s, 2, [][]int{{0, 0, 0}}}, {s, 2, [][]int{{0, 0}, {1}}}, {s, 2, [][]int{{0}, {0, 1}}}, {s, 2, [][]int{{0, 0}, {1, 1, 1}}}, {bare(2), 1, [][]int{{0}, {1, 0}}}, {bare(1), 64, [][]int{fullOf(63)}}, {bare(1), 64, [][]int{fullOf(65)}}, {bare(1), 1, [][]int{fullOf(1 << 12)}},
		// Numbers that are no elements.
		{s, 2, [][]int{{0, 2}}}, {s, 2, [][]int{{0, 0}, {0, 2}}}, {s, 2, [][]int{{-1, 0}, {0, 0}}}, {bare(2), 1, [][]int{{math.MinInt}}}, {bare(2), 1, [][]int{{math.MaxInt}}}, {bare(8), 1, [][]int{{8}}}, {bare(8), 1, [][]int{{0}, {256}}}, {bare(8), 1, [][]int{{-256}, {0}}}, {bare(1), 2, [][]int{{0, 0}, {0, 1}}},
		// Not closed: the values of all operations count, and of all arguments.
		{s, 2, [][]int{{0, 1}, {1, 0}}}, {constantsAlone(2, 1), 1, nil}, {constantsAlone(2, 1), 1, [][]int{{0}}}, {constantsAlone(2, 1, 0), 2, [][]int{{0, 0}, {0, 1}}}, {constantsAlone(2, 1), 2, [][]int{{0, 1}, {1, 0}}}, {with(s, 0, 1), 2, [][]int{}}, {with(s, 0, 1), 2, [][]int{{0, 0}}}, {successors(2), 2, [][]int{{0, 1}}}, {with(bare(2), 1, 0, 0), 2, [][]int{{1, 1}}},
		{opOf(2, 2, func(x []int) int { return x[0] * (1 - x[1]) }), 1, [][]int{{1}}}, {opOf(3, 2, func(x []int) int { return x[0] / 2 * (2 - x[1]) }), 1, [][]int{{1}, {2}}}, {opOf(3, 2, func(x []int) int { return x[1] / 2 * (2 - x[0]) }), 1, [][]int{{1}, {2}}}, {cosets(3), 1, [][]int{{0}, {1}}}, {opOf(8, 3, func(x []int) int { return min(x[0], x[1]*x[2]/6) }), 1, [][]int{{2}, {3}}},
	}
	for _, c := range cases {
		refuse(t, c.a, c.k, c.r)
	}
	for _, a := range []impl.Algebra{bare(2), s, cosets(2), successors(2)} {
		checkSubpower(t, a, 3, nil)
		checkSubpower(t, a, 64, [][]int{})
	}
	for _, a := range []impl.Algebra{bare(1), bare(2), s, constantsAlone(2, 1), cosets(2)} {
		for _, k := range wrongLengths() {
			n := min(max(k, 0), 128)
			for _, r := range [][][]int{nil, {}, {nil}, {fullOf(n)}, {fullOf(1)}, {fullOf(64)}, {fullOf(n), slices.Repeat([]int{1}, n)}} {
				if is, ok := impl.IsSubpower(a, k, r); ok || is {
					t.Error("subpower of the length", k, a, is, ok)
				}
				checkNoSubpower(t, a, k, r)
				if l, ok := impl.GenerateSubpower(a, k, r); ok || len(l) != 0 {
					t.Error("generated, of the length", k, a, l, ok)
				}
				if l, ok := impl.TermsFor(a, k, r); ok || len(l) != 0 {
					t.Error("terms, of the length", k, a, l, ok)
				}
				for _, u := range [][]int{nil, fullOf(n), fullOf(1), fullOf(64)} {
					f, one := impl.FirstTermFor(a, k, r, u)
					is, two := impl.DoesMake(a, k, r, []int{0}, u)
					if one || two || is || len(f) != 0 {
						t.Error("term, of the length", k, a, f, is)
					}
				}
			}
			if l, ok := impl.Diagonal(a, k); ok || len(l) != 0 {
				t.Error("diagonal of the length", k, a, l, ok)
			}
		}
	}
}

// firstOf has the value of the first argument, so that each list of tuples is closed.
func firstOf(size, arity int) impl.Algebra {
	return opOf(size, arity, func(x []int) int { return x[0] })
}

// Just MostTuples tuples are a subpower, and one more is none.
func TestLongestSubpowers(t *testing.T) {
	t.Parallel()
	cases := []struct {
		a    impl.Algebra
		most int
	}{
		{bare(8), 300}, {firstOf(8, 1), 300}, {constantsAlone(8, 0, 0), 300}, {firstOf(8, 2), 200}, {opOf(8, 2, func(x []int) int { return x[1] }), 200}, {with(firstOf(8, 2), 1, firstNumbers(8)...), 200}, {firstOf(8, 3), 40}, {opOf(8, 3, func(x []int) int { return x[2] }), 40}, {with(firstOf(8, 3), 0, 0), 40}, {algebraOf(8, []int{3, 3, 3, 3}, func(_, at int) int { return at % 8 }), 40}, {algebraOf(8, []int{2, 2, 2, 2}, func(_, at int) int { return at / 8 }), 200},
	}
	for _, c := range cases {
		for _, k := range []int{3, 64} {
			var tuples [][]int
			for _, u := range argsOf(8, 3) {
				tuples = append(tuples, slices.Concat(fullOf(k-3), u))
			}
			if len(c.a.Ops) < 4 {
				checkSubpower(t, c.a, k, tuples[:c.most])
			}
			if is, ok := impl.IsSubpower(c.a, k, tuples[:c.most]); !ok || !is {
				t.Error("just as many as there may be", c.a.Size, c.most, is, ok)
			}
			refuse(t, c.a, k, tuples[:c.most+1])
			refuse(t, c.a, k, tuples)
			half := chosen(tuples[:c.most], func(u []int) bool { return u[k-1]%2 == 0 })
			if m, ok := impl.MeetSubpowers(c.a, k, tuples[:c.most], half); !ok || !sameLists(m, half) {
				t.Error("meet", c.a.Size, c.most, len(m), ok)
			}
			if m, ok := impl.MeetSubpowers(c.a, k, tuples[:c.most+1], half); ok || len(m) != 0 {
				t.Error("meet of a longer list", len(m), ok)
			}
		}
	}
}

func TestDiagonals(t *testing.T) {
	for _, a := range append(someAlgebras(), bare(1), bare(8), constantsAlone(3, 2, 1), lesser(5)) {
		for _, k := range []int{1, 2, 3, 63, 64} {
			l, ok := impl.Diagonal(a, k)
			if !ok || len(l) != a.Size || len(slices.Concat(l...)) != k*a.Size {
				t.Fatal("diagonal", a, k, l, ok)
			}
			for x, u := range l {
				if slices.Max(u) != x || slices.Min(u) != x {
					t.Fatal("diagonal", a, k, l)
				}
			}
			checkSubpower(t, a, k, l)
		}
		for _, k := range wrongLengths() {
			if l, ok := impl.Diagonal(a, k); ok || len(l) != 0 {
				t.Fatal("diagonal", a, k, l, ok)
			}
		}
	}
}

func TestSubpowerCases(t *testing.T) {
	s := lesser(2)
	all := [][]int{{0, 0}, {0, 1}, {1, 0}}
	projections := []struct {
		a      impl.Algebra
		k      int
		r      [][]int
		places []int
		want   [][]int
	}{
		{s, 2, all, []int{0}, [][]int{{0}, {1}}}, {s, 2, all, []int{1, 0}, all}, {s, 2, all, []int{1, 1}, [][]int{{0, 0}, {1, 1}}}, {bare(3), 2, [][]int{{0, 2}, {1, 0}, {2, 2}}, []int{1, 0}, [][]int{{0, 1}, {2, 0}, {2, 2}}}, {bare(3), 3, [][]int{{0, 2, 1}, {1, 2, 0}}, []int{1}, [][]int{{2}}},
		{bare(3), 2, [][]int{{0, 2}, {1, 0}}, []int{1, 0, 1}, [][]int{{0, 1, 0}, {2, 0, 2}}}, {s, 2, nil, []int{1}, nil}, {bare(2), 64, nil, []int{63}, nil},
	}
	for _, c := range projections {
		if l, ok := impl.ProjectTo(c.a, c.k, c.r, c.places); !ok || !sameLists(l, c.want) {
			t.Error("projected", c.a, c.r, c.places, l, ok)
		}
	}
	meets := []struct {
		a    impl.Algebra
		k    int
		r, s [][]int
		want [][]int
	}{
		{s, 2, all, [][]int{{0, 0}, {1, 1}}, [][]int{{0, 0}}}, {s, 2, all, [][]int{{1, 1}}, nil}, {s, 2, [][]int{{1, 1}}, all, nil}, {s, 2, all, nil, nil}, {s, 2, nil, all, nil}, {s, 2, nil, nil, nil}, {bare(2), 1, [][]int{{0}}, [][]int{{1}}, nil}, {bare(8), 1, [][]int{{0}, {3}, {5}, {7}}, [][]int{{1}, {3}, {4}, {7}}, [][]int{{3}, {7}}},
	}
	for _, c := range meets {
		if l, ok := impl.MeetSubpowers(c.a, c.k, c.r, c.s); !ok || !sameLists(l, c.want) {
			t.Error("meet", c.a, c.r, c.s, l, ok)
		}
	}
	subdirect := []struct {
		a    impl.Algebra
		k    int
		r    [][]int
		want bool
	}{
		{s, 2, all, true}, {s, 2, [][]int{{0, 0}, {1, 1}}, true}, {s, 2, [][]int{{0, 0}, {1, 0}}, false}, {s, 2, [][]int{{0, 0}, {0, 1}}, false}, {s, 2, [][]int{{1, 1}}, false}, {s, 2, nil, false}, {bare(1), 2, nil, false}, {bare(1), 64, [][]int{fullOf(64)}, true}, {bare(3), 2, [][]int{{0, 1}, {1, 2}, {2, 0}}, true}, {bare(3), 2, [][]int{{0, 1}, {1, 2}, {2, 1}}, false}, {bare(3), 2, [][]int{{0, 1}, {0, 2}, {2, 0}}, false},
	}
	for _, c := range subdirect {
		if is, ok := impl.IsSubdirect(c.a, c.k, c.r); !ok || is != c.want {
			t.Error("subdirect", c.a, c.r, is, ok)
		}
	}
	// The Algebra of just MaxSize tuples, of one more, of one, and of none.
	eight := argsOf(2, 3)
	want := opOf(8, 2, func(x []int) int { return x[0] & x[1] })
	if b, ok := impl.AlgebraOfSubpower(s, 3, eight); !ok || !sameAlgebra(b, want) {
		t.Error("Algebra of eight tuples", b, ok)
	}
	checkAlgebraOf(t, lesser(3), 2, argsOf(3, 2))
	checkAlgebraOf(t, bare(8), 2, argsOf(8, 2)[:8])
	checkAlgebraOf(t, bare(8), 2, argsOf(8, 2)[:9])
	checkAlgebraOf(t, s, 2, [][]int{{1, 0}})
	checkAlgebraOf(t, s, 2, nil)
	checkAlgebraOf(t, constantsAlone(3, 2, 1), 2, [][]int{{0, 1}, {1, 1}, {2, 2}})
}

// chains returns tuples of which each list of some chains has one number below 7 at its own place,
// as many as the chain is long. With the lesser one of two elements, each choice of one number or
// 7 for each place is generated, but not the one with 7 alone.
func chains(lengths ...int) [][]int {
	var gens [][]int
	for place, n := range lengths {
		for i := range n {
			u := slices.Repeat([]int{7}, len(lengths))
			u[place] = 6 - i
			gens = append(gens, u)
		}
	}
	return gens
}

// marked returns the tuples that begin with some elements and have behind them, at each of some
// places, the element first or last, so that no unary operations that keep last lead from one to
// another.
func marked(count int, first, last int, begin ...int) [][]int {
	var gens [][]int
	for _, marks := range argsOf(2, 4)[:count] {
		u := slices.Clone(begin)
		for _, m := range marks {
			u = append(u, []int{first, last}[m])
		}
		gens = append(gens, u)
	}
	return gens
}

// widened returns the tuples with the last element repeated, up to the length MaxLength.
func widened(gens [][]int) [][]int {
	var wide [][]int
	for _, u := range gens {
		wide = append(wide, slices.Concat(u, slices.Repeat(u[len(u)-1:], 64-len(u))))
	}
	return wide
}

// turns has all permutations of 0, 1, 2 and each turn of 3, 4, 5, 6.
func turns() impl.Algebra {
	return unaries(8, []int{1, 2, 0, 4, 5, 6, 3, 7}, []int{1, 0, 2, 3, 4, 5, 6, 7})
}

// just300 returns tuples that generate 300 tuples: twelve times 24 and twelve.
func just300() [][]int {
	return append(marked(12, 0, 7, 0, 1, 2, 3), []int{0, 0, 0, 3, 7, 7, 7, 7})
}

// shifts turns 0, 1, 2, 3, 4, and exchanges 5 and 6.
func shifts() []int { return []int{1, 2, 3, 4, 0, 6, 5, 7} }

// limitCase has tuples that generate just count tuples.
type limitCase struct {
	a     impl.Algebra
	gens  [][]int
	count int
}

// limitCases returns lists that generate just MostTuples tuples, one more, and fewer.
func limitCases() []limitCase {
	three := opOf(8, 3, func(x []int) int { return min(x[0], x[1], x[2]) })
	top := func(gens [][]int) [][]int { return append(slices.Clone(gens), slices.Repeat([]int{7}, len(gens[0]))) }
	ends := func(gens [][]int) [][]int { return append(top(gens), fullOf(len(gens[0]))) }
	many := chains(1, 1, 1, 4, 4)
	few := chains(1, 1, 1, 4)
	return []limitCase{
		{lesser(8), many, 199}, {lesser(8), top(many), 200}, {lesser(8), ends(many), 201}, {lesser(8), chains(1, 1, 1, 1, 1, 1, 1), 127}, {lesser(8), chains(1, 1, 1, 1, 1, 1, 1, 1), 255}, {lesser(8), chains(1, 1, 1, 1, 1, 1, 1, 1, 1, 1, 1, 1, 1, 1, 1, 1, 1, 1, 1, 1), 1<<20 - 1},
		{with(lesser(8), 0, 7), many, 200}, {with(with(lesser(8), 0, 7), 0, 0), many, 201}, {with(lesser(8), 0, 0), top(many), 201}, {with(lesser(8), 2, lesser(8).Ops[0].Table...), top(many), 200}, {with(lesser(8), 1, firstNumbers(8)...), top(many), 200},
		{three, few, 39}, {three, top(few), 40}, {three, ends(few), 41}, {with(three, 0, 7), few, 40}, {with(with(three, 0, 0), 0, 7), few, 41}, {with(lesser(8), 3, three.Ops[0].Table...), top(few), 40}, {with(lesser(8), 3, three.Ops[0].Table...), ends(few), 41}, {three, chains(1, 1, 1, 1, 1, 1), 63}, {with(lesser(8), 3, firstOf(8, 3).Ops[0].Table...), top(few), 40}, {with(lesser(8), 3, firstOf(8, 3).Ops[0].Table...), ends(few), 41},
		{turns(), just300(), 300}, {turns(), top(just300()), 301}, {with(turns(), 0, 7), just300(), 301}, {turns(), marked(13, 0, 7, 0, 1, 2, 3), 312}, {with(turns(), 0, 3), just300()[:12], 292},
		// No more than six generators, so that terms are told.
		{with(with(bare(8), 1, shifts()...), 3, firstOf(8, 3).Ops[0].Table...), marked(4, 0, 7, 0, 5), 40}, {with(with(bare(8), 1, shifts()...), 3, firstOf(8, 3).Ops[0].Table...), top(marked(4, 0, 7, 0, 5)), 41},
		{with(unaries(8, shifts(), []int{0, 2, 4, 1, 3, 5, 6, 7}), 2, firstOf(8, 2).Ops[0].Table...), marked(5, 0, 7, 0, 1, 5), 200}, {with(unaries(8, shifts(), []int{0, 2, 4, 1, 3, 5, 6, 7}), 2, firstOf(8, 2).Ops[0].Table...), top(marked(5, 0, 7, 0, 1, 5)), 201},
		{unaries(8, []int{1, 2, 3, 4, 0, 5, 6, 7}, []int{1, 0, 2, 3, 4, 5, 6, 7}), marked(5, 0, 7, 0, 1, 2), 300}, {unaries(8, []int{1, 2, 3, 4, 0, 5, 6, 7}, []int{1, 0, 2, 3, 4, 5, 6, 7}), top(marked(5, 0, 7, 0, 1, 2)), 301},
	}
}

func TestNumbersOfTuples(t *testing.T) {
	t.Parallel()
	for _, c := range limitCases() {
		for _, gens := range [][][]int{c.gens, widened(c.gens), widened(widened(c.gens))} {
			k := len(gens[0])
			l, ok := impl.GenerateSubpower(c.a, k, gens)
			if c.count > mostByRule(c.a) {
				if ok || len(l) != 0 {
					t.Error("too many", c.a, gens, len(l), ok)
				}
				continue
			}
			if !ok || len(l) != c.count || !sameLists(l, ordered(l)) || !closedTuples(c.a, k, l) {
				t.Error("generated", c.a, gens, len(l), ok, "not", c.count)
			}
			for _, g := range gens {
				if !isIn(l, g) {
					t.Error("lost", g)
				}
			}
			if is, ok := impl.IsSubpower(c.a, k, l); !ok || !is {
				t.Error("subpower", c.a, is, ok)
			}
			turned := slices.Clone(gens)
			slices.Reverse(turned)
			if m, ok := impl.GenerateSubpower(c.a, k, append(turned, turned[0])); !ok || !sameLists(m, l) {
				t.Error("generated in another order", c.a, len(m), ok)
			}
		}
	}
}

func TestGenerators(t *testing.T) {
	// No generators, with and without constants.
	cases := []struct {
		a    impl.Algebra
		k    int
		gens [][]int
		want [][]int
	}{
		{bare(2), 1, nil, nil}, {lesser(3), 64, nil, nil}, {cosets(3), 3, [][]int{}, nil}, {constantsAlone(3, 2), 2, nil, [][]int{{2, 2}}}, {constantsAlone(3, 2, 0, 2), 2, nil, [][]int{{0, 0}, {2, 2}}}, {constantsAlone(8, 7), 64, nil, [][]int{slices.Repeat([]int{7}, 64)}}, {with(successors(3), 0, 1), 2, nil, [][]int{{0, 0}, {1, 1}, {2, 2}}}, {with(lesser(3), 0, 1), 1, nil, [][]int{{1}}},
		{constantsAlone(2, 1), 2, [][]int{{0, 1}}, [][]int{{0, 1}, {1, 1}}}, {constantsAlone(2, 1), 2, [][]int{{1, 1}}, [][]int{{1, 1}}}, {bare(2), 2, [][]int{{1, 0}, {0, 1}, {1, 0}}, [][]int{{0, 1}, {1, 0}}}, {lesser(2), 2, [][]int{{1, 0}, {0, 1}}, [][]int{{0, 0}, {0, 1}, {1, 0}}}, {sums(4), 1, [][]int{{2}}, [][]int{{0}, {2}}}, {cosets(4), 2, [][]int{{0, 1}, {2, 3}}, [][]int{{0, 1}, {2, 3}}},
		{successors(3), 2, [][]int{{0, 2}}, [][]int{{0, 2}, {1, 0}, {2, 1}}}, {unevenOf(1, 0, 3), 64, nil, [][]int{fullOf(64)}}, {unevenOf(1, 3), 64, nil, nil},
	}
	for _, c := range cases {
		if l, ok := impl.GenerateSubpower(c.a, c.k, c.gens); !ok || !sameLists(l, c.want) {
			t.Error("generated", c.a, c.k, c.gens, l, ok)
		}
	}
	// Just 20 generators, and one more, also if they are the same.
	some := argsOf(8, 2)
	for _, a := range []impl.Algebra{bare(8), firstOf(8, 1), firstOf(8, 2), firstOf(8, 3)} {
		if l, ok := impl.GenerateSubpower(a, 2, some[:20]); !ok || !sameLists(l, some[:20]) {
			t.Error("just twenty", a, l, ok)
		}
		if l, ok := impl.GenerateSubpower(a, 2, some[:21]); ok || len(l) != 0 {
			t.Error("twenty-one", a, l, ok)
		}
		if l, ok := impl.GenerateSubpower(a, 2, slices.Repeat(some[9:10], 20)); !ok || !sameLists(l, some[9:10]) {
			t.Error("twenty times", a, l, ok)
		}
		if l, ok := impl.GenerateSubpower(a, 2, slices.Repeat(some[9:10], 21)); ok || len(l) != 0 {
			t.Error("twenty-one times", a, l, ok)
		}
	}
	// Lists that are no tuples, at each place.
	for _, wrong := range [][]int{nil, {}, {0}, {0, 0, 0}, {0, 2}, {2, 0}, {-1, 0}, {0, math.MaxInt}, {math.MinInt, 0}, {256, 0}, make([]int, 1<<12)} {
		for i := range 3 {
			gens := [][]int{{0, 0}, {0, 1}, {1, 1}}
			gens[i] = wrong
			l, one := impl.GenerateSubpower(bare(2), 2, gens)
			m, two := impl.TermsFor(bare(2), 2, gens)
			f, three := impl.FirstTermFor(bare(2), 2, gens, []int{0, 1})
			is, four := impl.DoesMake(bare(2), 2, gens, []int{1}, []int{0, 1})
			if one || two || three || four || is || len(l)+len(m)+len(f) != 0 {
				t.Errorf("no tuple %.60s: %v %v %v %v", fmt.Sprint(wrong), l, m, f, is)
			}
		}
		f, one := impl.FirstTermFor(bare(2), 2, [][]int{{0, 0}}, wrong)
		is, two := impl.DoesMake(bare(2), 2, [][]int{{0, 0}}, []int{0}, wrong)
		if one || two || is || len(f) != 0 {
			t.Errorf("no tuple %.60s: %v %v", fmt.Sprint(wrong), f, is)
		}
	}
}

// What some tuples generate is what grows of them, in Algebras of all Sizes.
func TestGrownSubpowers(t *testing.T) {
	t.Parallel()
	done, failed := 0, 0
	for i, a := range append(subAlgebras(), termAlgebras()...) {
		if i%3 != 0 && a.Size < 7 {
			continue
		}
		for _, k := range []int{1, 2, 3, 5} {
			var gens [][]int
			for j := range i%4 + 1 {
				u := make([]int, k)
				for p := range u {
					u[p] = (i*j + p*p + j + p*(i/7)) % a.Size
				}
				gens = append(gens, u)
			}
			want, wantOk := grownByRule(a, k, gens)
			l, ok := impl.GenerateSubpower(a, k, gens)
			if ok != wantOk || !sameLists(l, want) {
				t.Fatal("generated", a, k, gens, len(l), ok, "not", len(want), wantOk)
			}
			if !ok {
				failed++
				continue
			}
			done++
			checkSubpower(t, a, k, l)
		}
	}
	if done < 300 || failed < 5 {
		t.Error("only few", done, failed)
	}
}

// madeByTree returns the tuple that a tree makes.
func madeByTree(a impl.Algebra, k int, gens [][]int, x tree) []int {
	made := make([]int, k)
	for p := range made {
		values := make([]int, len(gens))
		for v, g := range gens {
			values[v] = g[p]
		}
		made[p] = x.value(a, values)
	}
	return made
}

// treesInOrder returns all trees of at most n numbers in the order of their terms.
func treesInOrder(a impl.Algebra, n int, vars ...int) []tree {
	all := treesUpTo(a, n, vars...)
	slices.SortStableFunc(all, func(x, y tree) int {
		s, t := x.list(), y.list()
		if len(s) != len(t) {
			return len(s) - len(t)
		}
		return slices.Compare(s, t)
	})
	return all
}

// madeTuple is a tuple with a term that makes it.
type madeTuple struct {
	tuple []int
	term  []int
}

// firstByLength returns, by the keys of the tuples, the first one of all terms of at most 60 numbers
// for each tuple: it tells of each length, one after the other, what terms of this length make.
func firstByLength(a impl.Algebra, k int, gens [][]int) map[string][]int {
	first := map[string][]int{}
	sized := make([][]madeTuple, 61)
	for size := 1; size <= 60; size++ {
		var all []madeTuple
		if size == 1 {
			for v, g := range gens {
				all = append(all, madeTuple{g, []int{v}})
			}
		}
		for op, f := range a.Ops {
			eachParts(sized, f.Arity, size-1, nil, nil, func(args [][]int, behind []int) {
				value := appliedByRule(a, k, op, args)
				// Long lists would take too much room.
				if _, met := first[keyOf(value)]; !met {
					all = append(all, madeTuple{value, append([]int{-1 - op}, behind...)})
				}
			})
		}
		slices.SortFunc(all, func(x, y madeTuple) int { return slices.Compare(x.term, y.term) })
		for _, m := range all {
			if _, met := first[keyOf(m.tuple)]; !met {
				first[keyOf(m.tuple)] = m.term
				sized[size] = append(sized[size], m)
			}
		}
	}
	return first
}

// eachParts visits all lists of count tuples whose terms have total numbers together, and these terms.
func eachParts(sized [][]madeTuple, count, total int, args [][]int, behind []int, visit func(args [][]int, behind []int)) {
	if count == 0 {
		if total == 0 {
			visit(args, behind)
		}
		return
	}
	for size := 1; size <= total; size++ {
		for _, m := range sized[size] {
			eachParts(sized, count-1, total-size, append(args[:len(args):len(args)], m.tuple), append(behind[:len(behind):len(behind)], m.term...), visit)
		}
	}
}

// checkTerms compares what is told of terms with the first ones.
func checkTerms(t *testing.T, a impl.Algebra, k int, gens [][]int, first map[string][]int) {
	t.Helper()
	l, ok := impl.GenerateSubpower(a, k, gens)
	if !ok {
		t.Fatal("generated", a, k, gens, len(l))
	}
	var want [][]int
	short := true
	for _, u := range l {
		term, has := first[keyOf(u)]
		want = append(want, term)
		short = short && has
		if f, ok := impl.FirstTermFor(a, k, gens, u); ok != has || !slices.Equal(f, term) {
			t.Fatal("first term for", u, a, k, gens, f, ok, "not", term)
		}
		if !has {
			continue
		}
		if is, ok := impl.DoesMake(a, k, gens, term, u); !ok || !is || !slices.Equal(madeByTree(a, k, gens, treeOf(a, term)), u) {
			t.Fatal("makes", u, a, k, gens, term, is, ok)
		}
	}
	if !short {
		want = nil
	}
	if terms, ok := impl.TermsFor(a, k, gens); ok != short || !sameLists(terms, want) {
		t.Fatal("terms", a, k, gens, terms, ok, "not", want)
	}
}

// P8: a tuple is generated exactly if a term makes it, and the first such term is told.
func TestTuplesAndTerms(t *testing.T) {
	checked, later := 0, 0
	for i, s := range spaces() {
		if s.k > 5 {
			continue
		}
		tuples := argsOf(s.a.Size, s.k)
		for count := range 4 {
			var gens [][]int
			for j := range count {
				gens = append(gens, tuples[(i*5+j*(i+3))%len(tuples)])
			}
			n := 9 - 2*len(s.a.Ops) - min(count, 2)
			if len(s.a.Ops) == 0 {
				n = 3
			}
			l, _ := impl.GenerateSubpower(s.a, s.k, gens)
			first := map[string][]int{}
			for _, x := range treesInOrder(s.a, n, firstNumbers(count)...) {
				u := madeByTree(s.a, s.k, gens, x)
				if !isIn(l, u) {
					t.Fatal("made but not generated", s.a, s.k, gens, x.text(), u, l)
				}
				if _, met := first[keyOf(u)]; !met {
					first[keyOf(u)] = x.list()
				}
			}
			for _, u := range tuples {
				f, ok := impl.FirstTermFor(s.a, s.k, gens, u)
				if ok != isIn(l, u) {
					t.Fatal("generated but not made", s.a, s.k, gens, u, f, ok)
				}
				checked++
				if want, met := first[keyOf(u)]; met {
					if !slices.Equal(f, want) {
						t.Fatal("first term", s.a, s.k, gens, u, f, "not", want)
					}
				} else if ok {
					later++
					if len(f) <= n || !isTermByRule(s.a, f) || !slices.Equal(madeByTree(s.a, s.k, gens, treeOf(s.a, f)), u) {
						t.Fatal("a longer term", s.a, s.k, gens, u, f)
					}
				}
			}
			checkTerms(t, s.a, s.k, gens, firstByLength(s.a, s.k, gens))
		}
	}
	if checked < 2000 || later < 3 {
		t.Error("only few", checked, later)
	}
}

// All short terms, and all tuples, be they made of the generators or not.
func TestDoesMake(t *testing.T) {
	for i, a := range append(termAlgebras(), lesser(3), cosets(3), with(successors(3), 0, 2), mixed(3, 1, 2, 1)) {
		for _, k := range []int{1, 2} {
			tuples := argsOf(a.Size, k)
			for count := range 4 {
				var gens [][]int
				for j := range count {
					gens = append(gens, tuples[(i+j*(i+2))%len(tuples)])
				}
				for _, x := range treesUpTo(a, 4, 0, 1, 2, 5) {
					vars := x.vars()
					known := len(vars) == 0 || vars[len(vars)-1] < count
					for _, u := range tuples {
						want := known && slices.Equal(madeByTree(a, k, gens, x), u)
						if is, ok := impl.DoesMake(a, k, gens, x.list(), u); !ok || is != want {
							t.Fatal("makes", a, k, gens, x.text(), u, is, ok, "not", want)
						}
					}
				}
				for _, list := range badLists() {
					if isTermByRule(a, list) && len(list) <= 60 {
						continue
					}
					if is, ok := impl.DoesMake(a, k, gens, list, tuples[0]); ok || is {
						t.Fatalf("no term %v %.60s: %v %v", a, fmt.Sprint(list), is, ok)
					}
				}
			}
		}
	}
}

func TestDoesMakeOfCases(t *testing.T) {
	s := sums(3)
	gens := [][]int{{0, 1, 2}, {1, 1, 1}}
	cases := []struct {
		a     impl.Algebra
		k     int
		gens  [][]int
		term  []int
		tuple []int
		is    bool
		ok    bool
	}{
		{s, 3, gens, []int{0}, []int{0, 1, 2}, true, true}, {s, 3, gens, []int{1}, []int{0, 1, 2}, false, true}, {s, 3, gens, []int{-1, 0, 1}, []int{1, 2, 0}, true, true}, {s, 3, gens, []int{-1, 0, 1}, []int{1, 2, 1}, false, true}, {s, 3, gens, []int{-1, 0, 1}, []int{0, 2, 0}, false, true}, {s, 3, gens, []int{-1, -1, 0, 0, 0}, []int{0, 0, 0}, true, true},
		// Variables that are no numbers of generators.
		{s, 3, gens, []int{2}, []int{0, 1, 2}, false, true}, {s, 3, gens, []int{-1, 0, 2}, []int{0, 1, 2}, false, true}, {s, 3, gens, []int{-1, 5, 0}, []int{0, 1, 2}, false, true}, {s, 3, nil, []int{0}, []int{0, 1, 2}, false, true}, {with(s, 0, 0), 3, gens, []int{-1, -2, 2}, []int{0, 0, 0}, false, true},
		// No terms.
		{s, 3, gens, nil, []int{0, 1, 2}, false, false}, {s, 3, gens, []int{-1, 0}, []int{0, 1, 2}, false, false}, {s, 3, gens, []int{0, 1}, []int{0, 1, 2}, false, false}, {s, 3, gens, []int{6}, []int{0, 1, 2}, false, false}, {s, 3, gens, []int{-2}, []int{0, 1, 2}, false, false}, {s, 3, gens, comb(0, 30, 0), []int{0, 1, 2}, false, false}, {s, 3, nil, []int{6}, []int{0, 1, 2}, false, false}, {s, 3, gens, comb(0, 29, 0), []int{0, 0, 0}, true, true},
		// No generators.
		{constantsAlone(3, 2), 2, nil, []int{-1}, []int{2, 2}, true, true}, {constantsAlone(3, 2), 2, nil, []int{-1}, []int{2, 1}, false, true}, {bare(3), 2, nil, []int{0}, []int{2, 1}, false, true}, {with(successors(3), 0, 1), 1, nil, []int{-1, -1, -2}, []int{0}, true, true}, {constantsAlone(3, 2, 1), 64, [][]int{}, []int{-2}, slices.Repeat([]int{1}, 64), true, true},
		// Just MaxVars generators, and one more.
		{bare(8), 1, [][]int{{0}, {1}, {2}, {3}, {4}, {5}}, []int{5}, []int{5}, true, true}, {bare(8), 1, [][]int{{0}, {1}, {2}, {3}, {4}, {5}, {6}}, []int{5}, []int{5}, false, false}, {bare(8), 1, slices.Repeat([][]int{{0}}, 7), []int{0}, []int{0}, false, false}, {bare(8), 1, slices.Repeat([][]int{{4}}, 6), []int{3}, []int{4}, true, true},
		// Tuples of another length, and with numbers that are no elements.
		{s, 3, gens, []int{0}, []int{0, 1}, false, false}, {s, 3, gens, []int{0}, []int{0, 1, 2, 0}, false, false}, {s, 3, gens, []int{0}, nil, false, false}, {s, 3, gens, []int{0}, []int{0, 1, 3}, false, false}, {s, 3, gens, []int{0}, []int{-1, 1, 2}, false, false}, {s, 2, gens, []int{0}, []int{0, 1}, false, false}, {s, 4, gens, []int{0}, []int{0, 1, 2, 0}, false, false}, {s, 3, gens, []int{2}, []int{0, 1}, false, false},
		// The last place counts, too.
		{successors(8), 64, [][]int{fullOf(64)}, []int{-1, 0}, slices.Repeat([]int{1}, 64), true, true}, {successors(8), 64, [][]int{fullOf(64)}, []int{-1, 0}, append(slices.Repeat([]int{1}, 63), 0), false, true},
	}
	for _, c := range cases {
		if is, ok := impl.DoesMake(c.a, c.k, c.gens, c.term, c.tuple); ok != c.ok || is != c.is {
			t.Error("makes", c.a, c.gens, c.term, c.tuple, is, ok)
		}
	}
}

func TestFirstTerms(t *testing.T) {
	join := with(lesser(2), 2, 0, 1, 1, 1)
	cases := []struct {
		a     impl.Algebra
		gens  [][]int
		tuple []int
		want  []int
	}{
		// A generator, and one that is given twice.
		{lesser(2), [][]int{{0, 1}, {1, 0}}, []int{1, 0}, []int{1}}, {lesser(2), [][]int{{0, 1}, {1, 0}, {1, 0}, {0, 1}}, []int{0, 1}, []int{0}}, {bare(3), [][]int{{2, 2}}, []int{2, 2}, []int{0}}, {bare(3), [][]int{{0, 0}, {0, 1}, {0, 2}, {1, 0}, {1, 1}, {1, 2}}, []int{1, 2}, []int{5}},
		// Two terms of the same length make it: the first one has the greater number of an operation
		// in front, then the lesser variable.
		{lesser(2), [][]int{{0, 1}, {1, 0}}, []int{0, 0}, []int{-1, 0, 1}}, {join, [][]int{{0, 1}, {1, 0}}, []int{1, 1}, []int{-2, 0, 1}}, {with(lesser(2), 2, 0, 0, 0, 1), [][]int{{0, 1}, {1, 0}}, []int{0, 0}, []int{-2, 0, 1}}, {unaries(2, []int{1, 0}, []int{1, 0}, []int{1, 0}), [][]int{{0, 1}}, []int{1, 0}, []int{-3, 0}},
		{successors(2), [][]int{{0, 1}, {0, 1}}, []int{1, 0}, []int{-1, 0}}, {constantsAlone(3, 2, 2), nil, []int{2, 2}, []int{-2}}, {constantsAlone(3, 2, 1, 2, 1), [][]int{{2, 2}, {1, 1}}, []int{2, 2}, []int{-3}}, {constantsAlone(3, 2, 1, 2, 1), [][]int{{2, 2}, {1, 1}}, []int{1, 1}, []int{-4}}, {with(lesser(2), 0, 0), [][]int{{0, 1}, {1, 0}}, []int{0, 0}, []int{-2}}, {with(lesser(2), 0, 0), [][]int{{0, 0}, {1, 0}}, []int{0, 0}, []int{-2}},
		{sums(5), [][]int{{1, 0}, {0, 1}}, []int{1, 1}, []int{-1, 0, 1}}, {sums(5), [][]int{{1, 0}, {0, 1}}, []int{2, 1}, []int{-1, -1, 0, 0, 1}}, {sums(5), [][]int{{1, 0}, {0, 1}}, []int{1, 2}, []int{-1, -1, 0, 1, 1}}, {opOf(5, 2, func(x []int) int { return (x[0] + 2*x[1]) % 5 }), [][]int{{1, 1}}, []int{2, 2}, []int{-1, 0, -1, 0, 0}},
		// The shorter one comes first, also if its first number is greater, as that of another operation.
		{with(unaries(3, []int{2, 0, 1}, []int{1, 2, 0}), 0, 2), nil, []int{0, 0}, []int{-2, -3}}, {with(unaries(3, []int{1, 2, 0}), 3, cosets(3).Ops[0].Table...), [][]int{{0, 1}}, []int{2, 0}, []int{-1, -1, 0}},
		// Only a constant makes it, or nothing.
		{constantsAlone(3, 1), [][]int{{0, 1}}, []int{1, 1}, []int{-1}}, {constantsAlone(3, 1), nil, []int{1, 1}, []int{-1}}, {constantsAlone(3, 1), nil, []int{1, 0}, nil}, {bare(2), nil, []int{0, 0}, nil}, {bare(2), [][]int{{0, 0}}, []int{0, 1}, nil}, {lesser(2), [][]int{{0, 1}, {1, 0}}, []int{1, 1}, nil}, {sums(4), [][]int{{2, 0}}, []int{1, 0}, nil}, {lesser(3), nil, []int{0, 0}, nil},
	}
	for _, c := range cases {
		if f, ok := impl.FirstTermFor(c.a, 2, c.gens, c.tuple); ok != (c.want != nil) || !slices.Equal(f, c.want) {
			t.Error("first term", c.a, c.gens, c.tuple, f, ok, "not", c.want)
		}
	}
	lists := []struct {
		a    impl.Algebra
		gens [][]int
		want [][]int
	}{
		{lesser(2), [][]int{{0, 1}, {1, 0}}, [][]int{{-1, 0, 1}, {0}, {1}}}, {lesser(2), nil, nil}, {bare(2), nil, nil}, {constantsAlone(3, 2, 0, 2), nil, [][]int{{-2}, {-3}}}, {with(successors(3), 0, 1), nil, [][]int{{-1, -1, -2}, {-2}, {-1, -2}}}, {successors(3), [][]int{{2, 0}}, [][]int{{-1, 0}, {-1, -1, 0}, {0}}},
	}
	for _, c := range lists {
		if l, ok := impl.TermsFor(c.a, 2, c.gens); !ok || !sameLists(l, c.want) {
			t.Error("terms", c.a, c.gens, l, ok, "not", c.want)
		}
	}
	// Just MaxVars generators, and one more.
	six := [][]int{{0}, {1}, {2}, {3}, {4}, {5}}
	if l, ok := impl.TermsFor(bare(8), 1, six); !ok || !sameLists(l, six) {
		t.Error("six", l, ok)
	}
	for _, gens := range [][][]int{append(slices.Clone(six), []int{6}), slices.Repeat(six[:1], 7)} {
		l, one := impl.TermsFor(bare(8), 1, gens)
		f, two := impl.FirstTermFor(bare(8), 1, gens, []int{0})
		if one || two || len(l)+len(f) != 0 {
			t.Error("seven", l, f)
		}
	}
}

// Where more than MostTuples tuples are generated, no first term is told, not even of a generator;
// but terms still make tuples.
func TestTermsOfManyTuples(t *testing.T) {
	t.Parallel()
	just, over := 0, 0
	for _, c := range limitCases() {
		for _, gens := range [][][]int{c.gens, widened(c.gens)} {
			k := len(gens[0])
			if len(gens) > 6 {
				l, one := impl.TermsFor(c.a, k, gens)
				f, two := impl.FirstTermFor(c.a, k, gens, gens[0])
				is, three := impl.DoesMake(c.a, k, gens, []int{0}, gens[0])
				if one || two || three || is || len(l)+len(f) != 0 {
					t.Error("many generators", len(gens), l, f, is)
				}
				continue
			}
			if is, ok := impl.DoesMake(c.a, k, gens, []int{1}, gens[1]); !ok || !is {
				t.Error("makes", c.a, gens, is, ok)
			}
			if c.count > mostByRule(c.a) {
				over++
				l, one := impl.TermsFor(c.a, k, gens)
				f, two := impl.FirstTermFor(c.a, k, gens, gens[0])
				if one || two || len(l)+len(f) != 0 {
					t.Error("too many tuples", c.a, gens, len(l), f)
				}
				continue
			}
			just++
			first := firstByLength(c.a, k, gens)
			l, ok := impl.TermsFor(c.a, k, gens)
			if !ok || len(l) != c.count {
				t.Fatal("terms", c.a, gens, len(l), ok)
			}
			tuples, _ := impl.GenerateSubpower(c.a, k, gens)
			for i, u := range tuples {
				if !slices.Equal(l[i], first[keyOf(u)]) {
					t.Fatal("first term", c.a, gens, u, l[i], "not", first[keyOf(u)])
				}
			}
			last := len(tuples) - 1
			if f, ok := impl.FirstTermFor(c.a, k, gens, tuples[last]); !ok || !slices.Equal(f, l[last]) {
				t.Error("first term", c.a, gens, tuples[last], f, ok)
			}
		}
	}
	if just < 6 || over < 6 {
		t.Error("only few", just, over)
	}
}

// longTerms are tuples with first terms of just MaxTerm numbers, and of more than may be.
func longTerms() []struct {
	a       impl.Algebra
	k       int
	gens    [][]int
	longest int
	short   bool
} {
	steps := func(arity int) impl.Algebra {
		return opOf(8, arity, func(x []int) int {
			if slices.Min(x) == slices.Max(x) {
				return (x[0] + 1) % 8
			}
			return 0
		})
	}
	binary := func(size int, table ...int) impl.Algebra { return with(bare(size), 2, table...) }
	return []struct {
		a       impl.Algebra
		k       int
		gens    [][]int
		longest int
		short   bool
	}{
		// Each step doubles the length: 1, 3, 7, 15, 31, 63.
		{steps(2), 1, [][]int{{0}}, 31, false}, {steps(2), 1, [][]int{{0}, {5}}, 31, true}, {steps(2), 1, [][]int{{0}, {4}}, 15, true}, {steps(2), 1, [][]int{{3}}, 31, true}, {steps(3), 1, [][]int{{0}}, 40, false}, {steps(3), 64, [][]int{fullOf(64)}, 40, false}, {with(steps(2), 0, 5), 1, [][]int{{0}}, 31, true}, {successors(8), 1, [][]int{{1}}, 8, true},
		{with(binary(7, 1, 1, 2, 0, 3, 3, 0, 0, 2, 2, 3, 4, 4, 3, 0, 1, 3, 3, 2, 3, 3, 0, 3, 6, 4, 4, 5, 6, 0, 3, 0, 5, 5, 6, 6, 0, 1, 3, 3, 4, 6, 3, 0, 1, 2, 3, 4, 4, 0), 1, 0, 6, 2, 3, 4, 6, 6), 3, [][]int{{6, 3, 3}}, 60, true},
		{with(binary(8, 1, 1, 2, 3, 4, 0, 6, 3, 2, 2, 2, 3, 4, 3, 6, 7, 0, 1, 3, 4, 4, 5, 6, 3, 3, 1, 2, 4, 4, 5, 6, 7, 0, 1, 2, 5, 5, 0, 3, 7, 0, 1, 2, 7, 4, 6, 6, 3, 0, 6, 6, 3, 1, 5, 7, 0, 0, 1, 2, 3, 4, 3, 6, 0), 1, 0, 0, 2, 0, 4, 5, 0, 0), 2, [][]int{{1, 0}}, 60, false},
		{binary(7, 1, 0, 2, 0, 2, 5, 5, 0, 2, 3, 0, 4, 2, 0, 0, 1, 3, 3, 4, 0, 6, 4, 1, 0, 4, 4, 2, 0, 4, 1, 0, 3, 5, 0, 6, 3, 0, 1, 3, 4, 6, 6, 0, 0, 2, 1, 0, 5, 0), 2, [][]int{{0, 5}}, 59, false},
		{binary(7, 1, 1, 2, 0, 5, 5, 5, 0, 2, 5, 3, 2, 5, 6, 0, 1, 3, 5, 5, 5, 6, 0, 1, 2, 4, 5, 5, 5, 5, 5, 2, 3, 5, 5, 6, 0, 1, 4, 3, 4, 6, 6, 0, 5, 2, 3, 5, 5, 0), 2, [][]int{{4, 3}}, 59, false},
		{with(with(bare(5), 3, 1, 1, 2, 0, 4, 0, 4, 2, 0, 0, 3, 1, 2, 0, 4, 3, 1, 2, 0, 4, 0, 0, 0, 0, 4, 0, 1, 2, 0, 0, 0, 2, 2, 0, 0, 0, 1, 3, 3, 4, 0, 1, 0, 1, 3, 4, 1, 2, 3, 0, 0, 4, 2, 3, 4, 0, 0, 4, 3, 0, 3, 1, 3, 3, 0, 2, 1, 0, 3, 4, 0, 1, 2, 0, 4, 0, 0, 2, 0, 4, 0, 1, 0, 3, 3, 0, 2, 2, 0, 2, 0, 1, 0, 4, 4, 0, 0, 2, 4, 4, 0, 1, 4, 3, 0, 0, 1, 2, 3, 4, 0, 4, 2, 3, 4, 4, 1, 2, 0, 3, 0, 1, 2, 3, 0), 1, 4, 4, 4, 4, 4), 2, [][]int{{4, 3}}, 60, true},
	}
}

func TestLongestTerms(t *testing.T) {
	for _, c := range longTerms() {
		first := firstByLength(c.a, c.k, c.gens)
		longest := 0
		for _, term := range first {
			longest = max(longest, len(term))
		}
		if longest != c.longest {
			t.Fatal("the longest first term has", longest, "numbers, not", c.longest, c.a, c.gens)
		}
		if l, ok := impl.TermsFor(c.a, c.k, c.gens); ok != c.short || !c.short && len(l) != 0 {
			t.Error("terms", c.a, c.gens, len(l), ok)
		}
		checkTerms(t, c.a, c.k, c.gens, first)
	}
}

// Terms in Algebras of all Sizes, also of several operations at once.
func TestTermsOfGrownSubpowers(t *testing.T) {
	t.Parallel()
	done, long := 0, 0
	for i, a := range append(subAlgebras(), termAlgebras()...) {
		if i%2 != 0 && a.Size < 6 {
			continue
		}
		for _, k := range []int{1, 2, 4} {
			var gens [][]int
			for j := range i % 4 {
				u := make([]int, k)
				for p := range u {
					u[p] = (i*j + p*p + j + p*(i/7)) % a.Size
				}
				gens = append(gens, u)
			}
			if l, ok := impl.GenerateSubpower(a, k, gens); !ok || len(l) > 25 {
				continue
			}
			first := firstByLength(a, k, gens)
			for _, term := range first {
				if len(term) > 9 {
					long++
				}
			}
			checkTerms(t, a, k, gens, first)
			done++
		}
	}
	if done < 300 || long < 20 {
		t.Error("only few", done, long)
	}
}

func TestProductsOfInvalidAlgebras(t *testing.T) {
	for _, a := range invalidAlgebras() {
		for _, b := range []impl.Algebra{a, bare(1), constantsAlone(1, 0), sums(1)} {
			p, one := impl.ProductOf(a, b)
			q, two := impl.ProductOf(b, a)
			if one || two || !isZeroAlgebra(p) || !isZeroAlgebra(q) {
				t.Error("product", a.Size, p, q)
			}
			for which := range 2 {
				f, one := impl.FactorOfProduct(a, b, which)
				g, two := impl.FactorOfProduct(b, a, which)
				if one || two || len(f)+len(g) != 0 {
					t.Error("factor", a.Size, f, g)
				}
			}
		}
		for k := range 4 {
			if p, ok := impl.PowerOf(a, k); ok || !isZeroAlgebra(p) {
				t.Error("power", a.Size, k, p)
			}
		}
		if n, ok := impl.MostTuples(a); ok || n != 0 {
			t.Error("most tuples", a.Size, n)
		}
		for _, k := range []int{0, 1, 2, 64, 65} {
			for _, r := range [][][]int{nil, {}, {nil}, {fullOf(k)}, {fullOf(k), slices.Repeat([]int{1}, k)}} {
				checkNoSubpower(t, a, k, r)
				is, one := impl.IsSubpower(a, k, r)
				l, two := impl.GenerateSubpower(a, k, r)
				m, three := impl.TermsFor(a, k, r)
				d, four := impl.Diagonal(a, k)
				f, five := impl.FirstTermFor(a, k, r, fullOf(k))
				makes, six := impl.DoesMake(a, k, r, []int{0}, fullOf(k))
				v, seven := impl.ApplyTo(a, 0, r)
				if one || two || three || four || five || six || seven || is || makes || len(l)+len(m)+len(d)+len(f)+len(v) != 0 {
					t.Error("invalid Algebra", a.Size, k, r, is, l, m, d, f, makes, v)
				}
			}
		}
	}
}

// tablesOf returns the Tables, to see whether they share memory.
func tablesOf(a impl.Algebra) [][]int {
	var tables [][]int
	for _, f := range a.Ops {
		tables = append(tables, f.Table)
	}
	return tables
}

// productResults calls each function of the chapter. It returns the lists of each result, and a text
// of everything.
func productResults(a, b impl.Algebra, k int, r, s [][]int, places []int) ([][][]int, string) {
	var results [][][]int
	var others []any
	keep := func(l [][]int, ok bool) {
		results = append(results, l)
		others = append(others, ok)
	}
	keepOne := func(l []int, ok bool) { keep([][]int{l}, ok) }
	tell := func(is, ok bool) { others = append(others, is, ok) }
	keepAlgebra := func(c impl.Algebra, ok bool) {
		keep(tablesOf(c), ok)
		others = append(others, fmt.Sprint(c))
	}
	keepAlgebra(impl.ProductOf(a, b))
	for i := range 4 {
		keepAlgebra(impl.PowerOf(a, i))
		keepOne(impl.FactorOfProduct(a, b, i))
		keepOne(impl.ApplyTo(a, i, r))
	}
	most, ok := impl.MostTuples(a)
	others = append(others, most, ok)
	tell(impl.IsSubpower(a, k, r))
	tell(impl.IsSubdirect(a, k, r))
	keep(impl.GenerateSubpower(a, k, s))
	keep(impl.Diagonal(a, k))
	keep(impl.ProjectTo(a, k, r, places))
	keep(impl.MeetSubpowers(a, k, r, r))
	keep(impl.MeetSubpowers(a, k, r, s))
	keepAlgebra(impl.AlgebraOfSubpower(a, k, r))
	keep(impl.TermsFor(a, k, s))
	for _, u := range r {
		tell(impl.DoesMake(a, k, s, places, u))
		keepOne(impl.FirstTermFor(a, k, s, u))
	}
	return results, fmt.Sprint(results, others)
}

// roomyLists returns copies with room behind each end, in which nothing may be written.
func roomyLists(lists [][]int) [][]int {
	var copies [][]int
	for _, l := range lists {
		copies = append(copies, roomy(l))
	}
	return append(copies, []int{-5}, nil, []int{7})[:len(lists)]
}

func TestProductFunctionsLeaveTheirArguments(t *testing.T) {
	algebras := []impl.Algebra{bare(2), sums(2), lesser(2), successors(2), cosets(2), constantsAlone(2, 1, 0), with(lesser(2), 0, 0), unevenOf(2, 0, 1, 2, 3), unevenOf(2, 3, 3, 3, 3), {Size: 9}, {}}
	lists := [][][]int{nil, argsOf(2, 2), {{0, 0}, {1, 1}}, {{1, 1}, {0, 0}}, {{0, 1}, {1, 0}}, {{0, 0}}, {{0, 0}, {0, 1}, {1, 0}}, {{0}, {1}}, {{0, 2}}, slices.Repeat([][]int{{0, 1}}, 21)}
	for _, a := range algebras {
		for i, r := range lists {
			for _, s := range lists {
				a, b := roomyAlgebra(a), roomyAlgebra(a)
				r, s, places := roomyLists(r), roomyLists(s), roomy([][]int{{1, 0}, {-1, 0, 1}, {0}, {}}[i%4])
				tell := func() string {
					return allOfAlgebra(a, places) + allOfAlgebra(b, r[:cap(r)]...) + allOfAlgebra(b, s[:cap(s)]...)
				}
				before := tell()
				results, first := productResults(a, b, 2, r, s, places)
				if _, second := productResults(a, b, 2, r, s, places); first != second {
					t.Fatal("another result", first, second)
				}
				for i, l := range results {
					if !areApart(l) {
						t.Fatal("the result", i, "shares memory with itself", a, r, s)
					}
				}
				for i := range results {
					for j := range results[i][:cap(results[i])] {
						results[i][:cap(results[i])][j] = []int{-9}
					}
				}
				if after := tell(); after != before {
					t.Fatal("changed", before, after)
				}
				if _, third := productResults(a, b, 2, r, s, places); third != first {
					t.Fatal("a result shares memory", a, r, s)
				}
			}
		}
	}
}

// The longest lists of the greatest Algebras are done in good time.
func TestLargeSubpowers(t *testing.T) {
	t.Parallel()
	for _, c := range []struct {
		a     impl.Algebra
		count int
	}{
		{algebraOf(8, []int{3, 3, 3, 3}, func(op, at int) int { return []int{at % 8, at / 64, min(at%8, at/64), min(at%8, at/8%8, at/64)}[op] }), 40},
		{algebraOf(8, []int{2, 2, 2, 2}, func(op, at int) int { return []int{at % 8, at / 8, min(at%8, at/8), min(at/8, at%8)}[op] }), 200},
	} {
		gens := widened(chains([][]int{{1, 1, 1, 4}, {1, 1, 1, 4, 4}}[c.count/200]...))
		gens = append(gens, slices.Repeat([]int{7}, 64))
		l, ok := impl.GenerateSubpower(c.a, 64, gens)
		if !ok || len(l) != c.count {
			t.Error("generated", len(l), ok)
		}
		for range 5 {
			if is, ok := impl.IsSubdirect(c.a, 64, l); !ok || is {
				t.Error("subdirect", is, ok)
			}
			if m, ok := impl.MeetSubpowers(c.a, 64, l, l); !ok || len(m) != c.count {
				t.Error("meet", len(m), ok)
			}
		}
		some := widened(chains(1, 1, 1, 1, 1))
		if terms, ok := impl.TermsFor(c.a, 64, some); !ok || len(terms) != 31 {
			t.Error("terms", len(terms), ok)
		}
	}
}
