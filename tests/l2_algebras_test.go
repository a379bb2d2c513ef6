package tests

import (
	"fmt"
	"math"
	"reflect"
	"slices"
	"strings"
	"testing"

	"loop.example/g01078/impl"
)

// The signatures and limits of chapter 2 are promised to other packages.
var (
	_ func(impl.Algebra) bool                        = impl.IsAlgebra
	_ func(impl.Algebra) ([]int, bool)               = impl.TypeOf
	_ func(impl.Algebra, impl.Algebra) (bool, bool)  = impl.SameType
	_ func(impl.Algebra, int, []int) (int, bool)     = impl.ValueOf
	_ func(impl.Algebra) ([]int, bool)               = impl.ConstantsOf
	_ func(impl.Algebra, int) (bool, bool)           = impl.IsIdempotent
	_ func(impl.Algebra, int) (bool, bool)           = impl.IsCommutative
	_ func(impl.Algebra, int) (bool, bool)           = impl.IsAssociative
	_ func(impl.Algebra, []int) (impl.Algebra, bool) = impl.ReductTo
	_ func(impl.Algebra, int) (impl.Algebra, bool)   = impl.ReverseArgs
	_ func(impl.Algebra, []int) (impl.Algebra, bool) = impl.RenameElements
	_ func(impl.Algebra) (string, bool)              = impl.AlgebraText
	_ func(string) (impl.Algebra, bool)              = impl.ParseAlgebra
)

func TestAlgebraLimits(t *testing.T) {
	if impl.MaxSize != 8 || impl.MaxArity != 3 || impl.MaxOps != 4 {
		t.Error("limits", impl.MaxSize, impl.MaxArity, impl.MaxOps)
	}
}

func power(n, k int) int {
	p := 1
	for range k {
		p *= n
	}
	return p
}

// algebraOf returns the Algebra of a type whose Tables are told by a rule of their places.
func algebraOf(size int, arities []int, rule func(op, at int) int) impl.Algebra {
	a := impl.Algebra{Size: size}
	for k, r := range arities {
		f := impl.Op{Arity: r}
		for at := range power(size, r) {
			f.Table = append(f.Table, rule(k, at))
		}
		a.Ops = append(a.Ops, f)
	}
	return a
}

// unevenOf returns an Algebra whose values follow a rule without symmetry, so that a confusion of
// places or names shows.
func unevenOf(size int, arities ...int) impl.Algebra {
	return algebraOf(size, arities, func(op, at int) int { return (at*at*5 + at*3 + at/size + op + 1) % size })
}

// opOf returns the Algebra of a Size with one operation that a function of its arguments tells.
func opOf(size, arity int, f func(x []int) int) impl.Algebra {
	a := impl.Algebra{Size: size, Ops: []impl.Op{{Arity: arity}}}
	for _, x := range argsOf(size, arity) {
		a.Ops[0].Table = append(a.Ops[0].Table, f(x))
	}
	return a
}

// argsOf returns all lists of arguments in lexicographical order, which is that of a Table.
func argsOf(size, arity int) [][]int {
	lists := [][]int{{}}
	for range arity {
		var longer [][]int
		for _, l := range lists {
			for x := range size {
				longer = append(longer, append(slices.Clone(l), x))
			}
		}
		lists = longer
	}
	return lists
}

func cloneAlgebra(a impl.Algebra) impl.Algebra {
	b := impl.Algebra{Size: a.Size}
	for _, f := range a.Ops {
		b.Ops = append(b.Ops, impl.Op{Arity: f.Arity, Table: slices.Clone(f.Table)})
	}
	return b
}

func sameAlgebra(a, b impl.Algebra) bool {
	return a.Size == b.Size && slices.EqualFunc(a.Ops, b.Ops, func(f, g impl.Op) bool {
		return f.Arity == g.Arity && slices.Equal(f.Table, g.Table)
	})
}

func isZeroAlgebra(a impl.Algebra) bool { return a.Size == 0 && len(a.Ops) == 0 }

// firstNumbers returns 0..n-1.
func firstNumbers(n int) []int {
	list := make([]int, n)
	for i := range list {
		list[i] = i
	}
	return list
}

// permutations returns all lists that have each of 0..n-1 once.
func permutations(n int) [][]int {
	if n == 0 {
		return [][]int{{}}
	}
	var all [][]int
	for _, p := range permutations(n - 1) {
		for i := range n {
			all = append(all, slices.Insert(slices.Clone(p), i, n-1))
		}
	}
	return all
}

// someAlgebras returns Algebras of each Size and of types with each Arity.
func someAlgebras() []impl.Algebra {
	types := [][]int{nil, {0}, {1}, {2}, {3}, {0, 0}, {0, 1, 2, 3}, {3, 2, 1, 0}, {2, 2}, {1, 0, 1, 0}, {3, 3, 3, 3}}
	var list []impl.Algebra
	for size := 1; size <= 8; size++ {
		for _, k := range types {
			list = append(list, unevenOf(size, k...))
		}
	}
	return list
}

func invalidAlgebras() []impl.Algebra {
	zeros := func(n int) []int { return make([]int, n) }
	one := func(size, arity int, table ...int) impl.Algebra {
		return impl.Algebra{Size: size, Ops: []impl.Op{{Arity: arity, Table: table}}}
	}
	list := []impl.Algebra{
		{}, {Size: 0, Ops: []impl.Op{}}, {Size: 9}, {Size: -1}, {Size: math.MinInt}, {Size: math.MaxInt},
		one(0, 0), one(0, 0, 0), one(0, 1), one(0, 2), one(9, 0, 0), one(9, 1, zeros(9)...), one(-1, 0, 0), one(-2, 2, zeros(4)...),
		one(2, -1), one(2, -1, 0), one(1, -1), one(1, -1, 0), one(2, 4, zeros(16)...), one(1, 4, 0), one(2, 4), one(8, 4, zeros(4096)...),
		one(2, math.MaxInt), one(2, math.MinInt), one(2, 64), one(2, 64, 0), one(1, math.MaxInt, 0), one(8, math.MaxInt, 0),
		one(2, 0), one(2, 0, 0, 0), one(1, 0), one(1, 0, 0, 0), one(1, 1), one(1, 1, 0, 0), one(1, 3), one(1, 3, 0, 0),
		one(2, 1), one(2, 1, 0), one(2, 1, 0, 0, 0), one(2, 2, 0, 0, 0), one(2, 2, 0, 0, 0, 0, 0), one(2, 3, zeros(7)...), one(2, 3, zeros(9)...),
		one(8, 3, zeros(511)...), one(8, 3, zeros(513)...), one(3, 2, zeros(8)...), one(3, 2, zeros(4)...),
		one(2, 0, 2), one(2, 0, -1), one(1, 0, 1), one(1, 2, 1), one(1, 2, -1), one(2, 1, 0, 2), one(2, 1, -1, 0), one(2, 2, 0, 0, 0, 2),
		one(2, 2, 2, 0, 0, 0), one(8, 1, 0, 1, 2, 3, 4, 5, 6, 8), one(2, 1, math.MaxInt, 0), one(2, 1, math.MinInt, 0),
	}
	constant := impl.Op{Table: []int{0}}
	list = append(list,
		impl.Algebra{Size: 1, Ops: []impl.Op{constant, constant, constant, constant, constant}},
		impl.Algebra{Size: 2, Ops: make([]impl.Op, 5)},
		impl.Algebra{Size: 2, Ops: make([]impl.Op, 1)},
		impl.Algebra{Size: 2, Ops: []impl.Op{constant, constant, constant, {Arity: 1, Table: []int{0}}}},
		impl.Algebra{Size: 2, Ops: []impl.Op{{Arity: 1, Table: []int{0, 2}}, constant}},
		unevenOf(2, 0, 1, 2, 3, 0), unevenOf(9, 2), unevenOf(2, 1, 4))
	return list
}

func TestIsAlgebra(t *testing.T) {
	for _, a := range someAlgebras() {
		if !impl.IsAlgebra(a) {
			t.Error("is valid", a)
		}
	}
	for _, a := range []impl.Algebra{
		{Size: 1}, {Size: 8}, {Size: 8, Ops: []impl.Op{}},
		{Size: 1, Ops: []impl.Op{{Table: []int{0}}, {Arity: 1, Table: []int{0}}, {Arity: 2, Table: []int{0}}, {Arity: 3, Table: []int{0}}}},
		{Size: 8, Ops: []impl.Op{{Table: []int{7}}}}, {Size: 2, Ops: []impl.Op{{Arity: 1, Table: []int{1, 0}}, {Arity: 1, Table: []int{1, 0}}}},
	} {
		if !impl.IsAlgebra(a) {
			t.Error("is valid", a)
		}
	}
	for _, a := range invalidAlgebras() {
		if impl.IsAlgebra(a) {
			t.Errorf("is not valid: Size %d, %.200s", a.Size, fmt.Sprint(a.Ops))
		}
	}
}

// Each place of a Table is looked at, the first and the last ones too.
func TestIsAlgebraLooksAtEachValue(t *testing.T) {
	a := unevenOf(4, 0, 1, 2, 3)
	for k, f := range a.Ops {
		for at, value := range f.Table {
			for _, wrong := range []int{-1, 4, math.MaxInt, math.MinInt} {
				f.Table[at] = wrong
				if impl.IsAlgebra(a) {
					t.Error("valid with", wrong, "in operation", k, "at", at)
				}
			}
			f.Table[at] = value
		}
	}
	if !impl.IsAlgebra(a) {
		t.Error("is valid again")
	}
}

// What lies behind the length of a slice is neither read nor written.
func TestAlgebraWithRoomBehind(t *testing.T) {
	table := []int{1, 0, 1, 1, 99, -5}
	ops := []impl.Op{{Arity: 2, Table: table[:4]}, {Arity: 77}}
	a := impl.Algebra{Size: 2, Ops: ops[:1]}
	names, list := []int{1, 0, 55}, []int{0, 9}
	if !impl.IsAlgebra(a) {
		t.Fatal("valid")
	}
	b, one := impl.RenameElements(a, names[:2])
	c, two := impl.ReverseArgs(a, 0)
	d, three := impl.ReductTo(a, list[:1])
	if !one || !two || !three || !slices.Equal(b.Ops[0].Table, []int{0, 0, 1, 0}) || !slices.Equal(c.Ops[0].Table, []int{1, 1, 0, 1}) || !sameAlgebra(d, a) {
		t.Error("changes", b, c, d)
	}
	for _, r := range []impl.Algebra{b, c, d} {
		r.Ops = append(r.Ops, impl.Op{})
		r.Ops[0].Table = append(r.Ops[0].Table, 3)
	}
	if !slices.Equal(table, []int{1, 0, 1, 1, 99, -5}) || ops[1].Arity != 77 || names[2] != 55 || list[1] != 9 {
		t.Error("written", table, ops, names, list)
	}
}

func TestTypeOf(t *testing.T) {
	for _, k := range [][]int{nil, {0}, {1}, {2}, {3}, {3, 0}, {0, 3}, {0, 0, 0, 0}, {2, 1}, {0, 1, 2, 3}, {3, 3, 3, 3}} {
		for _, size := range []int{1, 2, 8} {
			if r, ok := impl.TypeOf(unevenOf(size, k...)); !ok || !slices.Equal(r, k) {
				t.Error("type", k, size, r, ok)
			}
		}
	}
	for _, a := range invalidAlgebras() {
		if r, ok := impl.TypeOf(a); ok || len(r) != 0 {
			t.Error("type of an invalid Algebra", r, ok)
		}
	}
}

func TestSameType(t *testing.T) {
	types := [][]int{nil, {0}, {1}, {2}, {3}, {0, 0}, {0, 1}, {1, 0}, {2, 1}, {2, 1, 0}, {0, 0, 0}, {0, 0, 0, 0}, {3, 3, 3, 3}, {3, 3, 3, 2}}
	for i, k := range types {
		for j, l := range types {
			for _, sizes := range [][2]int{{2, 2}, {1, 2}, {3, 1}, {1, 1}} {
				if same, ok := impl.SameType(unevenOf(sizes[0], k...), unevenOf(sizes[1], l...)); !ok || same != (i == j) {
					t.Error("same type", k, l, sizes, same, ok)
				}
			}
		}
	}
	for _, a := range invalidAlgebras() {
		for _, b := range []impl.Algebra{unevenOf(2, 2), {Size: 2}, a, {}} {
			one, fine := impl.SameType(a, b)
			two, good := impl.SameType(b, a)
			if one || two || fine || good {
				t.Error("same type as an invalid Algebra", a.Size, b.Size)
			}
		}
	}
}

func TestValueOf(t *testing.T) {
	for _, a := range someAlgebras() {
		for k, f := range a.Ops {
			for at, args := range argsOf(a.Size, f.Arity) {
				if v, ok := impl.ValueOf(a, k, args); !ok || v != f.Table[at] {
					t.Fatal("value", a.Size, k, args, v, ok)
				}
			}
		}
	}
	a := opOf(3, 3, func(x []int) int { return (x[0] + 2*x[1]*x[2]) % 3 })
	if v, ok := impl.ValueOf(a, 0, []int{1, 2, 1}); !ok || v != 2 {
		t.Error("value", v, ok)
	}
	if v, ok := impl.ValueOf(impl.Algebra{Size: 8, Ops: []impl.Op{{Table: []int{7}}}}, 0, nil); !ok || v != 7 {
		t.Error("value of a constant", v, ok)
	}
}

func TestValueOfRefuses(t *testing.T) {
	a := algebraOf(3, []int{0, 1, 2, 3}, func(op, at int) int { return 2 })
	for k := range 4 {
		for n := range 6 {
			if v, ok := impl.ValueOf(a, k, make([]int, n)); ok != (n == k) || v != 0 != ok {
				t.Error("number of arguments", k, n, v, ok)
			}
		}
		for i := range k {
			for _, wrong := range []int{-1, 3, math.MaxInt, math.MinInt} {
				args := make([]int, k)
				args[i] = wrong
				if v, ok := impl.ValueOf(a, k, args); ok || v != 0 {
					t.Error("no element", k, args, v, ok)
				}
			}
		}
	}
	for _, op := range []int{-1, 4, 5, math.MaxInt, math.MinInt} {
		for n := range 4 {
			if v, ok := impl.ValueOf(a, op, make([]int, n)); ok || v != 0 {
				t.Error("no operation", op, n, v, ok)
			}
		}
	}
	if v, ok := impl.ValueOf(a, 1, make([]int, 1<<20)); ok || v != 0 {
		t.Error("very many arguments", v, ok)
	}
	for _, b := range invalidAlgebras() {
		for n := range 4 {
			if v, ok := impl.ValueOf(b, 0, make([]int, n)); ok || v != 0 {
				t.Error("value of an invalid Algebra", b.Size, v, ok)
			}
		}
	}
}

func TestConstantsOf(t *testing.T) {
	constant := func(x int) impl.Op { return impl.Op{Table: []int{x}} }
	unary := impl.Op{Arity: 1, Table: []int{0, 1, 2, 3}}
	cases := []struct {
		ops  []impl.Op
		want []int
	}{
		{nil, nil},
		{[]impl.Op{unary}, nil},
		{[]impl.Op{constant(0)}, []int{0}},
		{[]impl.Op{constant(3)}, []int{3}},
		{[]impl.Op{constant(3), unary, constant(1)}, []int{1, 3}},
		{[]impl.Op{constant(2), constant(2)}, []int{2}},
		{[]impl.Op{constant(3), constant(0), constant(3), constant(0)}, []int{0, 3}},
		{[]impl.Op{constant(3), constant(2), constant(1), constant(0)}, []int{0, 1, 2, 3}},
		{[]impl.Op{unary, constant(2), unary, constant(2)}, []int{2}},
	}
	for _, c := range cases {
		if l, ok := impl.ConstantsOf(impl.Algebra{Size: 4, Ops: c.ops}); !ok || !slices.Equal(l, c.want) {
			t.Error("constants", c.ops, l, ok)
		}
	}
	// With a single element, an operation of another Arity has one value too, but is no constant.
	if l, ok := impl.ConstantsOf(unevenOf(1, 1, 2, 3)); !ok || len(l) != 0 {
		t.Error("constants of a single element", l, ok)
	}
	if l, ok := impl.ConstantsOf(unevenOf(1, 2, 0, 0)); !ok || !slices.Equal(l, []int{0}) {
		t.Error("constants of a single element", l, ok)
	}
	for _, a := range invalidAlgebras() {
		if l, ok := impl.ConstantsOf(a); ok || len(l) != 0 {
			t.Error("constants of an invalid Algebra", l, ok)
		}
	}
}

func TestIsIdempotent(t *testing.T) {
	for size := 1; size <= 8; size++ {
		for arity := range 4 {
			a := unevenOf(size, arity)
			f := a.Ops[0].Table
			diagonal := make([]int, size)
			for x := range size {
				for range arity {
					diagonal[x] = diagonal[x]*size + x
				}
				if arity > 0 {
					f[diagonal[x]] = x
				}
			}
			if is, ok := impl.IsIdempotent(a, 0); !ok || is != (arity > 0 || size == 1) {
				t.Error("idempotent", size, arity, is, ok)
			}
			for x := range size {
				if arity == 0 || size == 1 {
					continue
				}
				f[diagonal[x]] = (x + 1) % size
				if is, ok := impl.IsIdempotent(a, 0); !ok || is {
					t.Error("not idempotent at", x, size, arity, is, ok)
				}
				f[diagonal[x]] = x
			}
		}
	}
	for size := 2; size <= 8; size++ {
		for x := range size {
			a := impl.Algebra{Size: size, Ops: []impl.Op{{Table: []int{x}}}}
			if is, ok := impl.IsIdempotent(a, 0); !ok || is {
				t.Error("a constant of more elements", size, x, is, ok)
			}
		}
	}
	// Of several operations, the one with the number is meant.
	a := impl.Algebra{Size: 2, Ops: []impl.Op{{Arity: 1, Table: []int{1, 0}}, {Arity: 2, Table: []int{0, 0, 0, 1}}, {Table: []int{1}}}}
	for k, want := range []bool{false, true, false} {
		if is, ok := impl.IsIdempotent(a, k); !ok || is != want {
			t.Error("idempotent", k, is, ok)
		}
	}
}

// Each law is compared with what the values say, for all operations of two and of three elements.
func TestIsCommutativeAndAssociative(t *testing.T) {
	var algebras []impl.Algebra
	for _, table := range argsOf(2, 4) {
		algebras = append(algebras, impl.Algebra{Size: 2, Ops: []impl.Op{{Arity: 2, Table: table}}})
	}
	for _, table := range argsOf(3, 9) {
		algebras = append(algebras, impl.Algebra{Size: 3, Ops: []impl.Op{{Arity: 2, Table: table}}})
	}
	commutative, associative := map[int]int{}, map[int]int{}
	for _, a := range algebras {
		n, f := a.Size, a.Ops[0].Table
		exchanged, regrouped := true, true
		for _, x := range argsOf(n, 3) {
			exchanged = exchanged && f[x[0]*n+x[1]] == f[x[1]*n+x[0]]
			regrouped = regrouped && f[f[x[0]*n+x[1]]*n+x[2]] == f[x[0]*n+f[x[1]*n+x[2]]]
		}
		if is, ok := impl.IsCommutative(a, 0); !ok || is != exchanged {
			t.Fatal("commutative", a, is, ok)
		}
		if is, ok := impl.IsAssociative(a, 0); !ok || is != regrouped {
			t.Fatal("associative", a, is, ok)
		}
		if exchanged {
			commutative[n]++
		}
		if regrouped {
			associative[n]++
		}
	}
	// The numbers of semigroup tables are known: 8 of two elements, 113 of three.
	if commutative[2] != 8 || commutative[3] != 729 || associative[2] != 8 || associative[3] != 113 {
		t.Error("numbers of operations", commutative, associative)
	}
}

func TestLawsOfLargerAlgebras(t *testing.T) {
	cases := []struct {
		name                     string
		size                     int
		f                        func(x []int) int
		commutative, associative bool
	}{
		{"sum", 8, func(x []int) int { return (x[0] + x[1]) % 8 }, true, true},
		{"difference", 8, func(x []int) int { return (x[0] - x[1] + 8) % 8 }, false, false},
		{"first", 8, func(x []int) int { return x[0] }, false, true},
		{"least", 8, func(x []int) int { return min(x[0], x[1]) }, true, true},
		{"mean", 5, func(x []int) int { return 3 * (x[0] + x[1]) % 5 }, true, false},
		{"one element", 1, func(x []int) int { return 0 }, true, true},
		{"last pair", 8, func(x []int) int {
			if x[0] == 6 && x[1] == 7 {
				return 1
			}
			return 0
		}, false, true},
	}
	for _, c := range cases {
		a := opOf(c.size, 2, c.f)
		if is, ok := impl.IsCommutative(a, 0); !ok || is != c.commutative {
			t.Error("commutative", c.name, is, ok)
		}
		if is, ok := impl.IsAssociative(a, 0); !ok || is != c.associative {
			t.Error("associative", c.name, is, ok)
		}
	}
	// Only the greatest elements break this one: f(7, 7) is 6, f(6, 7) is 1 and f(7, 6) is 0.
	a := opOf(8, 2, func(x []int) int { return 0 })
	a.Ops[0].Table[63], a.Ops[0].Table[55] = 6, 1
	if is, ok := impl.IsAssociative(a, 0); !ok || is {
		t.Error("associative", is, ok)
	}
}

func TestLawsRefuse(t *testing.T) {
	laws := []func(impl.Algebra, int) (bool, bool){impl.IsIdempotent, impl.IsCommutative, impl.IsAssociative}
	for size := 1; size <= 3; size++ {
		a := unevenOf(size, 0, 1, 2, 3)
		for i, law := range laws {
			for k := range 4 {
				if is, ok := law(a, k); ok != (i == 0 || k == 2) || is && !ok {
					t.Error("law", i, "Size", size, "Arity", k, is, ok)
				}
			}
			for _, op := range []int{-1, 4, math.MaxInt, math.MinInt} {
				if is, ok := law(a, op); ok || is {
					t.Error("law", i, "no operation", op, is, ok)
				}
			}
		}
	}
	for i, law := range laws {
		if is, ok := law(impl.Algebra{Size: 1}, 0); ok || is {
			t.Error("law", i, "no operations", is, ok)
		}
		for _, a := range invalidAlgebras() {
			if is, ok := law(a, 0); ok || is {
				t.Error("law", i, "of an invalid Algebra", is, ok)
			}
		}
	}
}

func TestReductTo(t *testing.T) {
	for _, a := range []impl.Algebra{unevenOf(1, 0, 1, 2, 3), unevenOf(3, 2, 0, 3, 2), unevenOf(8, 3, 1)} {
		for n := range 5 {
			for _, ops := range argsOf(len(a.Ops), n) {
				b, ok := impl.ReductTo(a, ops)
				if !ok || b.Size != a.Size || len(b.Ops) != n {
					t.Fatal("reduct", ops, b, ok)
				}
				for i, k := range ops {
					if b.Ops[i].Arity != a.Ops[k].Arity || !slices.Equal(b.Ops[i].Table, a.Ops[k].Table) {
						t.Fatal("reduct", ops, b)
					}
				}
			}
		}
	}
	if b, ok := impl.ReductTo(impl.Algebra{Size: 5}, nil); !ok || b.Size != 5 || len(b.Ops) != 0 {
		t.Error("reduct of no operations", b, ok)
	}
}

func TestReductToRefuses(t *testing.T) {
	a := unevenOf(2, 0, 1, 2)
	for _, ops := range [][]int{{3}, {-1}, {0, 3}, {3, 0}, {0, 1, 2, -1}, {math.MaxInt}, {math.MinInt}, {0, 0, 0, 0, 0}, {0, 1, 2, 0, 1}, make([]int, 1<<20)} {
		if b, ok := impl.ReductTo(a, ops); ok || !isZeroAlgebra(b) {
			t.Errorf("reduct to %.30s: %v, %v", fmt.Sprint(ops), b, ok)
		}
	}
	if b, ok := impl.ReductTo(impl.Algebra{Size: 2}, []int{0}); ok || !isZeroAlgebra(b) {
		t.Error("reduct to an operation of none", b, ok)
	}
	for _, a := range invalidAlgebras() {
		for _, ops := range [][]int{nil, {}, {0}} {
			if b, ok := impl.ReductTo(a, ops); ok || !isZeroAlgebra(b) {
				t.Error("reduct of an invalid Algebra", b, ok)
			}
		}
	}
}

func TestReverseArgs(t *testing.T) {
	for _, a := range someAlgebras() {
		for k, f := range a.Ops {
			want := cloneAlgebra(a)
			for at, args := range argsOf(a.Size, f.Arity) {
				from := 0
				for _, x := range slices.Backward(args) {
					from = from*a.Size + x
				}
				want.Ops[k].Table[at] = f.Table[from]
			}
			b, ok := impl.ReverseArgs(a, k)
			if !ok || !sameAlgebra(b, want) {
				t.Fatal("reversed", a, k, b, ok)
			}
			if c, ok := impl.ReverseArgs(b, k); !ok || !sameAlgebra(c, a) {
				t.Fatal("reversed twice", a, k, c, ok)
			}
		}
	}
	a := impl.Algebra{Size: 2, Ops: []impl.Op{{Arity: 3, Table: []int{0, 1, 0, 0, 0, 0, 1, 0}}, {Arity: 2, Table: []int{1, 1, 0, 1}}}}
	b, ok := impl.ReverseArgs(a, 0)
	if !ok || !slices.Equal(b.Ops[0].Table, []int{0, 0, 0, 1, 1, 0, 0, 0}) || !slices.Equal(b.Ops[1].Table, []int{1, 1, 0, 1}) {
		t.Error("reversed", b, ok)
	}
}

func TestReverseArgsRefuses(t *testing.T) {
	for _, op := range []int{-1, 2, math.MaxInt, math.MinInt} {
		if b, ok := impl.ReverseArgs(unevenOf(2, 2, 0), op); ok || !isZeroAlgebra(b) {
			t.Error("no operation", op, b, ok)
		}
	}
	if b, ok := impl.ReverseArgs(impl.Algebra{Size: 1}, 0); ok || !isZeroAlgebra(b) {
		t.Error("of no operations", b, ok)
	}
	for _, a := range invalidAlgebras() {
		if b, ok := impl.ReverseArgs(a, 0); ok || !isZeroAlgebra(b) {
			t.Error("of an invalid Algebra", b, ok)
		}
	}
}

// The value for the new names of arguments is the new name of the value; the names that undo
// the first ones give the Algebra back.
func TestRenameElements(t *testing.T) {
	for size := 1; size <= 5; size++ {
		a := unevenOf(size, 3, 0, 2, 1)
		for _, names := range permutations(size) {
			b, ok := impl.RenameElements(a, names)
			if !ok || b.Size != size || len(b.Ops) != 4 {
				t.Fatal("renamed", names, b, ok)
			}
			checkNamed(t, a, b, names)
			undone := make([]int, size)
			for x, y := range names {
				undone[y] = x
			}
			if c, ok := impl.RenameElements(b, undone); !ok || !sameAlgebra(c, a) {
				t.Fatal("undone", names, c, ok)
			}
		}
	}
}

func checkNamed(t *testing.T, a, b impl.Algebra, names []int) {
	t.Helper()
	for k, f := range a.Ops {
		if b.Ops[k].Arity != f.Arity || len(b.Ops[k].Table) != len(f.Table) {
			t.Fatal("operation", k, b.Ops[k])
		}
		for at, args := range argsOf(a.Size, f.Arity) {
			named := 0
			for _, x := range args {
				named = named*a.Size + names[x]
			}
			if b.Ops[k].Table[named] != names[f.Table[at]] {
				t.Fatal("names", names, "operation", k, "arguments", args)
			}
		}
	}
}

func TestRenameElementsOfEachSize(t *testing.T) {
	for _, a := range someAlgebras() {
		names, undone := make([]int, a.Size), make([]int, a.Size)
		for x := range names {
			names[x] = (x + 1) % a.Size
		}
		if a.Size > 2 {
			names[0], names[2] = names[2], names[0]
		}
		for x, y := range names {
			undone[y] = x
		}
		b, ok := impl.RenameElements(a, names)
		if !ok || b.Size != a.Size || len(b.Ops) != len(a.Ops) {
			t.Fatal("renamed", names, ok)
		}
		checkNamed(t, a, b, names)
		if c, ok := impl.RenameElements(b, undone); !ok || !sameAlgebra(c, a) {
			t.Fatal("undone", names, ok)
		}
	}
	a := impl.Algebra{Size: 3, Ops: []impl.Op{{Arity: 1, Table: []int{1, 1, 0}}, {Table: []int{2}}}}
	b, ok := impl.RenameElements(a, []int{1, 2, 0})
	if !ok || !slices.Equal(b.Ops[0].Table, []int{1, 2, 2}) || !slices.Equal(b.Ops[1].Table, []int{0}) {
		t.Error("renamed", b, ok)
	}
}

func TestRenameElementsRefuses(t *testing.T) {
	for _, a := range []impl.Algebra{unevenOf(3, 2, 0), {Size: 3}} {
		for _, names := range append(argsOf(3, 3), nil, []int{}, []int{0}, []int{0, 1}, []int{0, 1, 2, 3}, []int{0, 1, 2, 0}, []int{0, 1, 3}, []int{-1, 0, 1},
			[]int{1, 2, 3}, []int{math.MaxInt, 0, 1}, []int{0, 1, math.MinInt}, make([]int, 1<<20)) {
			sorted := slices.Sorted(slices.Values(names))
			b, ok := impl.RenameElements(a, names)
			if ok != slices.Equal(sorted, []int{0, 1, 2}) || !ok && !isZeroAlgebra(b) {
				t.Errorf("names %.30s: %v, %v", fmt.Sprint(names), b, ok)
			}
		}
	}
	for _, names := range [][]int{nil, {1}, {-1}, {0, 0}, {0, 1}} {
		if b, ok := impl.RenameElements(impl.Algebra{Size: 1}, names); ok || !isZeroAlgebra(b) {
			t.Error("names of a single element", names, b, ok)
		}
	}
	for _, a := range invalidAlgebras() {
		for n := range 11 {
			if b, ok := impl.RenameElements(a, firstNumbers(n)); ok || !isZeroAlgebra(b) {
				t.Error("of an invalid Algebra", n, b, ok)
			}
		}
	}
}

// textOf is the text as chapter 2 defines it.
func textOf(a impl.Algebra) string {
	s := fmt.Sprint(a.Size)
	for _, f := range a.Ops {
		s += "; " + strings.Trim(fmt.Sprint(f.Table), "[]")
	}
	return s
}

// withoutArguments returns the Algebra that the text of a tells: of a single element, one value
// is always that of an operation of the Arity 0.
func withoutArguments(a impl.Algebra) impl.Algebra {
	b := cloneAlgebra(a)
	for k := range b.Ops {
		if b.Size == 1 {
			b.Ops[k].Arity = 0
		}
	}
	return b
}

func TestAlgebraText(t *testing.T) {
	cases := []struct {
		a    impl.Algebra
		want string
	}{
		{impl.Algebra{Size: 1}, "1"},
		{impl.Algebra{Size: 8, Ops: []impl.Op{}}, "8"},
		{impl.Algebra{Size: 2, Ops: []impl.Op{{Arity: 2, Table: []int{0, 0, 0, 1}}, {Arity: 1, Table: []int{1, 0}}}}, "2; 0 0 0 1; 1 0"},
		{impl.Algebra{Size: 3, Ops: []impl.Op{{Table: []int{2}}, {Arity: 1, Table: []int{2, 1, 0}}, {Table: []int{0}}}}, "3; 2; 2 1 0; 0"},
		{impl.Algebra{Size: 1, Ops: []impl.Op{{Arity: 3, Table: []int{0}}, {Table: []int{0}}}}, "1; 0; 0"},
		{impl.Algebra{Size: 8, Ops: []impl.Op{{Arity: 1, Table: []int{7, 6, 5, 4, 3, 2, 1, 0}}}}, "8; 7 6 5 4 3 2 1 0"},
	}
	for _, c := range cases {
		if s, ok := impl.AlgebraText(c.a); !ok || s != c.want {
			t.Errorf("text %q, %v, not %q", s, ok, c.want)
		}
	}
	for _, a := range invalidAlgebras() {
		if s, ok := impl.AlgebraText(a); ok || s != "" {
			t.Errorf("text of an invalid Algebra %.30q, %v", s, ok)
		}
	}
}

func TestAlgebraTextRoundTrip(t *testing.T) {
	for _, a := range someAlgebras() {
		s, ok := impl.AlgebraText(a)
		if !ok || s != textOf(a) {
			t.Fatal("text", a, s, ok)
		}
		b, ok := impl.ParseAlgebra(s)
		if !ok || !sameAlgebra(b, withoutArguments(a)) {
			t.Fatal("read", s, b, ok)
		}
	}
	// The longest text is longer than MaxString.
	a := unevenOf(8, 3, 3, 3, 3)
	s, ok := impl.AlgebraText(a)
	if !ok || len(s) != 4101 {
		t.Error("longest text", len(s), ok)
	}
	if b, ok := impl.ParseAlgebra(s); !ok || !sameAlgebra(b, a) {
		t.Error("longest text read", ok)
	}
}

func TestParseAlgebra(t *testing.T) {
	eights := func(n int) []int { return unevenOf(8, 3, 3).Ops[0].Table[:n] }
	cases := []struct {
		s    string
		want impl.Algebra
	}{
		{"1", impl.Algebra{Size: 1}},
		{"8", impl.Algebra{Size: 8}},
		{"1; 0", impl.Algebra{Size: 1, Ops: []impl.Op{{Table: []int{0}}}}},
		{"1; 0; 0; 0; 0", impl.Algebra{Size: 1, Ops: []impl.Op{{Table: []int{0}}, {Table: []int{0}}, {Table: []int{0}}, {Table: []int{0}}}}},
		{"2; 1", impl.Algebra{Size: 2, Ops: []impl.Op{{Table: []int{1}}}}},
		{"2; 1 1 0 1", impl.Algebra{Size: 2, Ops: []impl.Op{{Arity: 2, Table: []int{1, 1, 0, 1}}}}},
		{"2; 1 0; 0 1 1 1 1 0 0 0; 1", impl.Algebra{Size: 2, Ops: []impl.Op{{Arity: 1, Table: []int{1, 0}}, {Arity: 3, Table: []int{0, 1, 1, 1, 1, 0, 0, 0}}, {Table: []int{1}}}}},
		{"4; 3 2 1 0", impl.Algebra{Size: 4, Ops: []impl.Op{{Arity: 1, Table: []int{3, 2, 1, 0}}}}},
		{"8; " + strings.Trim(fmt.Sprint(eights(512)), "[]"), impl.Algebra{Size: 8, Ops: []impl.Op{{Arity: 3, Table: eights(512)}}}},
		{"8; " + strings.Trim(fmt.Sprint(eights(8)), "[]"), impl.Algebra{Size: 8, Ops: []impl.Op{{Arity: 1, Table: eights(8)}}}},
	}
	for _, c := range cases {
		if a, ok := impl.ParseAlgebra(c.s); !ok || !sameAlgebra(a, c.want) {
			t.Errorf("read %.40q: %.80s, %v", c.s, fmt.Sprint(a), ok)
		}
	}
}

func TestParseAlgebraRefuses(t *testing.T) {
	values := func(n int) string { return strings.TrimSuffix(strings.Repeat("0 ", n), " ") }
	cases := []string{
		"", " ", ";", "; ", "; 0", "0", "9", "10", "0; 0", "0; ", "9; 0", "10; 0", "-1", "-1; 0", "+1", "01", "01; 0", "1.0", "x", "2x", "2 ", " 2", "2\n",
		"2;", "2; ", "2;0", "2 ; 0", "2;  0", "2; 0 ", "2; 0;", "2; 0; ", "2; 0;0", "2; 0 ; 0", "2; ; 0", "2; 0; ; 0", "2;; 0", "2 0", "2, 0", "2:0", ";2; 0",
		"2; 0  1", "2; 0 1 ", "2;  0 1", "2; 01", "2; 00", "2; 00 1", "2; 0 01", "2; -0", "2; +0", "2; 0,1", "2; 0\t1", "2; 0\n1", "2; 0 1\n", "2;\n0 1", "2; 0\x00 1",
		"2; 2", "2; -1", "2; 0 2", "2; 2 0", "1; 1", "3; 3", "8; 8", "8; 0 1 2 3 4 5 6 8", "8; 9", "2; x", "2; 0 x", "2; 10", "2; 0 1 0 10", "2; 256", "2; 18446744073709551616",
		"2; 0 0 0", "2; 0 0 0 0 0", "2; " + values(6), "2; " + values(7), "2; " + values(9), "2; " + values(16), "2; " + values(32),
		"1; 0 0", "1; 0 0 0", "3; 0 0", "3; " + values(4), "3; " + values(8), "3; " + values(26), "3; " + values(28), "3; " + values(81), "8; " + values(7),
		"8; " + values(63), "8; " + values(511), "8; " + values(513), "8; " + values(4096),
		"2; 0; 0; 0; 0; 0", "1; 0; 0; 0; 0; 0; 0", "2; 0; 0; 0; 0; x", "2; 0; 0; 0; 0;", "2; 0; 0; 0; 0; ", "2; 0; 0; 0; 0 0 0", "2; 0; 2; 0",
		"\u0662", "\uff12", "2; \u0660", "2; 0\u00a00", "2\u00e9", "\xff", "2; \xff", "2; 0\xff0", "2; 0 \xb1", "2\x00",
		"2; 0#", "#", "2 ; 0 1", "two", "2; 0 1 0 1 2; 0",
		strings.Repeat("2", 5000), strings.Repeat("; 0", 5000), "2" + strings.Repeat("; 0", 1<<18), "2; " + values(1<<18), strings.Repeat(" ", 1<<20), strings.Repeat("; ", 1<<18), "2; 0" + strings.Repeat("x", 1<<20),
	}
	for _, s := range cases {
		if a, ok := impl.ParseAlgebra(s); ok || !isZeroAlgebra(a) {
			t.Errorf("read %.30q: %v, %v", s, a, ok)
		}
	}
}

// Of all short texts, just those are read that are the text of an Algebra.
func TestParseAlgebraReadsWhatIsWritten(t *testing.T) {
	written := map[string]impl.Algebra{}
	for size := 1; size <= 2; size++ {
		for _, k := range [][]int{nil, {0}, {1}, {0, 0}} {
			all := []impl.Algebra{{Size: size}}
			for _, arity := range k {
				var longer []impl.Algebra
				for _, a := range all {
					for _, table := range argsOf(size, power(size, arity)) {
						b := cloneAlgebra(a)
						b.Ops = append(b.Ops, impl.Op{Arity: arity, Table: table})
						longer = append(longer, b)
					}
				}
				all = longer
			}
			for _, a := range all {
				written[textOf(a)] = withoutArguments(a)
			}
		}
	}
	read := 0
	for _, s := range stringsUpTo(7, "012; ") {
		want, is := written[s]
		a, ok := impl.ParseAlgebra(s)
		if ok != is || !sameAlgebra(a, want) {
			t.Fatalf("read %q: %v, %v", s, a, ok)
		}
		if ok {
			read++
		}
	}
	if read != len(written) || read != 14 {
		t.Error("texts read", read, "of", len(written))
	}
}

// changedTexts returns all texts in which a single byte of s is changed, added or left out.
func changedTexts(s string) []string {
	var changed []string
	for i := range len(s) + 1 {
		for c := range 256 {
			sign := string([]byte{byte(c)})
			changed = append(changed, s[:i]+sign+s[i:])
			if i < len(s) {
				changed = append(changed, s[:i]+sign+s[i+1:])
			}
		}
		if i < len(s) {
			changed = append(changed, s[:i]+s[i+1:])
		}
	}
	return changed
}

// Each single byte of a text that is changed, added or left out makes it the text of another
// Algebra or of none.
func TestParseAlgebraOfChangedTexts(t *testing.T) {
	for _, s := range []string{"1; 0", "2; 0 0 0 1; 1 0", "3; 2; 2 1 0; 0", "8"} {
		for _, x := range changedTexts(s) {
			a, ok := impl.ParseAlgebra(x)
			if ok && (!impl.IsAlgebra(a) || textOf(a) != x) || !ok && !isZeroAlgebra(a) {
				t.Fatalf("read %q: %v, %v", x, a, ok)
			}
		}
	}
}

// callAll calls each function of the chapter that takes an Algebra and returns the results.
func callAll(a impl.Algebra, ops, names, args []int) []any {
	var all []any
	keep := func(results ...any) { all = append(all, results...) }
	r, ok := impl.TypeOf(a)
	c, fine := impl.ConstantsOf(a)
	s, good := impl.AlgebraText(a)
	same, right := impl.SameType(a, a)
	keep(impl.IsAlgebra(a), r, ok, c, fine, s, good, same, right)
	for k := range 4 {
		v, one := impl.ValueOf(a, k, args)
		x, two := impl.IsIdempotent(a, k)
		y, three := impl.IsCommutative(a, k)
		z, four := impl.IsAssociative(a, k)
		b, five := impl.ReverseArgs(a, k)
		keep(v, one, x, two, y, three, z, four, b, five)
	}
	b, ok := impl.ReductTo(a, ops)
	d, fine := impl.RenameElements(a, names)
	keep(b, ok, d, fine)
	return all
}

// Arguments stay as they are, results share no memory with them or with each other, and the
// same call has the same result again.
func TestAlgebraFunctionsLeaveTheirArguments(t *testing.T) {
	for _, a := range someAlgebras() {
		before := cloneAlgebra(a)
		ops, names, args := []int{}, firstNumbers(a.Size), []int{0, 0}
		if len(a.Ops) > 0 {
			ops = []int{0, len(a.Ops) - 1, 0, 0}
		}
		slices.Reverse(names)
		named := slices.Clone(names)
		first := callAll(a, ops, names, args)
		second := callAll(a, ops, names, args)
		if !reflect.DeepEqual(first, second) {
			t.Fatal("another result", a)
		}
		spoil(first)
		if !sameAlgebra(a, before) || !slices.Equal(names, named) || !slices.Equal(args, []int{0, 0}) || len(ops) > 0 && !slices.Equal(ops, []int{0, len(a.Ops) - 1, 0, 0}) {
			t.Fatal("changed", a, ops, names, args)
		}
		if !reflect.DeepEqual(callAll(a, ops, names, args), second) {
			t.Fatal("a result shares memory", a)
		}
	}
}

// spoil writes into all slices of results.
func spoil(results []any) {
	for _, r := range results {
		switch x := r.(type) {
		case []int:
			for i := range x {
				x[i] = -9
			}
		case impl.Algebra:
			for k := range x.Ops {
				for i := range x.Ops[k].Table {
					x.Ops[k].Table[i] = -9
				}
				x.Ops[k] = impl.Op{}
			}
		}
	}
}

func TestReductTablesAreApart(t *testing.T) {
	b, ok := impl.ReductTo(unevenOf(3, 2, 1), []int{0, 0, 1, 0})
	if !ok {
		t.Fatal("no reduct")
	}
	want := slices.Clone(b.Ops[1].Table)
	b.Ops[0].Table[0] = -9
	if !slices.Equal(b.Ops[1].Table, want) || !slices.Equal(b.Ops[3].Table, want) {
		t.Error("Tables share memory", b)
	}
	b.Ops[1].Table = append(b.Ops[1].Table, 5)
	if len(b.Ops[2].Table) != 3 || !slices.Equal(b.Ops[3].Table, want) {
		t.Error("Tables share memory", b)
	}
	c, ok := impl.ParseAlgebra("2; 0 1; 0 1")
	if !ok {
		t.Fatal("not read")
	}
	c.Ops[0].Table[0] = -9
	c.Ops[0].Table = append(c.Ops[0].Table, -9)
	if !slices.Equal(c.Ops[1].Table, []int{0, 1}) {
		t.Error("Tables share memory", c)
	}
}
