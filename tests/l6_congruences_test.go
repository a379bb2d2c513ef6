package tests

import (
	"cmp"
	"fmt"
	"math"
	"slices"
	"sync"
	"testing"

	"loop.example/g01078/impl"
)

// The signatures and limits of chapter 6 are promised to other packages.
var (
	_ func(int, []int) (bool, bool)                        = impl.IsPartition
	_ func(int, []int) ([][]int, bool)                     = impl.BlocksOf
	_ func(int, [][]int) ([]int, bool)                     = impl.FromBlocks
	_ func(int, []int, []int) (bool, bool)                 = impl.IsFiner
	_ func(int, []int, []int) ([]int, bool)                = impl.MeetPartitions
	_ func(int, []int, []int) ([]int, bool)                = impl.JoinPartitions
	_ func(impl.Algebra, []int) (bool, bool)               = impl.IsCongruence
	_ func(impl.Algebra, int, int) ([]int, bool)           = impl.CongruenceOfPair
	_ func(impl.Algebra, [][2]int) ([]int, bool)           = impl.CongruenceOfPairs
	_ func(impl.Algebra, int, int) ([][2]int, bool)        = impl.TranslatedPairs
	_ func(impl.Algebra, int, int, int, int) ([]int, bool) = impl.CongruenceChain
	_ func(impl.Algebra) ([][]int, bool)                   = impl.AllCongruences
	_ func(impl.Algebra) ([][]int, bool)                   = impl.MinimalCongruences
	_ func(impl.Algebra) ([][]int, bool)                   = impl.MaximalCongruences
	_ func(impl.Algebra, []int) ([][]int, bool)            = impl.CoveringCongruences
)

func TestCongruenceLimits(t *testing.T) {
	if impl.MaxCongruences != 200 {
		t.Error("limit", impl.MaxCongruences)
	}
}

// wrongCounts are numbers of elements that no partition has.
func wrongCounts() []int { return []int{0, -1, -8, 9, 10, 64, math.MaxInt, math.MinInt} }

// knownPartitions keeps what partitionsOf returns, which nobody may change. Tests that run beside each
// other ask for it.
var (
	knownPartitions = map[int][][]int{}
	knowing         sync.Mutex
)

// partitionsOf returns all partitions of 0..n-1 in the order in which congruences are listed.
func partitionsOf(n int) [][]int {
	knowing.Lock()
	defer knowing.Unlock()
	if all, ok := knownPartitions[n]; ok {
		return all
	}
	all := [][]int{{}}
	for x := range n {
		var longer [][]int
		for _, p := range all {
			for least := range x {
				if p[least] == least {
					longer = append(longer, append(slices.Clone(p), least))
				}
			}
			longer = append(longer, append(slices.Clone(p), x))
		}
		all = longer
	}
	slices.SortFunc(all, func(p, q []int) int {
		return cmp.Or(cmp.Compare(leastOnes(q), leastOnes(p)), slices.Compare(p, q))
	})
	knownPartitions[n] = all
	return all
}

// leastOnes returns the number of blocks.
func leastOnes(p []int) int {
	n := 0
	for x, least := range p {
		if x == least {
			n++
		}
	}
	return n
}

// blocksByRule returns the blocks in ascending order of their least elements.
func blocksByRule(p []int) [][]int {
	var blocks [][]int
	for least := range p {
		var block []int
		for x := range p {
			if p[x] == least {
				block = append(block, x)
			}
		}
		if len(block) > 0 {
			blocks = append(blocks, block)
		}
	}
	return blocks
}

// finerByRule reports whether no two elements in one block of p are in two blocks of q.
func finerByRule(p, q []int) bool {
	for x := range p {
		for y := range x {
			if p[x] == p[y] && q[x] != q[y] {
				return false
			}
		}
	}
	return true
}

// partitionByRule returns the partition in which two elements are in one block if together says so.
func partitionByRule(n int, together func(x, y int) bool) []int {
	p := make([]int, n)
	for x := range n {
		for p[x] = 0; !together(p[x], x); p[x]++ {
		}
	}
	return p
}

func isIn(list [][]int, l []int) bool {
	return slices.ContainsFunc(list, func(m []int) bool { return slices.Equal(l, m) })
}

func fullOf(n int) []int { return make([]int, n) }

// looseLists returns all lists of a length that have numbers from -1 to n.
func looseLists(n, length int) [][]int {
	lists := argsOf(n+2, length)
	for _, l := range lists {
		for i := range l {
			l[i]--
		}
	}
	return lists
}

func TestIsPartitionOfAllShortLists(t *testing.T) {
	for n := 1; n <= 4; n++ {
		all := partitionsOf(n)
		for length := range n + 2 {
			for _, l := range looseLists(n, length) {
				if is, ok := impl.IsPartition(n, l); !ok || is != isIn(all, l) {
					t.Fatal("partition", l, "of", n, is, ok)
				}
				if b, ok := impl.BlocksOf(n, l); ok != isIn(all, l) || !ok && len(b) != 0 {
					t.Fatal("blocks of", l, "of", n, b, ok)
				}
			}
		}
	}
}

func TestCasesOfPartitions(t *testing.T) {
	cases := []struct {
		n  int
		p  []int
		is bool
	}{
		{1, []int{0}, true}, {1, nil, false}, {1, []int{}, false}, {1, []int{1}, false}, {1, []int{-1}, false}, {1, []int{0, 0}, false}, {1, []int{0, 1}, false},
		{8, firstNumbers(8), true}, {8, fullOf(8), true}, {8, []int{0, 1, 0, 1, 4, 4, 1, 7}, true}, {8, nil, false},
		{8, firstNumbers(7), false}, {8, firstNumbers(9), false}, {8, fullOf(7), false}, {8, fullOf(9), false}, {7, fullOf(8), false}, {7, firstNumbers(8), false},
		// A negative number, n, and numbers that are far outside.
		{8, []int{0, 1, 2, 3, 4, 5, 6, -1}, false}, {8, []int{-1, 1, 2, 3, 4, 5, 6, 7}, false}, {8, []int{0, 1, 2, 3, 4, 5, 6, 8}, false}, {4, []int{0, 1, 2, 4}, false},
		{4, []int{0, 1, 2, math.MaxInt}, false}, {4, []int{math.MinInt, 1, 2, 3}, false}, {4, []int{0, 1, 64, 3}, false}, {4, []int{0, -8, 2, 3}, false},
		// A number that is not the least one of its block, and one whose own place tells another block.
		{4, []int{1, 1, 2, 3}, false}, {4, []int{0, 3, 2, 3}, false}, {4, []int{3, 3, 3, 3}, false}, {8, []int{7, 6, 5, 4, 3, 2, 1, 0}, false},
		{4, []int{0, 0, 1, 3}, false}, {4, []int{0, 1, 1, 2}, false}, {4, []int{0, 0, 2, 1}, false}, {8, []int{0, 0, 1, 2, 3, 4, 5, 6}, false}, {4, []int{1, 0, 2, 3}, false},
		{8, make([]int, 1<<20), false}, {8, firstNumbers(1 << 20), false},
	}
	for _, c := range cases {
		if is, ok := impl.IsPartition(c.n, c.p); !ok || is != c.is {
			t.Errorf("partition %.60s of %d: %v, %v", fmt.Sprint(c.p), c.n, is, ok)
		}
		if !c.is {
			checkNoPartition(t, c.n, c.p)
		}
	}
}

// checkNoPartition uses a list that is no partition where one is asked for.
func checkNoPartition(t *testing.T, n int, p []int) {
	t.Helper()
	if b, ok := impl.BlocksOf(n, p); ok || len(b) != 0 {
		t.Errorf("blocks of %.60s of %d: %v, %v", fmt.Sprint(p), n, b, ok)
	}
	others := [][]int{p, nil}
	if n >= 1 && n <= 8 {
		others = append(others, firstNumbers(n), fullOf(n))
	}
	for _, q := range others {
		for i, pair := range [][2][]int{{p, q}, {q, p}} {
			is, one := impl.IsFiner(n, pair[0], pair[1])
			m, two := impl.MeetPartitions(n, pair[0], pair[1])
			j, three := impl.JoinPartitions(n, pair[0], pair[1])
			if is || one || two || three || len(m)+len(j) != 0 {
				t.Errorf("no partition %.60s of %d as argument %d: %v %v %v %v %v %v", fmt.Sprint(p), n, i, is, one, m, two, j, three)
			}
		}
	}
}

// A list is no partition of n numbers if there are no such partitions at all.
func TestNumbersOfAllElements(t *testing.T) {
	for _, n := range wrongCounts() {
		for _, p := range [][]int{nil, {}, {0}, {-1}, {0, 1}, fullOf(8), firstNumbers(8), fullOf(9), firstNumbers(9), firstNumbers(10), firstNumbers(64)} {
			if is, ok := impl.IsPartition(n, p); is || ok {
				t.Error("partition", p, "of", n, is, ok)
			}
			checkNoPartition(t, n, p)
			for _, blocks := range [][][]int{nil, {}, {p}, {nil}, {{0}}, {{0, 1, 2, 3, 4, 5, 6, 7, 8}}, {{0, 1}, p}} {
				if q, ok := impl.FromBlocks(n, blocks); ok || len(q) != 0 {
					t.Error("from blocks", blocks, "of", n, q, ok)
				}
			}
		}
	}
}

// turnedBlocks returns the blocks in other orders, as are their elements.
func turnedBlocks(blocks [][]int) [][][]int {
	turned := [][][]int{blocks, {}, {}, {}}
	for i, b := range blocks {
		backward, rolled := slices.Clone(b), append(slices.Clone(b[len(b)/2:]), b[:len(b)/2]...)
		slices.Reverse(backward)
		turned[1] = append([][]int{backward}, turned[1]...)
		turned[2] = append(turned[2], rolled)
		turned[3] = slices.Insert(turned[3], i/2, backward)
	}
	return turned
}

func TestBlocksOfAllPartitions(t *testing.T) {
	for n := 1; n <= 8; n++ {
		all := partitionsOf(n)
		for _, p := range all {
			if is, ok := impl.IsPartition(n, p); !ok || !is {
				t.Fatal("partition", p, is, ok)
			}
			want := blocksByRule(p)
			if b, ok := impl.BlocksOf(n, p); !ok || !sameLists(b, want) {
				t.Fatal("blocks of", p, b, ok)
			}
			for _, blocks := range turnedBlocks(want) {
				if q, ok := impl.FromBlocks(n, blocks); !ok || !slices.Equal(q, p) {
					t.Fatal("from blocks", blocks, q, ok)
				}
			}
		}
	}
}

func TestFromBlocks(t *testing.T) {
	cases := []struct {
		n      int
		blocks [][]int
		want   []int
	}{
		{1, [][]int{{0}}, []int{0}}, {4, [][]int{{3, 1}, {2, 0}}, []int{0, 1, 0, 1}}, {4, [][]int{{3}, {2}, {1}, {0}}, []int{0, 1, 2, 3}}, {4, [][]int{{2, 3, 0, 1}}, []int{0, 0, 0, 0}},
		{8, [][]int{{7, 3}, {6, 5, 4}, {2}, {1, 0}}, []int{0, 0, 2, 3, 4, 4, 4, 3}},
		// No blocks, and an empty one at each place.
		{1, nil, nil}, {1, [][]int{}, nil}, {8, nil, nil}, {1, [][]int{{}}, nil}, {1, [][]int{nil, {0}}, nil}, {1, [][]int{{0}, {}}, nil},
		{4, [][]int{{}, {0, 1}, {2, 3}}, nil}, {4, [][]int{{0, 1}, nil, {2, 3}}, nil}, {4, [][]int{{0, 1}, {2, 3}, {}}, nil},
		// An element twice in one block, and in two.
		{1, [][]int{{0, 0}}, nil}, {1, [][]int{{0}, {0}}, nil}, {4, [][]int{{0, 1, 0}, {2, 3}}, nil}, {4, [][]int{{0, 1}, {2, 3, 3}}, nil}, {4, [][]int{{0, 1}, {1, 2, 3}}, nil},
		{4, [][]int{{0, 1}, {2, 3}, {0}}, nil}, {4, [][]int{{0, 1}, {2, 3}, {0, 1}}, nil}, {4, [][]int{{0, 0}, {2, 3}}, nil}, {3, [][]int{{0}, {2, 2}}, nil},
		// An element in no block.
		{2, [][]int{{0}}, nil}, {2, [][]int{{1}}, nil}, {4, [][]int{{0, 1}, {3}}, nil}, {4, [][]int{{0, 1}, {2}}, nil}, {8, [][]int{{1, 2, 3}, {4, 5, 6, 7}}, nil}, {8, [][]int{{0, 1, 2, 3}, {4, 5, 6}}, nil},
		// Numbers that are no elements.
		{4, [][]int{{0, 1}, {2, 3}, {4}}, nil}, {4, [][]int{{0, 1}, {2, 3, 4}}, nil}, {4, [][]int{{0, 1}, {2, -1, 3}}, nil}, {4, [][]int{{-1}, {0, 1, 2, 3}}, nil}, {4, [][]int{{0, 1, 2, 4}}, nil},
		{8, [][]int{{0, 1, 2, 3, 4, 5, 6, 7}, {8}}, nil}, {8, [][]int{{0, 1, 2, 3, 4, 5, 6, 7, 8}}, nil}, {4, [][]int{{0, 1}, {2, math.MaxInt, 3}}, nil}, {4, [][]int{{math.MinInt, 0, 1, 2, 3}}, nil}, {4, [][]int{{0, 1, 2, 3, 64}}, nil}, {4, [][]int{{0, 1, 2, 67}}, nil},
		{8, [][]int{make([]int, 1<<20)}, nil}, {8, [][]int{firstNumbers(1 << 20)}, nil}, {8, make([][]int, 1<<20), nil}, {8, slices.Repeat([][]int{firstNumbers(8)}, 1<<16), nil},
	}
	for _, c := range cases {
		if p, ok := impl.FromBlocks(c.n, c.blocks); ok != (c.want != nil) || !slices.Equal(p, c.want) {
			t.Errorf("from blocks %.60s of %d: %v, %v", fmt.Sprint(c.blocks), c.n, p, ok)
		}
	}
}

// All lists of at most three blocks of at most two numbers each: those that are no partitions fail.
func TestFromAllFewBlocks(t *testing.T) {
	var blocks [][]int
	for length := range 3 {
		blocks = append(blocks, looseLists(3, length)...)
	}
	for n := 1; n <= 3; n++ {
		for count := range 4 {
			for _, places := range argsOf(len(blocks), count) {
				var some [][]int
				for _, i := range places {
					some = append(some, blocks[i])
				}
				joined := slices.Concat(some...)
				slices.Sort(joined)
				is := slices.Equal(joined, firstNumbers(n)) && !slices.ContainsFunc(some, func(b []int) bool { return len(b) == 0 })
				p, ok := impl.FromBlocks(n, some)
				if ok != is || !ok && len(p) != 0 {
					t.Fatal("from blocks", some, "of", n, p, ok)
				}
			}
		}
	}
}

// checkTwo compares two partitions, of all, with what the chapter's words say of them.
func checkTwo(t *testing.T, all [][]int, p, q []int) {
	t.Helper()
	n := len(p)
	if is, ok := impl.IsFiner(n, p, q); !ok || is != finerByRule(p, q) {
		t.Fatal("finer", p, q, is, ok)
	}
	meet := partitionByRule(n, func(x, y int) bool { return p[x] == p[y] && q[x] == q[y] })
	if m, ok := impl.MeetPartitions(n, p, q); !ok || !slices.Equal(m, meet) {
		t.Fatal("meet", p, q, m, ok, "not", meet)
	}
	// The finest one has the most blocks, so it is the first one.
	join := all[slices.IndexFunc(all, func(r []int) bool { return finerByRule(p, r) && finerByRule(q, r) })]
	if j, ok := impl.JoinPartitions(n, p, q); !ok || !slices.Equal(j, join) {
		t.Fatal("join", p, q, j, ok, "not", join)
	}
}

func TestTwoPartitions(t *testing.T) {
	for n := 1; n <= 8; n++ {
		all := partitionsOf(n)
		// All pairs of partitions of up to five elements, and some of the longer lists.
		one, other := 1+len(all)/61, 1+len(all)/53
		for i := 0; i < len(all); i += one {
			for j := 0; j < len(all); j += other {
				checkTwo(t, all, all[i], all[j])
			}
			checkTwo(t, all, all[i], all[i])
			checkTwo(t, all, all[i], firstNumbers(n))
			checkTwo(t, all, firstNumbers(n), all[i])
			checkTwo(t, all, all[i], fullOf(n))
			checkTwo(t, all, fullOf(n), all[i])
		}
	}
}

func TestCasesOfTwoPartitions(t *testing.T) {
	cases := []struct {
		p, q        []int
		finer, back bool
		meet, join  []int
	}{
		{[]int{0}, []int{0}, true, true, []int{0}, []int{0}},
		{[]int{0, 1}, []int{0, 0}, true, false, []int{0, 1}, []int{0, 0}},
		{firstNumbers(8), fullOf(8), true, false, firstNumbers(8), fullOf(8)},
		{firstNumbers(8), firstNumbers(8), true, true, firstNumbers(8), firstNumbers(8)},
		{fullOf(8), fullOf(8), true, true, fullOf(8), fullOf(8)},
		{[]int{0, 0, 2, 2}, []int{0, 1, 0, 1}, false, false, firstNumbers(4), fullOf(4)},
		{[]int{0, 0, 2, 3}, []int{0, 0, 0, 3}, true, false, []int{0, 0, 2, 3}, []int{0, 0, 0, 3}},
		{[]int{0, 0, 2, 3}, []int{0, 1, 2, 2}, false, false, firstNumbers(4), []int{0, 0, 2, 2}},
		{[]int{0, 0, 0, 3, 3, 3}, []int{0, 1, 1, 1, 4, 4}, false, false, []int{0, 1, 1, 3, 4, 4}, fullOf(6)},
		// The blocks overlap in a chain from the first to the last element, and in one backwards.
		{[]int{0, 0, 2, 2, 4, 4, 6, 6}, []int{0, 1, 1, 3, 3, 5, 5, 7}, false, false, firstNumbers(8), fullOf(8)},
		{[]int{0, 1, 2, 3, 3, 2, 1, 0}, []int{0, 1, 2, 3, 2, 1, 0, 7}, false, false, firstNumbers(8), fullOf(8)},
		{[]int{0, 1, 2, 3, 2, 5, 5, 1}, []int{0, 1, 2, 1, 4, 5, 4, 7}, false, false, firstNumbers(8), []int{0, 1, 2, 1, 2, 2, 2, 1}},
	}
	for _, c := range cases {
		n := len(c.p)
		finer, one := impl.IsFiner(n, c.p, c.q)
		back, two := impl.IsFiner(n, c.q, c.p)
		if !one || !two || finer != c.finer || back != c.back {
			t.Error("finer", c.p, c.q, finer, one, back, two)
		}
		for _, pair := range [][2][]int{{c.p, c.q}, {c.q, c.p}} {
			m, one := impl.MeetPartitions(n, pair[0], pair[1])
			j, two := impl.JoinPartitions(n, pair[0], pair[1])
			if !one || !two || !slices.Equal(m, c.meet) || !slices.Equal(j, c.join) {
				t.Error("meet and join", pair, m, one, j, two)
			}
		}
	}
}

// unaries returns the Algebra of some operations of the Arity 1.
func unaries(size int, tables ...[]int) impl.Algebra {
	a := bare(size)
	for _, table := range tables {
		a = with(a, 1, table...)
	}
	return a
}

// binaries returns the Algebra of two operations of the Arity 2.
func binaries(size int, f, g func(x []int) int) impl.Algebra {
	return with(opOf(size, 2, f), 2, opOf(size, 2, g).Ops[0].Table...)
}

// latticeOf returns the lattice of elements that are told as lists of points, the lesser ones first
// and the last one with all points: the meet has the most points of those in both, the join the
// fewest of those that have both.
func latticeOf(elements ...uint) impl.Algebra {
	meet := func(x []int) int {
		for i := len(elements) - 1; ; i-- {
			if elements[i]&^(elements[x[0]]&elements[x[1]]) == 0 {
				return i
			}
		}
	}
	join := func(x []int) int {
		return slices.IndexFunc(elements, func(e uint) bool { return (elements[x[0]]|elements[x[1]])&^e == 0 })
	}
	return binaries(len(elements), meet, join)
}

// pentagon has 0 below 1 below 2 below 4, and 3 beside 1 and 2.
func pentagon() impl.Algebra { return latticeOf(0, 1, 3, 4, 7) }

// diamond has three elements between the least and the greatest one.
func diamond() impl.Algebra { return latticeOf(0, 1, 2, 4, 7) }

// tower is the lattice of the order of the numbers.
func tower(size int) impl.Algebra {
	return binaries(size, func(x []int) int { return min(x[0], x[1]) }, func(x []int) int { return max(x[0], x[1]) })
}

// just200 has just MaxCongruences congruences, and one201 one more.
func just200() impl.Algebra {
	return unaries(8, []int{6, 6, 6, 6, 6, 6, 0, 6}, []int{0, 0, 2, 5, 4, 0, 5, 0})
}

func one201() impl.Algebra {
	return unaries(8, []int{0, 1, 2, 3, 4, 7, 2, 5}, []int{0, 1, 2, 3, 4, 2, 3, 2}, []int{0, 1, 2, 3, 4, 7, 6, 7})
}

// congruenceAlgebras returns Algebras with few, with many and with too many congruences.
func congruenceAlgebras() []impl.Algebra {
	list := append(subAlgebras(), pentagon(), diamond(), just200(), one201(), latticeOf(0, 1, 2, 3, 7), latticeOf(0, 1, 2, 3, 7, 11, 15))
	for size := 2; size <= 8; size++ {
		last := size - 1
		list = append(list, tower(size), unaries(size, append(firstNumbers(last), 0)), unaries(size, append([]int{last}, firstNumbers(last)...)))
		list = append(list, opOf(size, 3, func(x []int) int { return max(min(x[0], x[1]), min(x[0], x[2]), min(x[1], x[2])) }))
		list = append(list, opOf(size, 3, func(x []int) int { return x[2] }), opOf(size, 2, func(x []int) int { return x[0] }))
		// What changes only at one place of the arguments, the first, the middle and the last one.
		for place := range 3 {
			list = append(list, opOf(size, 3, func(x []int) int { return x[place] / 2 }), opOf(size, 3, func(x []int) int { return (x[place] + 1) % size }))
		}
		// Only few lists of arguments have a value of their own.
		list = append(list, opOf(size, 3, func(x []int) int { return max(0, x[0]*x[1]*x[2]-(last*last*last-last)) }), opOf(size, 2, func(x []int) int { return max(0, x[0]-x[1]) }))
	}
	for size := 4; size <= 8; size += 2 {
		list = append(list, opOf(size, 2, func(x []int) int { return (x[0]/2*2 + x[1]%2) % size }), opOf(size, 2, func(x []int) int { return x[0] ^ x[1]&1 }))
	}
	list = append(list, opOf(4, 2, func(x []int) int { return x[0] ^ x[1] }), opOf(8, 2, func(x []int) int { return x[0] ^ x[1] }))
	return list
}

// keptByRule compares the value for each list of arguments with that for the least elements of
// their blocks: two lists of arguments in the same blocks have these in common.
func keptByRule(a impl.Algebra, p []int) bool {
	for _, f := range a.Ops {
		for at, value := range f.Table {
			least, step := 0, 1
			for rest := at; step < len(f.Table); rest /= a.Size {
				least += p[rest%a.Size] * step
				step *= a.Size
				if a.Size == 1 {
					break
				}
			}
			if p[value] != p[f.Table[least]] {
				return false
			}
		}
	}
	return true
}

// keptByWords compares the values for all two lists of arguments in the same blocks.
func keptByWords(a impl.Algebra, p []int) bool {
	inBlocks := func(x, y []int) bool {
		return slices.EqualFunc(x, y, func(s, t int) bool { return p[s] == p[t] })
	}
	for _, f := range a.Ops {
		lists := argsOf(a.Size, f.Arity)
		for i, x := range lists {
			for j, y := range lists {
				if inBlocks(x, y) && p[f.Table[i]] != p[f.Table[j]] {
					return false
				}
			}
		}
	}
	return true
}

// congruencesByRule returns all congruences in their order.
func congruencesByRule(a impl.Algebra) [][]int {
	return chosen(partitionsOf(a.Size), func(p []int) bool { return keptByRule(a, p) })
}

func TestIsCongruence(t *testing.T) {
	for _, a := range congruenceAlgebras() {
		all := partitionsOf(a.Size)
		for i := 0; i < len(all); i += 1 + len(all)/300 {
			p := all[i]
			want := keptByRule(a, p)
			if a.Size <= 4 && want != keptByWords(a, p) {
				t.Fatal("the rule is wrong for", a, p)
			}
			if is, ok := impl.IsCongruence(a, p); !ok || is != want {
				t.Fatal("congruence", p, "of", a, is, ok)
			}
		}
		for _, p := range [][]int{firstNumbers(a.Size), fullOf(a.Size)} {
			if is, ok := impl.IsCongruence(a, p); !ok || !is {
				t.Fatal("congruence", p, "of", a, is, ok)
			}
		}
	}
}

// Any numbers are asked for: those that are no congruence are no failure, but CoveringCongruences
// fails for them.
func TestIsCongruenceOfAnyNumbers(t *testing.T) {
	for _, a := range []impl.Algebra{bare(3), lesser(3), constantsAlone(3, 2), opOf(3, 3, func(x []int) int { return x[0] / 2 })} {
		all := congruencesByRule(a)
		for n := range 5 {
			for _, l := range looseLists(3, n) {
				if is, ok := impl.IsCongruence(a, l); !ok || is != isIn(all, l) {
					t.Fatal("congruence", l, "of", a, is, ok)
				}
				if c, ok := impl.CoveringCongruences(a, l); ok != isIn(all, l) || !ok && len(c) != 0 {
					t.Fatal("covering", l, "in", a, c, ok)
				}
			}
		}
	}
	for _, l := range [][]int{nil, {}, {0}, firstNumbers(7), firstNumbers(9), fullOf(7), fullOf(9), {0, 1, 2, 3, 4, 5, 6, 8}, {0, 1, 2, 3, 4, 5, 6, -1}, {0, 1, 2, 3, 4, 5, 6, math.MaxInt}, {math.MinInt, 1, 2, 3, 4, 5, 6, 7}, {7, 7, 7, 7, 7, 7, 7, 7}, make([]int, 1<<20)} {
		for _, a := range []impl.Algebra{bare(8), sums(8), constantsAlone(8, 1)} {
			if is, ok := impl.IsCongruence(a, l); !ok || is {
				t.Errorf("congruence %.60s: %v, %v", fmt.Sprint(l), is, ok)
			}
			if c, ok := impl.CoveringCongruences(a, l); ok || len(c) != 0 {
				t.Errorf("covering %.60s: %v, %v", fmt.Sprint(l), c, ok)
			}
		}
	}
}

// Without operations, and with those of the Arity 0 alone, each partition is a congruence.
func TestCongruencesWithoutArguments(t *testing.T) {
	for size := 1; size <= 8; size++ {
		all := partitionsOf(size)
		for _, a := range []impl.Algebra{bare(size), constantsAlone(size, size-1), constantsAlone(size, 0, size/2, size-1, 0)} {
			for _, p := range all {
				if is, ok := impl.IsCongruence(a, p); !ok || !is {
					t.Fatal("congruence", p, "of", a, is, ok)
				}
			}
			l, ok := impl.AllCongruences(a)
			if ok != (size <= 5) || ok && !sameLists(l, all) || !ok && len(l) != 0 {
				t.Error("all of", a, len(l), ok)
			}
			for x := range size {
				for y := range size {
					want := partitionByRule(size, func(s, t int) bool { return s == t || s == x && t == y || s == y && t == x })
					if p, ok := impl.CongruenceOfPair(a, x, y); !ok || !slices.Equal(p, want) {
						t.Error("congruence of", x, y, "in", a, p, ok)
					}
					pairs, ok := impl.TranslatedPairs(a, x, y)
					if !ok || x == y && len(pairs) != 0 || x != y && !slices.Equal(pairs, [][2]int{{min(x, y), max(x, y)}}) {
						t.Error("translated pairs of", x, y, "in", a, pairs, ok)
					}
				}
			}
		}
	}
}

// One value of an operation of the greatest Arity is enough to break a congruence, wherever it is.
func TestCongruencesOfTernaryOperations(t *testing.T) {
	halves := []int{0, 0, 2, 2}
	for at := range 64 {
		a := opOf(4, 3, func(x []int) int { return x[0] / 2 * 2 })
		if is, ok := impl.IsCongruence(a, halves); !ok || !is {
			t.Fatal("congruence", is, ok)
		}
		f := a.Ops[0].Table
		f[at]++
		if is, ok := impl.IsCongruence(a, halves); !ok || !is {
			t.Error("value in the same block at", at, is, ok)
		}
		f[at] = (f[at] + 2) % 4
		if is, ok := impl.IsCongruence(a, halves); !ok || is {
			t.Error("value in the other block at", at, is, ok)
		}
		// The same as the last one of four operations.
		b := bare(4)
		for range 3 {
			b = with(b, 3, opOf(4, 3, func(x []int) int { return x[2] }).Ops[0].Table...)
		}
		if is, ok := impl.IsCongruence(with(b, 3, f...), halves); !ok || is {
			t.Error("last operation with a value in the other block at", at, is, ok)
		}
		if p, ok := impl.CongruenceOfPairs(with(b, 3, f...), [][2]int{{0, 1}, {2, 3}}); !ok || !slices.Equal(p, fullOf(4)) {
			t.Error("congruence with a value in the other block at", at, p, ok)
		}
	}
}

// areTogether reports whether both elements of each pair are in one block.
func areTogether(p []int, pairs [][2]int) bool {
	return !slices.ContainsFunc(pairs, func(pair [2]int) bool { return p[pair[0]] != p[pair[1]] })
}

// finestByRule returns, of all congruences, the finest one that has the elements of each pair in
// one block. It has the most blocks, so it is the first one.
func finestByRule(all [][]int, pairs [][2]int) []int {
	return all[slices.IndexFunc(all, func(p []int) bool { return areTogether(p, pairs) })]
}

// somePairs returns lists of none, of one and of more pairs, with the same element twice and the
// same pair twice.
func somePairs(size int) [][][2]int {
	lists := [][][2]int{nil, {}}
	at := func(n int) [2]int { return [2]int{n * 5 % size, (n*n + 3*n + 1) % size} }
	for n := range size * 2 {
		p, q, r := at(n), at(n+1), at(3*n+2)
		lists = append(lists, [][2]int{p}, [][2]int{p, q}, [][2]int{q, p}, [][2]int{p, q, r}, [][2]int{p, {q[1], q[0]}, p, {n % size, n % size}, {p[1], p[0]}})
	}
	return lists
}

func TestCongruenceOfPairs(t *testing.T) {
	for _, a := range congruenceAlgebras() {
		all := congruencesByRule(a)
		for x := range a.Size {
			for y := range a.Size {
				want := finestByRule(all, [][2]int{{x, y}})
				if p, ok := impl.CongruenceOfPair(a, x, y); !ok || !slices.Equal(p, want) {
					t.Fatal("congruence of", x, y, "in", a, p, ok, "not", want)
				}
			}
		}
		for _, pairs := range somePairs(a.Size) {
			want := finestByRule(all, pairs)
			if p, ok := impl.CongruenceOfPairs(a, pairs); !ok || !slices.Equal(p, want) {
				t.Fatal("congruence of", pairs, "in", a, p, ok, "not", want)
			}
		}
	}
}

// The congruence of some pairs is the join of the principal ones of each of them: the guarantee of
// the chapter, by the functions of the program alone.
func TestJoinOfPrincipalCongruences(t *testing.T) {
	for _, a := range congruenceAlgebras() {
		for _, pairs := range somePairs(a.Size) {
			join := firstNumbers(a.Size)
			for _, pair := range pairs {
				p, one := impl.CongruenceOfPair(a, pair[0], pair[1])
				back, two := impl.CongruenceOfPair(a, pair[1], pair[0])
				j, three := impl.JoinPartitions(a.Size, join, p)
				if !one || !two || !three || !slices.Equal(p, back) {
					t.Fatal("congruence of", pair, "in", a, p, back, j)
				}
				join = j
			}
			if p, ok := impl.CongruenceOfPairs(a, pairs); !ok || !slices.Equal(p, join) {
				t.Fatal("congruence of", pairs, "in", a, p, ok, "not", join)
			}
			if is, ok := impl.IsCongruence(a, join); !ok || !is {
				t.Fatal("join", join, "in", a, is, ok)
			}
		}
	}
}

func TestCasesOfPairs(t *testing.T) {
	cases := []struct {
		a     impl.Algebra
		pairs [][2]int
		want  []int
	}{
		{bare(1), nil, []int{0}}, {bare(1), [][2]int{{0, 0}}, []int{0}}, {sums(8), nil, firstNumbers(8)}, {sums(8), [][2]int{{3, 3}, {5, 5}}, firstNumbers(8)},
		{sums(8), [][2]int{{1, 5}}, []int{0, 1, 2, 3, 0, 1, 2, 3}}, {sums(8), [][2]int{{5, 1}}, []int{0, 1, 2, 3, 0, 1, 2, 3}}, {sums(8), [][2]int{{7, 1}}, []int{0, 1, 0, 1, 0, 1, 0, 1}}, {sums(8), [][2]int{{4, 7}}, fullOf(8)},
		{sums(6), [][2]int{{0, 2}, {0, 2}}, []int{0, 1, 0, 1, 0, 1}}, {sums(6), [][2]int{{5, 2}, {2, 5}}, []int{0, 1, 2, 0, 1, 2}}, {sums(6), [][2]int{{0, 2}, {5, 2}}, fullOf(6)},
		{bare(8), [][2]int{{7, 6}, {6, 5}, {0, 1}, {3, 3}, {1, 2}}, []int{0, 0, 0, 3, 4, 5, 5, 5}}, {bare(8), [][2]int{{7, 0}, {6, 1}, {7, 6}}, []int{0, 0, 2, 3, 4, 5, 0, 0}},
		{lesser(5), [][2]int{{1, 3}}, []int{0, 1, 1, 1, 4}}, {lesser(5), [][2]int{{4, 3}, {0, 1}}, []int{0, 0, 2, 3, 3}}, {tower(8), [][2]int{{2, 4}, {7, 6}}, []int{0, 1, 2, 2, 2, 5, 6, 6}},
		{pentagon(), [][2]int{{1, 2}}, []int{0, 1, 1, 3, 4}}, {pentagon(), [][2]int{{0, 3}}, []int{0, 1, 1, 0, 1}}, {pentagon(), [][2]int{{0, 1}}, []int{0, 0, 0, 3, 3}}, {pentagon(), [][2]int{{1, 3}}, fullOf(5)}, {diamond(), [][2]int{{1, 0}}, fullOf(5)},
		// Translations lead from one operation to the other and back.
		{unaries(8, []int{2, 3, 2, 3, 6, 7, 6, 7}, []int{0, 0, 4, 5, 0, 0, 0, 0}), [][2]int{{1, 0}}, []int{0, 0, 2, 2, 4, 4, 6, 6}},
		// Only the second pair has a translation that joins more.
		{with(bare(4), 2, 0, 0, 0, 0, 0, 0, 0, 0, 0, 0, 0, 0, 0, 0, 0, 3), [][2]int{{1, 2}}, []int{0, 1, 1, 3}}, {with(bare(4), 2, 0, 0, 0, 0, 0, 0, 0, 0, 0, 0, 0, 0, 0, 0, 0, 3), [][2]int{{1, 2}, {2, 3}}, fullOf(4)},
	}
	for _, c := range cases {
		if p, ok := impl.CongruenceOfPairs(c.a, c.pairs); !ok || !slices.Equal(p, c.want) {
			t.Error("congruence of", c.pairs, "in", c.a, p, ok, "not", c.want)
		}
		if len(c.pairs) == 1 {
			if p, ok := impl.CongruenceOfPair(c.a, c.pairs[0][0], c.pairs[0][1]); !ok || !slices.Equal(p, c.want) {
				t.Error("congruence of", c.pairs, "in", c.a, p, ok, "not", c.want)
			}
		}
	}
}

func TestNumbersOfPairs(t *testing.T) {
	for n := range 24 {
		same := slices.Repeat([][2]int{{2, 2}}, n)
		// The last pair counts, too.
		last := slices.Concat(same, [][2]int{{0, 7}})[min(n, 1):]
		for _, pairs := range [][][2]int{same, last} {
			want := firstNumbers(8)
			if len(pairs) > 0 && pairs[len(pairs)-1][1] == 7 {
				want[7] = 0
			}
			p, ok := impl.CongruenceOfPairs(bare(8), pairs)
			if ok != (len(pairs) <= 20) || ok && !slices.Equal(p, want) || !ok && len(p) != 0 {
				t.Error(len(pairs), "pairs", p, ok)
			}
		}
	}
	if p, ok := impl.CongruenceOfPairs(sums(8), make([][2]int, 1<<20)); ok || len(p) != 0 {
		t.Error("many pairs", p, ok)
	}
}

// moves tells, for each pair s, t, the pairs of values for two lists of arguments that differ at one
// place only, where the first one has s and the second one t.
type moves map[[2]int]map[[2]int]bool

func movesByRule(a impl.Algebra) moves {
	m := moves{}
	for _, f := range a.Ops {
		lists := argsOf(a.Size, f.Arity)
		for at, args := range lists {
			for i, s := range args {
				for t := range a.Size {
					other := slices.Clone(args)
					other[i] = t
					to := 0
					for _, x := range other {
						to = to*a.Size + x
					}
					if m[[2]int{s, t}] == nil {
						m[[2]int{s, t}] = map[[2]int]bool{}
					}
					m[[2]int{s, t}][[2]int{f.Table[at], f.Table[to]}] = true
				}
			}
		}
	}
	return m
}

// translated returns all translated pairs of x and y, in the orders that they have.
func (m moves) translated(x, y int) map[[2]int]bool {
	met := map[[2]int]bool{{x, y}: true}
	line := [][2]int{{x, y}}
	for len(line) > 0 {
		for pair := range m[line[0]] {
			if !met[pair] {
				met[pair] = true
				line = append(line, pair)
			}
		}
		line = line[1:]
	}
	return met
}

// pairsByRule returns the pairs as TranslatedPairs lists them.
func pairsByRule(size int, met map[[2]int]bool) [][2]int {
	var pairs [][2]int
	for s := range size {
		for t := s + 1; t < size; t++ {
			if met[[2]int{s, t}] || met[[2]int{t, s}] {
				pairs = append(pairs, [2]int{s, t})
			}
		}
	}
	return pairs
}

func areLinked(pairs [][2]int, s, t int) bool {
	return slices.Contains(pairs, [2]int{min(s, t), max(s, t)})
}

// chainByRule goes, again and again, to the least element from which the fewest steps lead to v.
func chainByRule(size int, pairs [][2]int, u, v int) ([]int, bool) {
	steps := map[int]int{v: 0}
	for n := range size {
		for x := range size {
			for y := range size {
				if _, known := steps[x]; !known && areLinked(pairs, x, y) {
					if k, ok := steps[y]; ok && k == n {
						steps[x] = n + 1
					}
				}
			}
		}
	}
	if _, ok := steps[u]; !ok {
		return nil, false
	}
	chain := []int{u}
	for x := u; x != v; {
		next := 0
		for !areLinked(pairs, x, next) || steps[next] != steps[x]-1 {
			next++
		}
		chain, x = append(chain, next), next
	}
	return chain, true
}

// chainByTrial tries all lists of elements, the shorter ones first.
func chainByTrial(size int, pairs [][2]int, u, v int) ([]int, bool) {
	for n := range size {
		for _, l := range argsOf(size, n) {
			chain := append([]int{u}, l...)
			fits := chain[n] == v
			for i := range n {
				fits = fits && areLinked(pairs, chain[i], chain[i+1])
			}
			if fits {
				return chain, true
			}
		}
	}
	return nil, false
}

func TestTranslatedPairsAndChains(t *testing.T) {
	t.Parallel()
	for i, a := range congruenceAlgebras() {
		m := movesByRule(a)
		for x := range a.Size {
			for y := range a.Size {
				want := pairsByRule(a.Size, m.translated(x, y))
				if pairs, ok := impl.TranslatedPairs(a, x, y); !ok || !slices.Equal(pairs, want) {
					t.Fatal("translated pairs of", x, y, "in", a, pairs, ok, "not", want)
				}
				for u := range a.Size {
					for v := range a.Size {
						// Of the many chains in larger Algebras, some are enough.
						if a.Size > 4 && (x*31+y*17+u*7+v*3+i)%a.Size > 1 {
							continue
						}
						chain, ok := chainByRule(a.Size, want, u, v)
						if c, is := impl.CongruenceChain(a, x, y, u, v); is != ok || !slices.Equal(c, chain) {
							t.Fatal("chain of", x, y, "from", u, "to", v, "in", a, c, is, "not", chain)
						}
					}
				}
			}
		}
	}
}

// The shortest and first chain is found by trial, too.
func TestChainsByTrial(t *testing.T) {
	for _, a := range []impl.Algebra{bare(3), sums(4), lesser(4), lesser(5), tower(5), successors(5), cosets(4), pentagon(), unaries(5, []int{1, 2, 3, 4, 4}), unaries(5, []int{4, 2, 0, 1, 3}), mixed(5, 1, 2), mixed(5, 2, 1, 1), mixed(4, 3, 3)} {
		for x := range a.Size {
			for y := range a.Size {
				pairs, ok := impl.TranslatedPairs(a, x, y)
				if !ok {
					t.Fatal("translated pairs of", x, y, "in", a)
				}
				for u := range a.Size {
					for v := range a.Size {
						want, is := chainByTrial(a.Size, pairs, u, v)
						if c, ok := impl.CongruenceChain(a, x, y, u, v); ok != is || !slices.Equal(c, want) {
							t.Fatal("chain of", x, y, "from", u, "to", v, "in", a, c, ok, "not", want)
						}
					}
				}
			}
		}
	}
}

// P6: two elements are in one block of a principal congruence exactly if a chain of translated pairs
// leads from one to the other. Only functions of the program are compared.
func TestBlocksAreChains(t *testing.T) {
	for i, a := range congruenceAlgebras() {
		for x := range a.Size {
			for y := range a.Size {
				p, one := impl.CongruenceOfPair(a, x, y)
				pairs, two := impl.TranslatedPairs(a, x, y)
				if !one || !two {
					t.Fatal("congruence of", x, y, "in", a, p, pairs)
				}
				for u := range a.Size {
					for v := range a.Size {
						if a.Size > 5 && (x*13+y*29+u*3+v*5+i)%a.Size > 1 {
							continue
						}
						c, ok := impl.CongruenceChain(a, x, y, u, v)
						if ok != (p[u] == p[v]) || !ok && len(c) != 0 {
							t.Fatal("congruence", p, "of", x, y, "in", a, "chain from", u, "to", v, c, ok)
						}
						if ok {
							checkChainOfPairs(t, pairs, c, u, v)
						}
					}
				}
			}
		}
	}
}

// checkChainOfPairs looks at each two neighbors of a chain.
func checkChainOfPairs(t *testing.T, pairs [][2]int, chain []int, u, v int) {
	t.Helper()
	if len(chain) == 0 || chain[0] != u || chain[len(chain)-1] != v || u == v && len(chain) != 1 {
		t.Fatal("chain", chain, "from", u, "to", v)
	}
	for i := range chain[1:] {
		if !areLinked(pairs, chain[i], chain[i+1]) {
			t.Fatal("chain", chain, "of", pairs)
		}
	}
}

func TestCasesOfTranslatedPairs(t *testing.T) {
	cases := []struct {
		a    impl.Algebra
		x, y int
		want [][2]int
	}{
		{bare(1), 0, 0, nil}, {unevenOf(1, 1, 2, 3, 0), 0, 0, nil}, {sums(8), 3, 3, nil}, {cosets(8), 0, 0, nil},
		{sums(4), 0, 2, [][2]int{{0, 2}, {1, 3}}}, {sums(4), 3, 1, [][2]int{{0, 2}, {1, 3}}}, {sums(4), 3, 0, [][2]int{{0, 1}, {0, 3}, {1, 2}, {2, 3}}},
		{bare(4), 3, 1, [][2]int{{1, 3}}}, {constantsAlone(4, 0, 2), 1, 3, [][2]int{{1, 3}}}, {constantsAlone(4, 0, 2), 2, 2, nil},
		// No further pair: each value is the same one, or that of the other argument.
		{unaries(4, []int{2, 2, 2, 2}), 3, 0, [][2]int{{0, 3}}}, {unaries(4, firstNumbers(4)), 3, 0, [][2]int{{0, 3}}}, {opOf(4, 3, func(x []int) int { return x[1] }), 1, 2, [][2]int{{1, 2}}},
		{unaries(4, []int{1, 0, 2, 2}), 0, 1, [][2]int{{0, 1}}}, {unaries(4, []int{1, 0, 2, 2}), 2, 3, [][2]int{{2, 3}}}, {unaries(4, []int{1, 0, 2, 2}), 1, 3, [][2]int{{0, 2}, {1, 2}, {1, 3}}},
		{unaries(6, []int{2, 3, 4, 5, 4, 5}), 1, 0, [][2]int{{0, 1}, {2, 3}, {4, 5}}}, {successors(4), 1, 3, [][2]int{{0, 2}, {1, 3}}}, {lesser(4), 1, 3, [][2]int{{1, 2}, {1, 3}}},
		// The greater one of the first two, if the third one is 3.
		{opOf(4, 3, func(x []int) int { return max(x[0], x[1]) * (x[2] / 3) }), 0, 1, [][2]int{{0, 1}}}, {opOf(4, 3, func(x []int) int { return max(x[0], x[1]) * (x[2] / 3) }), 2, 3, [][2]int{{0, 1}, {0, 2}, {0, 3}, {1, 2}, {1, 3}, {2, 3}}},
	}
	for _, c := range cases {
		if pairs, ok := impl.TranslatedPairs(c.a, c.x, c.y); !ok || !slices.Equal(pairs, c.want) {
			t.Error("translated pairs of", c.x, c.y, "in", c.a, pairs, ok, "not", c.want)
		}
	}
}

func TestCasesOfChains(t *testing.T) {
	// The pairs of 0 and 1 are the edges of a ring of six, so two chains lead to the opposite one.
	ring := successors(6)
	// Those of 0 and 1 are 0, 1 and 1, 2 and so on up to the last one.
	path := unaries(8, []int{1, 2, 3, 4, 5, 6, 7, 7})
	cases := []struct {
		a          impl.Algebra
		x, y, u, v int
		want       []int
	}{
		{bare(1), 0, 0, 0, 0, []int{0}}, {bare(4), 1, 2, 3, 3, []int{3}}, {bare(4), 1, 1, 3, 3, []int{3}}, {bare(4), 1, 1, 1, 1, []int{1}}, {bare(4), 1, 2, 1, 1, []int{1}},
		// From x to y, in both orders of both.
		{bare(4), 1, 3, 1, 3, []int{1, 3}}, {bare(4), 1, 3, 3, 1, []int{3, 1}}, {bare(4), 3, 1, 1, 3, []int{1, 3}}, {bare(4), 3, 1, 3, 1, []int{3, 1}},
		// None.
		{bare(4), 1, 1, 1, 2, nil}, {bare(4), 1, 3, 1, 2, nil}, {bare(4), 1, 3, 0, 3, nil}, {bare(4), 1, 3, 0, 2, nil}, {sums(4), 0, 2, 0, 1, nil}, {sums(4), 2, 2, 0, 2, nil}, {sums(8), 3, 7, 1, 3, nil},
		{sums(4), 0, 1, 0, 2, []int{0, 1, 2}}, {sums(4), 0, 1, 2, 0, []int{2, 1, 0}}, {sums(4), 0, 1, 3, 1, []int{3, 0, 1}}, {sums(4), 2, 3, 0, 3, []int{0, 3}}, {sums(8), 1, 5, 6, 2, []int{6, 2}},
		{ring, 0, 1, 0, 3, []int{0, 1, 2, 3}}, {ring, 1, 0, 3, 0, []int{3, 2, 1, 0}}, {ring, 4, 3, 1, 4, []int{1, 0, 5, 4}}, {ring, 4, 3, 4, 1, []int{4, 3, 2, 1}}, {ring, 0, 1, 5, 2, []int{5, 0, 1, 2}}, {ring, 0, 1, 0, 4, []int{0, 5, 4}}, {ring, 2, 4, 0, 4, []int{0, 4}}, {ring, 2, 4, 1, 4, nil},
		{path, 0, 1, 0, 7, firstNumbers(8)}, {path, 1, 0, 7, 0, []int{7, 6, 5, 4, 3, 2, 1, 0}}, {path, 3, 4, 3, 7, []int{3, 4, 5, 6, 7}}, {path, 3, 4, 2, 7, nil}, {path, 0, 2, 0, 7, []int{0, 2, 4, 6, 7}}, {path, 0, 2, 0, 5, []int{0, 2, 4, 6, 7, 5}}, {path, 7, 4, 4, 5, []int{4, 7, 5}},
		// A step to the lesser element is the way to a longer chain.
		{unaries(6, []int{1, 2, 3, 4, 4, 5}, []int{5, 3, 5, 5, 5, 5}), 0, 1, 0, 4, []int{0, 1, 2, 3, 4}}, {unaries(6, []int{1, 2, 3, 4, 4, 5}, []int{5, 3, 5, 5, 5, 5}), 0, 1, 1, 5, []int{1, 2, 3, 5}},
	}
	for _, c := range cases {
		if chain, ok := impl.CongruenceChain(c.a, c.x, c.y, c.u, c.v); ok != (c.want != nil) || !slices.Equal(chain, c.want) {
			t.Error("chain of", c.x, c.y, "from", c.u, "to", c.v, "in", c.a, chain, ok, "not", c.want)
		}
	}
}

// minimalCongruences, maximalCongruences and coversByRule follow the words of the chapter.
func minimalCongruences(all [][]int, n int) [][]int {
	return chosen(all, func(p []int) bool {
		finer := chosen(all, func(q []int) bool { return finerByRule(q, p) })
		return !slices.Equal(p, firstNumbers(n)) && len(finer) == 2
	})
}

func maximalCongruences(all [][]int, n int) [][]int {
	return chosen(all, func(p []int) bool {
		coarser := chosen(all, func(q []int) bool { return finerByRule(p, q) })
		return !slices.Equal(p, fullOf(n)) && len(coarser) == 2
	})
}

func coversByRule(all [][]int, p []int) [][]int {
	above := chosen(all, func(q []int) bool { return !slices.Equal(p, q) && finerByRule(p, q) })
	return chosen(above, func(q []int) bool {
		between := chosen(above, func(r []int) bool { return !slices.Equal(q, r) && finerByRule(r, q) })
		return len(between) == 0
	})
}

// checkTooMany calls the functions that need all congruences of an Algebra that has too many.
func checkTooMany(t *testing.T, a impl.Algebra, p []int) {
	t.Helper()
	for i, f := range []func(impl.Algebra) ([][]int, bool){impl.AllCongruences, impl.MinimalCongruences, impl.MaximalCongruences} {
		if l, ok := f(a); ok || len(l) != 0 {
			t.Fatal("too many congruences", i, a, len(l), ok)
		}
	}
	if l, ok := impl.CoveringCongruences(a, p); ok || len(l) != 0 {
		t.Fatal("covering", p, "of too many", a, len(l), ok)
	}
}

func TestListsOfCongruences(t *testing.T) {
	for _, a := range congruenceAlgebras() {
		all := congruencesByRule(a)
		if len(all) > 200 {
			checkTooMany(t, a, all[0])
			checkTooMany(t, a, all[len(all)/2])
			checkTooMany(t, a, all[len(all)-1])
			continue
		}
		if l, ok := impl.AllCongruences(a); !ok || !sameLists(l, all) {
			t.Fatal("all of", a, l, ok, "not", all)
		}
		if l, ok := impl.MinimalCongruences(a); !ok || !sameLists(l, minimalCongruences(all, a.Size)) {
			t.Fatal("minimal ones of", a, l, ok)
		}
		if l, ok := impl.MaximalCongruences(a); !ok || !sameLists(l, maximalCongruences(all, a.Size)) {
			t.Fatal("maximal ones of", a, l, ok)
		}
		for i := 0; i < len(all); i += 1 + len(all)/20 {
			if l, ok := impl.CoveringCongruences(a, all[i]); !ok || !sameLists(l, coversByRule(all, all[i])) {
				t.Fatal("covering", all[i], "in", a, l, ok)
			}
		}
	}
}

func TestCasesOfCongruences(t *testing.T) {
	id := firstNumbers
	both := func(n int) [][]int { return [][]int{id(n), fullOf(n)} }
	cases := []struct {
		a                     impl.Algebra
		all, minimal, maximal [][]int
	}{
		// A single element: the identity is full.
		{bare(1), [][]int{{0}}, nil, nil}, {constantsAlone(1, 0, 0), [][]int{{0}}, nil, nil}, {unevenOf(1, 3, 2, 1, 0), [][]int{{0}}, nil, nil},
		// Two congruences: the full one is minimal, and the identity maximal.
		{bare(2), both(2), [][]int{{0, 0}}, [][]int{{0, 1}}}, {sums(2), both(2), [][]int{{0, 0}}, [][]int{{0, 1}}}, {sums(3), both(3), [][]int{fullOf(3)}, [][]int{id(3)}}, {sums(7), both(7), [][]int{fullOf(7)}, [][]int{id(7)}}, {diamond(), both(5), [][]int{fullOf(5)}, [][]int{id(5)}},
		{bare(3), [][]int{{0, 1, 2}, {0, 0, 2}, {0, 1, 0}, {0, 1, 1}, {0, 0, 0}}, [][]int{{0, 0, 2}, {0, 1, 0}, {0, 1, 1}}, [][]int{{0, 0, 2}, {0, 1, 0}, {0, 1, 1}}},
		{sums(4), [][]int{id(4), {0, 1, 0, 1}, fullOf(4)}, [][]int{{0, 1, 0, 1}}, [][]int{{0, 1, 0, 1}}},
		{sums(8), [][]int{id(8), {0, 1, 2, 3, 0, 1, 2, 3}, {0, 1, 0, 1, 0, 1, 0, 1}, fullOf(8)}, [][]int{{0, 1, 2, 3, 0, 1, 2, 3}}, [][]int{{0, 1, 0, 1, 0, 1, 0, 1}}},
		// Those of three and of two blocks: the more blocks, the earlier.
		{sums(6), [][]int{id(6), {0, 1, 2, 0, 1, 2}, {0, 1, 0, 1, 0, 1}, fullOf(6)}, [][]int{{0, 1, 2, 0, 1, 2}, {0, 1, 0, 1, 0, 1}}, [][]int{{0, 1, 2, 0, 1, 2}, {0, 1, 0, 1, 0, 1}}},
		{lesser(3), [][]int{{0, 1, 2}, {0, 0, 2}, {0, 1, 1}, {0, 0, 0}}, [][]int{{0, 0, 2}, {0, 1, 1}}, [][]int{{0, 0, 2}, {0, 1, 1}}},
		{pentagon(), [][]int{id(5), {0, 1, 1, 3, 4}, {0, 0, 0, 3, 3}, {0, 1, 1, 0, 1}, fullOf(5)}, [][]int{{0, 1, 1, 3, 4}}, [][]int{{0, 0, 0, 3, 3}, {0, 1, 1, 0, 1}}},
		{opOf(4, 2, func(x []int) int { return x[0] ^ x[1] }), [][]int{id(4), {0, 0, 2, 2}, {0, 1, 0, 1}, {0, 1, 1, 0}, fullOf(4)}, [][]int{{0, 0, 2, 2}, {0, 1, 0, 1}, {0, 1, 1, 0}}, [][]int{{0, 0, 2, 2}, {0, 1, 0, 1}, {0, 1, 1, 0}}},
		// The blocks of the minimal ones need not have the same numbers of elements.
		{unaries(5, []int{1, 0, 3, 4, 2}), [][]int{id(5), {0, 0, 2, 3, 4}, {0, 1, 2, 2, 2}, {0, 0, 2, 2, 2}, fullOf(5)}, [][]int{{0, 0, 2, 3, 4}, {0, 1, 2, 2, 2}}, [][]int{{0, 0, 2, 2, 2}}},
	}
	for _, c := range cases {
		all, one := impl.AllCongruences(c.a)
		minimal, two := impl.MinimalCongruences(c.a)
		maximal, three := impl.MaximalCongruences(c.a)
		if !one || !two || !three || !sameLists(all, c.all) || !sameLists(minimal, c.minimal) || !sameLists(maximal, c.maximal) {
			t.Error("congruences of", c.a, all, one, minimal, two, maximal, three)
		}
	}
}

// The congruences of a cube are those of its three points.
func TestCongruencesOfTheCube(t *testing.T) {
	all, one := impl.AllCongruences(cube())
	minimal, two := impl.MinimalCongruences(cube())
	maximal, three := impl.MaximalCongruences(cube())
	if !one || !two || !three || len(all) != 8 || len(minimal) != 3 || len(maximal) != 3 {
		t.Error("numbers", len(all), len(minimal), len(maximal))
	}
	if !isIn(minimal, []int{0, 0, 2, 2, 4, 4, 6, 6}) || !isIn(maximal, []int{0, 1, 0, 1, 0, 1, 0, 1}) {
		t.Error("one point", minimal, maximal)
	}
}

func TestNumbersOfCongruences(t *testing.T) {
	cases := []struct {
		a                     impl.Algebra
		all, minimal, maximal int
	}{
		{bare(5), 52, 10, 15}, {lesser(8), 128, 7, 7}, {tower(8), 128, 7, 7},
		{unaries(8, []int{0, 1, 0, 3, 3, 1, 1, 7}, []int{0, 1, 3, 1, 1, 1, 1, 7}), 199, -1, -1}, {just200(), 200, -1, -1},
	}
	for _, c := range cases {
		all, one := impl.AllCongruences(c.a)
		minimal, two := impl.MinimalCongruences(c.a)
		maximal, three := impl.MaximalCongruences(c.a)
		if !one || !two || !three || len(all) != c.all {
			t.Error("congruences of", c.a, len(all), one, len(minimal), two, len(maximal), three)
		}
		if c.minimal >= 0 && (len(minimal) != c.minimal || len(maximal) != c.maximal) {
			t.Error("minimal and maximal ones of", c.a, len(minimal), len(maximal))
		}
		if covers, ok := impl.CoveringCongruences(c.a, firstNumbers(c.a.Size)); !ok || !sameLists(covers, minimal) {
			t.Error("covering the identity of", c.a, len(covers), ok)
		}
	}
	for _, a := range []impl.Algebra{one201(), unaries(8, []int{0, 1, 6, 6, 6, 1, 2, 0}), bare(6), constantsAlone(6, 1, 5), bare(7), bare(8), opOf(8, 3, func(x []int) int { return x[1] }), unaries(8, fullOf(8))} {
		checkTooMany(t, a, firstNumbers(a.Size))
		checkTooMany(t, a, fullOf(a.Size))
		if p, ok := impl.CongruenceOfPair(a, 5, 4); !ok || len(p) != a.Size || p[5] != p[4] {
			t.Error("congruence of 5 and 4 in", a, p, ok)
		}
		if is, ok := impl.IsCongruence(a, fullOf(a.Size)); !ok || !is {
			t.Error("full one of", a, is, ok)
		}
	}
}

func TestCoveringCongruences(t *testing.T) {
	even, odd := []int{0, 1, 0, 1, 0, 1}, []int{0, 1, 2, 0, 1, 2}
	cases := []struct {
		a    impl.Algebra
		p    []int
		want [][]int
	}{
		{bare(1), []int{0}, nil}, {bare(2), []int{0, 1}, [][]int{{0, 0}}}, {bare(2), []int{0, 0}, nil}, {sums(7), firstNumbers(7), [][]int{fullOf(7)}}, {sums(7), fullOf(7), nil},
		{sums(6), firstNumbers(6), [][]int{odd, even}}, {sums(6), even, [][]int{fullOf(6)}}, {sums(6), odd, [][]int{fullOf(6)}}, {sums(6), fullOf(6), nil},
		{bare(4), firstNumbers(4), [][]int{{0, 0, 2, 3}, {0, 1, 0, 3}, {0, 1, 1, 3}, {0, 1, 2, 0}, {0, 1, 2, 1}, {0, 1, 2, 2}}}, {bare(4), []int{0, 1, 1, 3}, [][]int{{0, 0, 0, 3}, {0, 1, 1, 0}, {0, 1, 1, 1}}}, {bare(4), []int{0, 1, 1, 0}, [][]int{fullOf(4)}}, {bare(4), fullOf(4), nil},
		{pentagon(), firstNumbers(5), [][]int{{0, 1, 1, 3, 4}}}, {pentagon(), []int{0, 1, 1, 3, 4}, [][]int{{0, 0, 0, 3, 3}, {0, 1, 1, 0, 1}}}, {pentagon(), []int{0, 0, 0, 3, 3}, [][]int{fullOf(5)}},
	}
	for _, c := range cases {
		if l, ok := impl.CoveringCongruences(c.a, c.p); !ok || !sameLists(l, c.want) {
			t.Error("covering", c.p, "in", c.a, l, ok, "not", c.want)
		}
	}
	// Partitions that are no congruences.
	for _, p := range [][]int{{0, 0, 2, 3, 4, 5}, {0, 0, 2, 2, 4, 4}, {0, 0, 0, 3, 3, 3}, {0, 1, 1, 1, 1, 1}, {0, 1, 0, 3, 0, 5}, {0, 0, 0, 0, 0, 5}} {
		if l, ok := impl.CoveringCongruences(sums(6), p); ok || len(l) != 0 {
			t.Error("covering", p, l, ok)
		}
	}
}

func TestCongruencesOfNumbersThatAreNoElements(t *testing.T) {
	for _, a := range []impl.Algebra{bare(1), bare(4), sums(4), constantsAlone(8, 0), sums(8)} {
		for _, wrong := range []int{-1, a.Size, a.Size + 1, 9, 64, 65, -64, math.MaxInt, math.MinInt} {
			for _, pair := range [][2]int{{wrong, 0}, {0, wrong}, {wrong, wrong}} {
				p, one := impl.CongruenceOfPair(a, pair[0], pair[1])
				q, two := impl.CongruenceOfPairs(a, [][2]int{{0, 0}, pair})
				r, three := impl.CongruenceOfPairs(a, append(make([][2]int, 19), pair))
				s, four := impl.TranslatedPairs(a, pair[0], pair[1])
				if one || two || three || four || len(p)+len(q)+len(r)+len(s) != 0 {
					t.Error("no elements", pair, "in", a, p, q, r, s)
				}
			}
			for i := range 4 {
				for _, other := range []int{0, wrong} {
					args := slices.Repeat([]int{other}, 4)
					args[i] = wrong
					if c, ok := impl.CongruenceChain(a, args[0], args[1], args[2], args[3]); ok || len(c) != 0 {
						t.Error("no elements", args, "in", a, c, ok)
					}
				}
			}
		}
	}
}

func TestCongruencesOfInvalidAlgebras(t *testing.T) {
	for _, a := range invalidAlgebras() {
		for _, p := range [][]int{nil, {}, {0}, {0, 1}, {0, 0}, {1, 0}, {-1}, firstNumbers(8), firstNumbers(9)} {
			if is, ok := impl.IsCongruence(a, p); is || ok {
				t.Error("congruence", p, "of", a.Size, is, ok)
			}
			checkTooMany(t, a, p)
		}
		for _, pairs := range [][][2]int{nil, {}, {{0, 0}}, {{0, 1}}, {{-1, 0}}, {{1, 1}, {0, 0}}} {
			if p, ok := impl.CongruenceOfPairs(a, pairs); ok || len(p) != 0 {
				t.Error("congruence of", pairs, "in", a.Size, p, ok)
			}
		}
		for _, x := range []int{-1, 0, 1, a.Size} {
			p, one := impl.CongruenceOfPair(a, x, 0)
			q, two := impl.TranslatedPairs(a, 0, x)
			c, three := impl.CongruenceChain(a, 0, 0, x, x)
			d, four := impl.CongruenceChain(a, 0, x, 0, 1)
			if one || two || three || four || len(p)+len(q)+len(c)+len(d) != 0 {
				t.Error("element", x, "of", a.Size, p, q, c, d)
			}
		}
	}
}

// congruenceResults calls each function of the chapter. It returns the lists of each result, and a
// text of everything.
func congruenceResults(a impl.Algebra, p, q []int, blocks [][]int, pairs [][2]int) ([][][]int, string) {
	var results [][][]int
	var others []any
	keep := func(l [][]int, ok bool) {
		results = append(results, l)
		others = append(others, ok)
	}
	keepOne := func(l []int, ok bool) { keep([][]int{l}, ok) }
	tell := func(is, ok bool) { others = append(others, is, ok) }
	n := len(p)
	tell(impl.IsPartition(n, p))
	tell(impl.IsFiner(n, p, q))
	tell(impl.IsCongruence(a, p))
	keep(impl.BlocksOf(n, p))
	keep(impl.AllCongruences(a))
	keep(impl.MinimalCongruences(a))
	keep(impl.MaximalCongruences(a))
	keep(impl.CoveringCongruences(a, p))
	keepOne(impl.FromBlocks(n, blocks))
	keepOne(impl.MeetPartitions(n, p, q))
	keepOne(impl.JoinPartitions(n, p, q))
	keepOne(impl.CongruenceOfPair(a, 1, 2))
	keepOne(impl.CongruenceOfPairs(a, pairs))
	keepOne(impl.CongruenceChain(a, 0, 1, 3, 2))
	keepOne(impl.CongruenceChain(a, 0, 1, 2, 2))
	links, ok := impl.TranslatedPairs(a, 3, 1)
	others = append(others, links, ok)
	text := fmt.Sprint(results, others)
	for i := range links[:cap(links)] {
		links[:cap(links)][i] = [2]int{-9, -9}
	}
	return results, text
}

// allOfBlocks tells all numbers of blocks and of pairs, also those behind the ends.
func allOfBlocks(blocks [][]int, pairs [][2]int) string {
	text := fmt.Sprint(len(blocks), len(pairs), pairs[:cap(pairs)])
	for _, b := range blocks[:cap(blocks)] {
		text += fmt.Sprint(len(b), b[:cap(b)])
	}
	return text
}

func TestCongruenceFunctionsLeaveTheirArguments(t *testing.T) {
	partitions := [][]int{nil, firstNumbers(4), fullOf(4), {0, 1, 0, 1}, {0, 0, 2, 2}, {1, 1, 0, 0}, {0}, firstNumbers(8), make([]int, 21)}
	for _, a := range []impl.Algebra{bare(4), sums(4), lesser(4), cosets(4), constantsAlone(4, 1, 3), tower(4), unevenOf(4, 3, 3, 3, 3), mixed(4, 1, 1, 0, 2, 3), bare(8), sums(8), {Size: 9}, {}} {
		a = roomyAlgebra(a)
		for i, p := range partitions {
			for _, q := range [][]int{firstNumbers(len(p)), {0, 1, 0, 1}, p} {
				p, q := roomy(p), roomy(q)
				blocks := append([][]int{roomy([]int{3, 1}), roomy([]int{2, 0})}, []int{77}, nil)[:2-i%2]
				pairs := append(slices.Repeat([][2]int{{2, 0}}, i*3), [][2]int{{1, 3}, {77, 78}}...)[:i*3+1-i%2]
				before := allOfAlgebra(a, p, q) + allOfBlocks(blocks, pairs)
				results, first := congruenceResults(a, p, q, blocks, pairs)
				if _, second := congruenceResults(a, p, q, blocks, pairs); first != second {
					t.Fatal("another result", first, second)
				}
				for i, l := range results {
					if !areApart(l) {
						t.Fatal("the result", i, "shares memory with itself", a, p, q)
					}
				}
				for i := range results {
					for j := range results[i][:cap(results[i])] {
						results[i][:cap(results[i])][j] = []int{-9}
					}
				}
				if after := allOfAlgebra(a, p, q) + allOfBlocks(blocks, pairs); after != before {
					t.Fatal("changed", before, after)
				}
				if _, third := congruenceResults(a, p, q, blocks, pairs); third != first {
					t.Fatal("a result shares memory", a, p, q)
				}
			}
		}
	}
}

// The same list as both arguments gives a result of its own.
func TestMeetAndJoinOfTheSamePartition(t *testing.T) {
	p := []int{0, 1, 0, 1}
	for _, f := range []func(int, []int, []int) ([]int, bool){impl.MeetPartitions, impl.JoinPartitions} {
		r, ok := f(4, p, p)
		if !ok || !slices.Equal(r, p) {
			t.Fatal("same partition", r, ok)
		}
		r[0] = 9
	}
	if p[0] != 0 {
		t.Error("shared", p)
	}
}

// The greatest Algebras are done in good time.
func TestLargeCongruences(t *testing.T) {
	halves := algebraOf(8, []int{3, 3, 3, 3}, func(op, at int) int { return (at%8 + op) / 2 % 8 })
	for _, a := range []impl.Algebra{unevenOf(8, 3, 3, 3, 3), mixed(8, 5, 3, 3, 3, 3), algebraOf(8, []int{3, 3, 3, 3}, func(op, at int) int { return max(at%8-1, 0) }), halves, cube()} {
		all, one := impl.AllCongruences(a)
		minimal, two := impl.MinimalCongruences(a)
		maximal, three := impl.MaximalCongruences(a)
		if !one || !two || !three || len(all) < 2 || len(minimal) == 0 || len(maximal) == 0 {
			t.Error("large one", len(all), len(minimal), len(maximal))
		}
	}
	last := algebraOf(8, []int{3, 3, 3, 3}, func(_, at int) int { return at % 8 })
	checkTooMany(t, last, firstNumbers(8))
	if pairs, ok := impl.TranslatedPairs(unevenOf(8, 3, 3, 3, 3), 0, 7); !ok || len(pairs) == 0 {
		t.Error("pairs of a large one", pairs, ok)
	}
}
