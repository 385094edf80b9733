package tests

import (
	"math"
	"slices"
	"testing"

	"loop.example/g01103/impl"
)

// checkPrecedence compares what the functions tell of a precedence of n jobs with what the document's definitions tell.
func checkPrecedence(t *testing.T, n int, edges [][2]int, orders [][]int) {
	t.Helper()
	before := beforeByHand(n, edges)
	if !impl.IsPrecedence(n, edges) {
		t.Errorf("IsPrecedence(%d, %v) is false", n, edges)
	}
	closure, reduction := [][2]int{}, [][2]int{}
	for _, pair := range allPairs(n) {
		if !before[pair[0]][pair[1]] {
			continue
		}
		closure = append(closure, pair)
		if !slices.ContainsFunc(upTo(n), func(k int) bool { return before[pair[0]][k] && before[k][pair[1]] }) {
			reduction = append(reduction, pair)
		}
	}
	if got, ok := impl.PrecedenceClosure(n, edges); !ok || !slices.Equal(got, closure) {
		t.Errorf("PrecedenceClosure(%d, %v) = %v, %v, not %v", n, edges, got, ok, closure)
	}
	if got, ok := impl.PrecedenceReduction(n, edges); !ok || !slices.Equal(got, reduction) {
		t.Errorf("PrecedenceReduction(%d, %v) = %v, %v, not %v", n, edges, got, ok, reduction)
	}
	count := len(extensionsByHand(before, orders))
	if got, ok := impl.CountExtensions(n, edges); !ok || got != count {
		t.Errorf("CountExtensions(%d, %v) = %d, %v, not %d", n, edges, got, ok, count)
	}
	checkInitialSets(t, n, edges, before)
}

// checkInitialSets compares the initial sets with all sets, in the order of their numbers of jobs and then of the lists.
func checkInitialSets(t *testing.T, n int, edges [][2]int, before [][]bool) {
	t.Helper()
	want := [][]int{}
	for size := range n + 1 {
		first := len(want)
		for mask := range 1 << n {
			if set := setOf(mask); len(set) == size && isInitialByHand(before, upTo(n), set) {
				want = append(want, set)
			}
		}
		slices.SortFunc(want[first:], slices.Compare)
	}
	if got, ok := impl.InitialSets(n, edges); !ok || !slices.EqualFunc(got, want, slices.Equal) {
		t.Errorf("InitialSets(%d, %v) = %v, %v, not %v", n, edges, got, ok, want)
	}
}

func TestPromise4EachListOfPairsOfFewJobs(t *testing.T) {
	for n := range 5 {
		orders := allOrders(n)
		for mask := range 1 << len(allPairs(n)) {
			edges := pairsOf(n, mask)
			if !isCyclic(beforeByHand(n, edges)) {
				checkPrecedence(t, n, edges, orders)
			} else if impl.IsPrecedence(n, edges) {
				t.Errorf("IsPrecedence(%d, %v) is true", n, edges)
			}
		}
	}
}

func TestPromise4PrecedencesOfMoreJobs(t *testing.T) {
	for n := 5; n <= impl.MaxJobs; n++ {
		orders := allOrders(n)
		for _, edges := range knownEdges(n) {
			checkPrecedence(t, n, edges, orders)
		}
	}
}

func TestPromise4MaxEdges(t *testing.T) {
	most := totalOf(upTo(8))
	if impl.MaxEdges != 28 || len(most) != impl.MaxEdges || !impl.IsPrecedence(8, most) {
		t.Errorf("%d pairs of %d are no precedence", len(most), impl.MaxEdges)
	}
	// 29 pairs of 8 jobs are a cycle at least, and 1000 pairs cannot be strictly ascending.
	for _, more := range [][2]int{{7, 0}, {7, 6}, {7, 8}} {
		if edges := append(slices.Clone(most), more); impl.IsPrecedence(8, edges) {
			t.Errorf("%v is a precedence", edges)
		}
	}
}

func TestPromise4KnownPrecedences(t *testing.T) {
	for _, c := range []struct {
		n                         int
		edges, closure, reduction [][2]int
		count, sets               int
	}{
		{0, nil, nil, nil, 1, 1},
		{1, nil, nil, nil, 1, 2},
		{2, nil, nil, nil, 2, 4},
		{2, [][2]int{{1, 0}}, [][2]int{{1, 0}}, [][2]int{{1, 0}}, 1, 3},
		{3, [][2]int{{0, 1}, {0, 2}, {1, 2}}, [][2]int{{0, 1}, {0, 2}, {1, 2}}, [][2]int{{0, 1}, {1, 2}}, 1, 4},
		{3, [][2]int{{0, 1}, {1, 2}}, [][2]int{{0, 1}, {0, 2}, {1, 2}}, [][2]int{{0, 1}, {1, 2}}, 1, 4},
		{3, [][2]int{{1, 0}, {2, 1}}, [][2]int{{1, 0}, {2, 0}, {2, 1}}, [][2]int{{1, 0}, {2, 1}}, 1, 4},
		{4, [][2]int{{0, 2}, {1, 2}, {1, 3}}, [][2]int{{0, 2}, {1, 2}, {1, 3}}, [][2]int{{0, 2}, {1, 2}, {1, 3}}, 5, 8},
		{8, nil, nil, nil, 40320, 256},
		{8, totalOf(upTo(8)), totalOf(upTo(8)), chainOf(upTo(8)), 1, 9},
		{8, chainOf(upTo(8)), totalOf(upTo(8)), chainOf(upTo(8)), 1, 9},
		{8, [][2]int{{7, 0}}, [][2]int{{7, 0}}, [][2]int{{7, 0}}, 20160, 192},
	} {
		closure, one := impl.PrecedenceClosure(c.n, c.edges)
		reduction, two := impl.PrecedenceReduction(c.n, c.edges)
		if !one || !two || !slices.Equal(closure, c.closure) || !slices.Equal(reduction, c.reduction) {
			t.Errorf("%d jobs and %v: closure %v, reduction %v", c.n, c.edges, closure, reduction)
		}
		count, one := impl.CountExtensions(c.n, c.edges)
		sets, two := impl.InitialSets(c.n, c.edges)
		if !one || !two || count != c.count || len(sets) != c.sets {
			t.Errorf("%d jobs and %v: %d linear extensions, %d initial sets", c.n, c.edges, count, len(sets))
		}
	}
	sets, ok := impl.InitialSets(4, [][2]int{{0, 2}, {1, 2}, {1, 3}})
	want := [][]int{{}, {0}, {1}, {0, 1}, {1, 3}, {0, 1, 2}, {0, 1, 3}, {0, 1, 2, 3}}
	if !ok || !slices.EqualFunc(sets, want, slices.Equal) {
		t.Errorf("the initial sets are %v", sets)
	}
}

// TestPromise4PairsThatOthersTell checks that closure and reduction tell of the same precedence.
func TestPromise4PairsThatOthersTell(t *testing.T) {
	for n := range impl.MaxJobs + 1 {
		for _, edges := range knownEdges(n) {
			closure, one := impl.PrecedenceClosure(n, edges)
			reduction, two := impl.PrecedenceReduction(n, edges)
			if !one || !two || !impl.IsPrecedence(n, closure) || !impl.IsPrecedence(n, reduction) {
				t.Errorf("%d jobs and %v: no precedences %v, %v", n, edges, closure, reduction)
			}
			for _, same := range [][][2]int{closure, reduction} {
				again, one := impl.PrecedenceClosure(n, same)
				less, two := impl.PrecedenceReduction(n, same)
				if !one || !two || !slices.Equal(again, closure) || !slices.Equal(less, reduction) {
					t.Errorf("%d jobs and %v: closure %v, reduction %v of %v", n, edges, again, less, same)
				}
			}
		}
	}
}

func TestPromise4IsExtension(t *testing.T) {
	for n := range 6 {
		for _, edges := range knownEdges(n) {
			before := beforeByHand(n, edges)
			for _, order := range allOrders(n) {
				want := isExtensionByHand(before, order)
				if got, ok := impl.IsExtension(n, edges, order); !ok || got != want {
					t.Errorf("IsExtension(%d, %v, %v) = %v, %v", n, edges, order, got, ok)
				}
			}
		}
	}
	orders := allOrders(8)
	for _, edges := range knownEdges(8) {
		before := beforeByHand(8, edges)
		for i, order := range orders {
			if i%97 != 0 {
				continue
			}
			if got, ok := impl.IsExtension(8, edges, order); !ok || got != isExtensionByHand(before, order) {
				t.Errorf("IsExtension(8, %v, %v) = %v, %v", edges, order, got, ok)
			}
		}
	}
}

func TestPromise4IsExtensionOfNoOrders(t *testing.T) {
	for n := range impl.MaxJobs + 1 {
		for _, edges := range [][][2]int{nil, chainOf(upTo(n))} {
			for _, order := range noOrders(n) {
				if is, ok := impl.IsExtension(n, edges, order); is || ok {
					t.Errorf("IsExtension(%d, %v, %.200v) = %v, %v", n, edges, order, is, ok)
				}
			}
		}
	}
}

// checkNoPrecedence checks that all functions of n jobs fail for a list.
func checkNoPrecedence(t *testing.T, n int, edges [][2]int, order []int) {
	t.Helper()
	if impl.IsPrecedence(n, edges) {
		t.Errorf("IsPrecedence(%d, %.200v) is true", n, edges)
	}
	if got, ok := impl.PrecedenceClosure(n, edges); ok || len(got) > 0 {
		t.Errorf("PrecedenceClosure(%d, %.200v) = %v, %v", n, edges, got, ok)
	}
	if got, ok := impl.PrecedenceReduction(n, edges); ok || len(got) > 0 {
		t.Errorf("PrecedenceReduction(%d, %.200v) = %v, %v", n, edges, got, ok)
	}
	if got, ok := impl.IsExtension(n, edges, order); ok || got {
		t.Errorf("IsExtension(%d, %.200v, %v) = %v, %v", n, edges, order, got, ok)
	}
	if got, ok := impl.CountExtensions(n, edges); ok || got != 0 {
		t.Errorf("CountExtensions(%d, %.200v) = %v, %v", n, edges, got, ok)
	}
	if got, ok := impl.InitialSets(n, edges); ok || len(got) > 0 {
		t.Errorf("InitialSets(%d, %.200v) = %v, %v", n, edges, got, ok)
	}
	if got, ok := impl.IsSeriesParallel(n, edges); ok || got {
		t.Errorf("IsSeriesParallel(%d, %.200v) = %v, %v", n, edges, got, ok)
	}
}

func TestPromise4NoPrecedences(t *testing.T) {
	for n := range impl.MaxJobs + 1 {
		for _, edges := range noEdges(n) {
			checkNoPrecedence(t, n, edges, upTo(n))
		}
	}
}

func TestPromise4NoNumbersOfJobs(t *testing.T) {
	for _, n := range []int{-1, -8, 9, 10, 64, 1 << 32, math.MinInt, math.MaxInt} {
		for _, edges := range [][][2]int{nil, {}, {{0, 1}}, totalOf(upTo(8)), {{0, 8}}} {
			checkNoPrecedence(t, n, edges, nil)
			checkNoPrecedence(t, n, edges, upTo(9))
		}
	}
}
