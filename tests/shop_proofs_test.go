package tests

import (
	"math"
	"slices"
	"testing"

	"loop.example/g01103/impl"
)

// checkIsProof compares whether a list of pairs is a proof for a value with the document, and returns it.
func checkIsProof(t *testing.T, s impl.JobShop, value int, list [][2]int) bool {
	t.Helper()
	want := isProofByHand(s, value, list)
	if is, ok := impl.IsShopProof(s, value, list); !ok || is != want {
		t.Errorf("IsShopProof(%v, %d, %.300v) = %v, %v, not %v", s, value, list, is, ok, want)
	}
	return want
}

// bestLength is the length of the best selection.
func bestLength(t *testing.T, s impl.JobShop) int {
	t.Helper()
	best, ok := impl.BestSelection(s)
	length, fine := impl.ShopLength(s, best)
	if !ok || !fine {
		t.Fatalf("BestSelection(%v) = %v, %v, with the length %d, %v", s, best, ok, length, fine)
	}
	return length
}

// TestPromise9EachProofOfSmallJobShops takes all lists of a few pairs, among which just those may be proofs that the document tells how to make.
func TestPromise9EachProofOfSmallJobShops(t *testing.T) {
	for _, c := range []struct {
		s     impl.JobShop
		pairs [][2]int
		most  int
	}{
		{impl.JobShop{Machines: 1}, [][2]int{branchEnd, {0, 1}, {-1, 0}, {0, 0}}, 4},
		{jobShop(2, []impl.Op{op(1, 4)}), [][2]int{branchEnd, {0, 1}, {0, 0}, {0, -1}}, 4},
		{lineShop(1, 2, 3), append(allPairsFrom(-1, 2), branchEnd), 3},
		{lineShop(1, 2, 3), [][2]int{branchEnd, {0, 1}, {1, 0}, {-1, 0}}, 6},
		{lineShop(1, 2, 3), [][2]int{branchEnd, {0, 1}}, 10},
		{lineShop(1, 3, 2), [][2]int{branchEnd, {0, 1}, {0, 2}, {1, 2}}, 7},
		{jobShop(1, []impl.Op{op(0, 2)}, []impl.Op{op(0, 5)}, []impl.Op{op(0, 1)}), [][2]int{branchEnd, {0, 1}, {0, 2}, {1, 2}, {2, 1}}, 5},
		{meetingShop(2, 2, 3), [][2]int{branchEnd, {0, 3}, {1, 2}, {2, 1}, {0, 1}}, 5},
		{meetingShop(2, 2, 3), [][2]int{branchEnd, {0, 3}, {1, 2}}, 8},
		{jobShop(2, []impl.Op{op(0, 3), op(1, 2)}, []impl.Op{op(1, 2), op(0, 4)}), [][2]int{branchEnd, {0, 3}, {1, 2}}, 8},
		{jobShop(2, []impl.Op{op(0, 1), op(1, 2)}, []impl.Op{op(0, 4), op(1, 1)}), [][2]int{branchEnd, {0, 2}, {1, 3}, {3, 1}}, 6},
	} {
		length := bestLength(t, c.s)
		first, _ := lengthOfArcs(c.s, nil)
		for _, value := range []int{-1, 0, first, first + 1, length, length + 1} {
			accepted := 0
			for size := range c.most + 1 {
				everyNumbers(size, upTo(len(c.pairs)), func(list []int) {
					pairs := [][2]int{}
					for _, k := range list {
						pairs = append(pairs, c.pairs[k])
					}
					if checkIsProof(t, c.s, value, pairs) {
						accepted++
					}
				})
			}
			// A pair that ends a branch stands twice in the list of all pairs from -1 on.
			proofs := proofsByHand(c.s, value, nil, c.most)
			if want := len(proofs); accepted != want && len(c.pairs) < 17 {
				t.Errorf("%d lists are proofs for %d of %v, not %d", accepted, value, c.s, want)
			}
			if value > length && accepted > 0 {
				t.Errorf("%d lists are proofs for %d of %v, but a selection has %d", accepted, value, c.s, length)
			}
			for _, proof := range proofs {
				if is, ok := impl.IsShopProof(c.s, value, proof); !ok || !is {
					t.Errorf("IsShopProof(%v, %d, %v) = %v, %v", c.s, value, proof, is, ok)
				}
			}
		}
	}
}

// allPairsFrom are all pairs of the numbers from one to another one.
func allPairsFrom(from, to int) [][2]int {
	pairs := [][2]int{}
	for a := from; a <= to; a++ {
		for b := from; b <= to; b++ {
			pairs = append(pairs, [2]int{a, b})
		}
	}
	return pairs
}

// checkFoundProof compares the proof that is found with the document, and returns it; it is accepted for the length of the best selection, and not for a greater value.
func checkFoundProof(t *testing.T, s impl.JobShop) [][2]int {
	t.Helper()
	length := bestLength(t, s)
	want := foundByHand(s, length, nil)
	proof, ok := impl.FindShopProof(s)
	if len(want) > 800 {
		if ok || len(proof) > 0 {
			t.Errorf("FindShopProof(%v) has %d pairs, %v, but needs more than MaxProof", s, len(proof), ok)
		}
		return nil
	}
	if !ok || !slices.Equal(proof, want) {
		t.Errorf("FindShopProof(%v) = %.300v, %v, not %.300v", s, proof, ok, want)
	}
	for value, accepted := range map[int]bool{length: true, length - 1: true, length / 2: true, 0: true, -length - 1: true, math.MinInt: true, length + 1: false, length + 20: false, math.MaxInt: false} {
		if is, ok := impl.IsShopProof(s, value, proof); !ok || is != accepted {
			t.Errorf("IsShopProof(%v, %d, %.300v) = %v, %v, and the length is %d", s, value, proof, is, ok, length)
		}
	}
	return proof
}

func TestPromise9FoundProofs(t *testing.T) {
	single, long, none := 0, 0, 0
	check := func(s impl.JobShop) {
		switch size := len(checkFoundProof(t, s)); {
		case size == 0:
			none++
		case size == 1:
			single++
		case size > 10:
			long++
		}
	}
	for _, s := range allJobShops() {
		check(s)
	}
	everyJobShop(1, 4, []int{1, 2}, check)
	everyJobShop(2, 2, []int{1, 2, 5}, check)
	everyJobShop(2, 3, []int{1, 3}, check)
	everyJobShop(3, 2, []int{1, 4}, check)
	everyJobShop(2, 4, []int{2}, check)
	for number := range 120 {
		check(madeJobShop(number+13000, 3+number%2, 4, 3, []int{20, 6}[number%2]))
	}
	if single < 300 || long < 300 || none < 3 {
		t.Errorf("%d proofs end at once, %d are long, %d are too long", single, long, none)
	}
}

// TestPromise9NoProofForMore takes the proofs that ask for all pairs, which prove all that can be proved.
func TestPromise9NoProofForMore(t *testing.T) {
	check := func(s impl.JobShop) {
		length := bestLength(t, s)
		full := fullProof(shopPairs(s))
		if len(full) > impl.MaxProof {
			return
		}
		for _, value := range []int{length - 1, length, length + 1, length + 2} {
			if is := checkIsProof(t, s, value, full); is != (value <= length) {
				t.Errorf("the proof with all pairs of %v for %d is accepted: %v, and the length is %d", s, value, is, length)
			}
		}
	}
	for _, s := range knownJobShops() {
		check(s)
	}
	everyJobShop(1, 4, []int{1, 2}, check)
	everyJobShop(2, 2, []int{1, 2, 5}, check)
	everyJobShop(2, 3, []int{2}, check)
	everyJobShop(3, 2, []int{1, 4}, check)
}

// TestPromise9ChangedProofs changes, leaves out, turns and puts in one pair, and cuts proofs short.
func TestPromise9ChangedProofs(t *testing.T) {
	accepted, count := 0, 0
	for number, s := range allJobShops() {
		length := bestLength(t, s)
		proof := foundByHand(s, length, nil)
		if len(proof) > 120 {
			continue
		}
		next := drawer(number + 400)
		pairs := append(shopPairs(s), branchEnd, [2]int{0, 0}, [2]int{-1, 0}, [2]int{0, -1}, [2]int{0, len(opsByHand(s))}, [2]int{math.MinInt, math.MaxInt}, [2]int{0, 1}, [2]int{1, 2})
		check := func(list [][2]int) {
			if checkIsProof(t, s, length, list) {
				accepted++
			}
			count++
			checkIsProof(t, s, length+1, list)
		}
		for range 25 {
			k := next(len(proof))
			pair := pairs[next(len(pairs))]
			check(proof[:k])
			check(proof[k+1:])
			check(slices.Concat(proof[:k], proof[k+1:]))
			check(slices.Concat(proof[:k], [][2]int{turned(proof[k])}, proof[k+1:]))
			check(slices.Concat(proof[:k], [][2]int{pair}, proof[k+1:]))
			check(slices.Concat(proof[:k], [][2]int{turned(pair)}, proof[k+1:]))
			check(slices.Concat(proof[:k], [][2]int{pair}, proof[k:]))
			// A branch that goes on where it may end is a proof, too.
			check(slices.Concat(proof[:k], [][2]int{pair, branchEnd}, proof[k:]))
			check(slices.Concat(proof, [][2]int{branchEnd}))
			check(slices.Concat(proof, [][2]int{pair}))
			check(slices.Concat(proof, proof))
		}
	}
	if accepted < 1000 || count-accepted < 10000 {
		t.Errorf("%d of %d changed proofs are accepted", accepted, count)
	}
}

func TestPromise9KnownProofs(t *testing.T) {
	two := jobShop(2, []impl.Op{op(0, 3), op(1, 2)}, []impl.Op{op(1, 2), op(0, 4)})
	for _, c := range []struct {
		s    impl.JobShop
		want [][2]int
	}{
		{impl.JobShop{Machines: 1}, [][2]int{branchEnd}}, {jobShop(4, nil, nil), [][2]int{branchEnd}}, {jobShop(2, []impl.Op{op(1, 20)}), [][2]int{branchEnd}},
		// the Route alone has the length
		{jobShop(2, []impl.Op{op(0, 1), op(1, 20)}, []impl.Op{op(0, 1)}), [][2]int{branchEnd}},
		{two, [][2]int{{0, 3}, branchEnd, branchEnd}}, {lineShop(1, 2, 1), [][2]int{{0, 1}, branchEnd, branchEnd}},
		// three Ops: as soon as they are in a row, a branch ends
		{lineShop(1, 3, 1), [][2]int{{0, 1}, {0, 2}, {1, 2}, branchEnd, branchEnd, branchEnd, {0, 2}, branchEnd, {1, 2}, branchEnd, branchEnd}},
		// the Routes alone have the length, though they meet
		{meetingShop(2, 2, 3), [][2]int{branchEnd}},
		// the pairs come by their numbers, not by their Machines
		{jobShop(2, []impl.Op{op(1, 1), op(0, 1)}, []impl.Op{op(1, 1), op(0, 1)}), [][2]int{{0, 2}, branchEnd, branchEnd}},
	} {
		proof, ok := impl.FindShopProof(c.s)
		if !ok || !slices.Equal(proof, c.want) {
			t.Errorf("FindShopProof(%v) = %v, %v, not %v", c.s, proof, ok, c.want)
		}
	}
	for _, c := range []struct {
		value int
		proof [][2]int
		want  bool
	}{
		{6, [][2]int{branchEnd}, true}, {7, [][2]int{branchEnd}, false}, {0, [][2]int{branchEnd}, true}, {-1, [][2]int{branchEnd}, true}, {math.MinInt, [][2]int{branchEnd}, true},
		{7, [][2]int{{0, 3}, branchEnd, branchEnd}, true}, {8, [][2]int{{0, 3}, branchEnd, branchEnd}, false}, {7, [][2]int{{1, 2}, branchEnd, branchEnd}, false}, {7, [][2]int{{1, 2}, branchEnd, {0, 3}, branchEnd, branchEnd}, true},
		// the empty list, one that is cut short, and pairs behind the end
		{math.MinInt, nil, false}, {0, [][2]int{}, false}, {0, [][2]int{{0, 3}}, false}, {0, [][2]int{{0, 3}, branchEnd}, false}, {0, [][2]int{branchEnd, branchEnd}, false}, {0, [][2]int{{0, 3}, branchEnd, branchEnd, branchEnd}, false}, {0, [][2]int{branchEnd, {0, 3}}, false},
		// pairs in the wrong order, of one Op, of two Machines, of numbers that are no Ops
		{0, [][2]int{{3, 0}, branchEnd, branchEnd}, false}, {0, [][2]int{{0, 0}, branchEnd, branchEnd}, false}, {0, [][2]int{{0, 1}, branchEnd, branchEnd}, false}, {0, [][2]int{{0, 4}, branchEnd, branchEnd}, false}, {0, [][2]int{{-1, 0}, branchEnd, branchEnd}, false}, {0, [][2]int{{-1, 3}, branchEnd, branchEnd}, false}, {0, [][2]int{{0, -1}}, false}, {0, [][2]int{{-2, -2}}, false},
		// a pair that is asked for again: one branch leads back
		{7, [][2]int{{0, 3}, {0, 3}, branchEnd, branchEnd, branchEnd}, true}, {8, [][2]int{{0, 3}, {0, 3}, branchEnd, branchEnd, branchEnd}, false},
	} {
		if is, ok := impl.IsShopProof(two, c.value, c.proof); !ok || is != c.want {
			t.Errorf("IsShopProof for %d of %v = %v, %v, not %v", c.value, c.proof, is, ok, c.want)
		}
	}
}

// TestPromise9LongestProofs takes proofs with MaxProof pairs, one less, and one more; each proof has an odd number of pairs.
func TestPromise9LongestProofs(t *testing.T) {
	s := lineShop(1, 2, 3)
	for _, times := range []int{1, 2, 100, 398, 399} {
		proof := paddedProof([2]int{0, 1}, times, [][2]int{branchEnd})
		for _, value := range []int{6, 7} {
			if is, ok := impl.IsShopProof(s, value, proof); !ok || is != (value == 6) {
				t.Errorf("%d pairs for %d: %v, %v", len(proof), value, is, ok)
			}
		}
	}
	longest := paddedProof([2]int{0, 1}, 399, [][2]int{branchEnd})
	for _, list := range [][][2]int{append(slices.Clone(longest), branchEnd), slices.Repeat([][2]int{{0, 1}}, 800), make([][2]int, 800)} {
		if is, ok := impl.IsShopProof(s, 6, list); len(list) != impl.MaxProof || !ok || is {
			t.Errorf("%d pairs: %v, %v", len(list), is, ok)
		}
	}
	for _, list := range [][][2]int{paddedProof([2]int{0, 1}, 400, [][2]int{branchEnd}), append(slices.Clone(longest), branchEnd, branchEnd), make([][2]int, 801), make([][2]int, 100000), slices.Repeat([][2]int{{0, 1}}, 100000)} {
		if is, ok := impl.IsShopProof(s, 6, list); len(list) <= impl.MaxProof || ok || is {
			t.Errorf("%d pairs: %v, %v", len(list), is, ok)
		}
	}
}

// TestPromise9ProofsOfTheGreatestSize takes JobShops whose proofs have 799 pairs, and 801, which are too many.
func TestPromise9ProofsOfTheGreatestSize(t *testing.T) {
	for _, c := range []struct {
		size int
		s    impl.JobShop
	}{
		{799, jobShop(3, []impl.Op{op(1, 2), op(0, 15), op(2, 18)}, []impl.Op{op(2, 14), op(1, 5), op(0, 12)}, []impl.Op{op(1, 2), op(2, 17), op(0, 14)}, []impl.Op{op(2, 13), op(1, 12), op(0, 20)})},
		{799, jobShop(4, []impl.Op{op(0, 10), op(3, 2), op(1, 4)}, []impl.Op{op(2, 9), op(3, 7), op(1, 7)}, []impl.Op{op(2, 13), op(3, 18), op(1, 9)}, []impl.Op{op(3, 12), op(2, 20), op(1, 12)})},
		{801, jobShop(3, []impl.Op{op(2, 20), op(0, 4), op(1, 10)}, []impl.Op{op(1, 7), op(2, 17), op(0, 4)}, []impl.Op{op(2, 11), op(0, 5), op(1, 8)}, []impl.Op{op(2, 12), op(0, 2), op(1, 10)})},
		{801, jobShop(3, []impl.Op{op(2, 1), op(1, 11), op(0, 12)}, []impl.Op{op(1, 1), op(0, 16), op(2, 12)}, []impl.Op{op(1, 2), op(0, 10), op(2, 8)}, []impl.Op{op(0, 18), op(1, 7), op(2, 5)})},
	} {
		proof := checkFoundProof(t, c.s)
		if c.size <= impl.MaxProof && len(proof) != c.size || c.size > impl.MaxProof && len(proof) > 0 {
			t.Errorf("the proof of %v has %d pairs, not %d", c.s, len(proof), c.size)
		}
	}
}
