package tests

import (
	"fmt"
	"math"
	"slices"
	"strings"
	"testing"

	"loop.example/g01139/impl"
)

var (
	noKinds = []int64{math.MinInt64, -1, impl.ShufFirst + 1, powerOf(32), math.MaxInt64}
	// noStepCounts are numbers of steps that are not allowed.
	noStepCounts = []int64{math.MinInt64, -1, impl.MaxSteps + 1, 7, powerOf(32), math.MaxInt64}
)

// allLists are all lists of so many numbers from 0 to less than below, in lexicographic order.
func allLists(length int, below int64) [][]int64 {
	if length == 0 {
		return [][]int64{nil}
	}
	var list [][]int64
	for _, start := range allLists(length-1, below) {
		for n := range below {
			list = append(list, append(slices.Clone(start), n))
		}
	}
	return list
}

// mixed is a list of all lanes in an order without any pattern.
func mixed(roll *dice, lanes int) []int64 {
	list := identity(lanes)
	for i := range list {
		k := roll.below(int64(i) + 1)
		list[i], list[k] = list[k], list[i]
	}
	return list
}

func reversed(lanes int) []int64 {
	return lanesBy(lanes, func(i int) int64 { return int64(lanes - 1 - i) })
}

func turned(lanes, by int) []int64 {
	return lanesBy(lanes, func(i int) int64 { return int64((i + by) % lanes) })
}

// fullShuffles are shuffles in which no lane is missing: all of up to 4 lanes, and some of more lanes.
func fullShuffles(lanes int) [][]int64 {
	var list [][]int64
	if lanes <= 4 {
		permutations(lanes, func(order []int64) { list = append(list, order) })
		return list
	}
	roll := dice(lanes)
	list = append(list, identity(lanes), reversed(lanes), turned(lanes, 1), turned(lanes, lanes-1), turned(lanes, lanes/2))
	for range 60 {
		list = append(list, mixed(&roll, lanes))
	}
	return list
}

// someShuffles are all shuffles of up to 4 lanes, and some of more lanes: many lack a lane, some of them just one.
func someShuffles(lanes int) [][]int64 {
	if lanes <= 4 {
		return allLists(lanes, int64(lanes))
	}
	list := fullShuffles(lanes)
	roll := dice(2 * lanes)
	for i := range 60 {
		lacking := mixed(&roll, lanes)
		lacking[i%lanes] = lacking[(i+1)%lanes]
		list = append(list, lacking, lanesBy(lanes, func(int) int64 { return roll.below(int64(lanes)) }))
	}
	return append(list, make([]int64, lanes), lanesBy(lanes, func(int) int64 { return int64(lanes - 1) }))
}

func lacksLane(shuffle []int64) bool {
	return slices.ContainsFunc(identity(len(shuffle)), func(lane int64) bool { return !slices.Contains(shuffle, lane) })
}

// noIndices are lists of so many numbers, each with one that is not from 0 to less than below.
func noIndices(length int, below int64) [][]int64 {
	var list [][]int64
	for _, wrong := range []int64{math.MinInt64, -below, -1, below, below + 1, 99, powerOf(32), math.MaxInt64} {
		for _, place := range []int{0, length / 2, length - 1} {
			indices := lanesBy(length, func(i int) int64 { return int64(i) % below })
			indices[place] = wrong
			list = append(list, indices)
		}
	}
	return list
}

// noShuffles are lists that are no shuffles, those of the given number of lanes among them.
func noShuffles(lanes int) [][]int64 {
	list := append([][]int64{nil, {}}, noIndices(lanes, int64(lanes))...)
	for _, n := range noLanes {
		list = append(list, make([]int64, n), identity(n))
	}
	return list
}

func TestIsShuffle(t *testing.T) {
	for _, lanes := range allLanes {
		for _, shuffle := range someShuffles(lanes) {
			if !impl.IsShuffle(shuffle) {
				t.Errorf("IsShuffle(%v) is false", shuffle)
			}
		}
		for _, list := range noShuffles(lanes) {
			if impl.IsShuffle(list) {
				t.Errorf("IsShuffle(%v) is true", list)
			}
		}
	}
}

// shuffled is the list whose element i is the element shuffle[i] of another one.
func shuffled(list, shuffle []int64) []int64 {
	return lanesBy(len(shuffle), func(i int) int64 { return list[shuffle[i]] })
}

func TestShuffleLanes(t *testing.T) {
	for _, bits := range allBits {
		for _, lanes := range allLanes {
			vectors := vectorsOf(bits, lanes)
			for k, shuffle := range someShuffles(lanes) {
				for _, a := range [][]int64{vectors[2], vectors[k%len(vectors)]} {
					got, ok := impl.ShuffleLanes(bits, shuffle, a)
					wantList(t, fmt.Sprintf("ShuffleLanes(%d, %v, %v)", bits, shuffle, a), got, ok, shuffled(a, shuffle))
				}
			}
		}
	}
	cases := []struct {
		bits             int64
		shuffle, a, want []int64
	}{
		{8, []int64{0, 2, 1, 3}, []int64{10, 11, 12, 13}, []int64{10, 12, 11, 13}},
		{8, []int64{1, 2, 3, 0}, []int64{10, 11, 12, 13}, []int64{11, 12, 13, 10}},
		{8, []int64{2, 0, 3, 1}, []int64{10, 11, 12, 13}, []int64{12, 10, 13, 11}},
		{4, []int64{3, 3, 0, 3}, []int64{1, 2, 4, 15}, []int64{15, 15, 1, 15}},
		{16, []int64{1, 1}, []int64{5, 65535}, []int64{65535, 65535}},
		{8, reversed(8), []int64{0, 1, 2, 3, 4, 5, 6, 255}, []int64{255, 6, 5, 4, 3, 2, 1, 0}},
	}
	for _, c := range cases {
		got, ok := impl.ShuffleLanes(c.bits, c.shuffle, c.a)
		wantList(t, fmt.Sprintf("ShuffleLanes(%d, %v, %v)", c.bits, c.shuffle, c.a), got, ok, c.want)
	}
}

func shuffleLanes(t *testing.T, bits int64, shuffle, a []int64) []int64 {
	t.Helper()
	got, ok := impl.ShuffleLanes(bits, shuffle, a)
	if !ok {
		t.Fatalf("ShuffleLanes(%d, %v, %v) fails", bits, shuffle, a)
	}
	return got
}

// TestThenShuffle holds one shuffle against two of them, one after the other, of lanes that all differ.
func TestThenShuffle(t *testing.T) {
	for _, lanes := range allLanes {
		list, a := someShuffles(lanes), lanesBy(lanes, func(i int) int64 { return int64(3*i + 1) })
		for k, first := range list {
			for i := 0; i < len(list); i += 1 + k%3 {
				second := list[i]
				got, ok := impl.ThenShuffle(first, second)
				wantList(t, fmt.Sprintf("ThenShuffle(%v, %v)", first, second), got, ok, shuffled(first, second))
				wantList(t, fmt.Sprintf("lanes by ThenShuffle(%v, %v)", first, second), shuffleLanes(t, 8, got, a), ok, shuffleLanes(t, 8, second, shuffleLanes(t, 8, first, a)))
			}
		}
	}
	cases := []struct{ first, second, want []int64 }{
		{[]int64{1, 2, 3, 0}, []int64{3, 2, 1, 0}, []int64{0, 3, 2, 1}}, {[]int64{3, 2, 1, 0}, []int64{1, 2, 3, 0}, []int64{2, 1, 0, 3}},
		{[]int64{2, 2, 2, 2}, []int64{1, 2, 3, 0}, []int64{2, 2, 2, 2}}, {[]int64{1, 2, 3, 0}, []int64{2, 2, 2, 2}, []int64{3, 3, 3, 3}},
		{[]int64{1, 0}, []int64{1, 0}, []int64{0, 1}}, {[]int64{0, 0}, []int64{1, 1}, []int64{0, 0}}, {[]int64{1, 0}, []int64{0, 0}, []int64{1, 1}},
	}
	for _, c := range cases {
		got, ok := impl.ThenShuffle(c.first, c.second)
		wantList(t, fmt.Sprintf("ThenShuffle(%v, %v)", c.first, c.second), got, ok, c.want)
	}
}

func TestInverseShuffle(t *testing.T) {
	for _, lanes := range allLanes {
		for _, shuffle := range someShuffles(lanes) {
			got, ok := impl.InverseShuffle(shuffle)
			if lacksLane(shuffle) {
				if ok || len(got) != 0 {
					t.Fatalf("InverseShuffle(%v) = %v, %v", shuffle, got, ok)
				}
				continue
			}
			wantList(t, fmt.Sprintf("InverseShuffle(%v)", shuffle), got, ok, lanesBy(lanes, func(lane int) int64 { return int64(slices.Index(shuffle, int64(lane))) }))
			there, _ := impl.ThenShuffle(shuffle, got)
			back, fine := impl.ThenShuffle(got, shuffle)
			wantList(t, fmt.Sprintf("%v and its inverse", shuffle), there, ok, identity(lanes))
			wantList(t, fmt.Sprintf("the inverse of %v and it", shuffle), back, fine, identity(lanes))
		}
	}
	for _, c := range [][2][]int64{{{2, 0, 3, 1}, {1, 3, 0, 2}}, {{1, 2, 3, 0}, {3, 0, 1, 2}}, {{1, 0}, {1, 0}}, {{4, 0, 6, 7, 1, 2, 5, 3}, {1, 4, 5, 7, 0, 6, 2, 3}}} {
		got, ok := impl.InverseShuffle(c[0])
		wantList(t, fmt.Sprintf("InverseShuffle(%v)", c[0]), got, ok, c[1])
	}
}

func TestNamedShuffleByHand(t *testing.T) {
	cases := []struct {
		kind, by int64
		want     []int64
	}{
		{impl.ShufRotate, 0, []int64{0, 1}}, {impl.ShufRotate, 1, []int64{1, 0}}, {impl.ShufRotate, 0, []int64{0, 1, 2, 3}}, {impl.ShufRotate, 1, []int64{1, 2, 3, 0}}, {impl.ShufRotate, 3, []int64{3, 0, 1, 2}},
		{impl.ShufRotate, 7, []int64{7, 0, 1, 2, 3, 4, 5, 6}}, {impl.ShufRotate, 15, []int64{15, 0, 1, 2, 3, 4, 5, 6, 7, 8, 9, 10, 11, 12, 13, 14}},
		{impl.ShufReverse, 0, []int64{1, 0}}, {impl.ShufReverse, 0, []int64{3, 2, 1, 0}}, {impl.ShufReverse, 0, []int64{7, 6, 5, 4, 3, 2, 1, 0}}, {impl.ShufReverse, 0, []int64{15, 14, 13, 12, 11, 10, 9, 8, 7, 6, 5, 4, 3, 2, 1, 0}},
		{impl.ShufSwap, 0, []int64{0, 1}}, {impl.ShufSwap, 1, []int64{1, 0}}, {impl.ShufSwap, 1, []int64{1, 0, 3, 2}}, {impl.ShufSwap, 2, []int64{2, 3, 0, 1}}, {impl.ShufSwap, 3, []int64{3, 2, 1, 0}},
		{impl.ShufSwap, 5, []int64{5, 4, 7, 6, 1, 0, 3, 2}}, {impl.ShufSwap, 15, []int64{15, 14, 13, 12, 11, 10, 9, 8, 7, 6, 5, 4, 3, 2, 1, 0}},
		{impl.ShufZip, 0, []int64{0, 1}}, {impl.ShufZip, 0, []int64{0, 2, 1, 3}}, {impl.ShufZip, 0, []int64{0, 4, 1, 5, 2, 6, 3, 7}}, {impl.ShufZip, 0, []int64{0, 8, 1, 9, 2, 10, 3, 11, 4, 12, 5, 13, 6, 14, 7, 15}},
		{impl.ShufUnzip, 0, []int64{0, 1}}, {impl.ShufUnzip, 0, []int64{0, 2, 1, 3}}, {impl.ShufUnzip, 0, []int64{0, 2, 4, 6, 1, 3, 5, 7}}, {impl.ShufUnzip, 0, []int64{0, 2, 4, 6, 8, 10, 12, 14, 1, 3, 5, 7, 9, 11, 13, 15}},
		{impl.ShufFirst, 0, []int64{0, 0}}, {impl.ShufFirst, 1, []int64{1, 1}}, {impl.ShufFirst, 0, []int64{0, 0, 0, 0}}, {impl.ShufFirst, 3, []int64{3, 3, 3, 3}}, {impl.ShufFirst, 7, []int64{7, 7, 7, 7, 7, 7, 7, 7}},
	}
	for _, c := range cases {
		got, ok := impl.NamedShuffle(c.kind, int64(len(c.want)), c.by)
		wantList(t, fmt.Sprintf("NamedShuffle(%d, %d, %d)", c.kind, len(c.want), c.by), got, ok, c.want)
	}
}

// namedElement is the element i of a shuffle of n lanes as the specification words it.
func namedElement(kind, n, by, i int64) int64 {
	switch kind {
	case impl.ShufRotate:
		return (i + by) % n
	case impl.ShufReverse:
		return n - 1 - i
	case impl.ShufSwap:
		return bitwise(4, i, by, [3]bool{1: true})
	case impl.ShufFirst:
		return by
	}
	zip := func(i int64) int64 {
		if i%2 == 0 {
			return i / 2
		}
		return n/2 + (i-1)/2
	}
	if kind == impl.ShufZip {
		return zip(i)
	}
	for lane := range n {
		if zip(lane) == i {
			return lane
		}
	}
	return -1
}

func TestNamedShuffle(t *testing.T) {
	bys := []int64{math.MinInt64, -16, -2, -1, 16, 17, 32, powerOf(32), powerOf(62), math.MaxInt64}
	for by := range int64(16) {
		bys = append(bys, by)
	}
	for _, lanes := range allLanes {
		n := int64(lanes)
		for kind := range int64(impl.ShufFirst + 1) {
			most := n - 1
			if kind == impl.ShufReverse || kind == impl.ShufZip || kind == impl.ShufUnzip {
				most = 0
			}
			for _, by := range bys {
				got, ok := impl.NamedShuffle(kind, n, by)
				if by < 0 || by > most {
					if ok || len(got) != 0 {
						t.Errorf("NamedShuffle(%d, %d, %d) = %v, %v", kind, n, by, got, ok)
					}
					continue
				}
				want := lanesBy(lanes, func(i int) int64 { return namedElement(kind, n, by, int64(i)) })
				wantList(t, fmt.Sprintf("NamedShuffle(%d, %d, %d)", kind, n, by), got, ok, want)
			}
		}
	}
}

func TestNamedShuffleFails(t *testing.T) {
	refuse := func(kind, lanes, by int64) {
		t.Helper()
		if got, ok := impl.NamedShuffle(kind, lanes, by); ok || len(got) != 0 {
			t.Errorf("NamedShuffle(%d, %d, %d) = %v, %v", kind, lanes, by, got, ok)
		}
	}
	for _, kind := range noKinds {
		for _, lanes := range allLanes {
			refuse(kind, int64(lanes), 0)
			refuse(kind, int64(lanes), 1)
		}
	}
	for kind := range int64(impl.ShufFirst + 1) {
		for _, lanes := range noLanes {
			refuse(kind, int64(lanes), 0)
			refuse(kind, int64(lanes), 1)
		}
		for _, lanes := range []int64{math.MinInt64, -16, -2, -1, powerOf(32) + 2, powerOf(62), math.MaxInt64} {
			refuse(kind, lanes, 0)
		}
	}
}

func TestPickLanes(t *testing.T) {
	for _, bits := range allBits {
		for _, lanes := range allLanes {
			vectors, roll := vectorsOf(bits, lanes), dice(lanes)
			for k, first := range someShuffles(lanes) {
				a, b := vectors[k%len(vectors)], vectors[(k+1)%len(vectors)]
				second := lanesBy(lanes, func(i int) int64 { return first[i] + int64(lanes) })
				both := lanesBy(lanes, func(int) int64 { return roll.below(int64(2 * lanes)) })
				for _, p := range [][]int64{first, second, both} {
					want := lanesBy(lanes, func(i int) int64 {
						if p[i] < int64(lanes) {
							return a[p[i]]
						}
						return b[p[i]-int64(lanes)]
					})
					got, ok := impl.PickLanes(bits, p, a, b)
					wantList(t, fmt.Sprintf("PickLanes(%d, %v, %v, %v)", bits, p, a, b), got, ok, want)
				}
			}
		}
	}
}

func TestPickLanesByHand(t *testing.T) {
	a, b := []int64{1, 2, 3, 4}, []int64{5, 6, 7, 8}
	cases := []struct{ pick, want []int64 }{
		{[]int64{0, 2, 3, 1}, []int64{1, 3, 4, 2}}, {[]int64{7, 4, 0, 0}, []int64{8, 5, 1, 1}}, {[]int64{0, 1, 2, 3}, a}, {[]int64{4, 5, 6, 7}, b},
		{[]int64{3, 4, 3, 4}, []int64{4, 5, 4, 5}}, {[]int64{7, 7, 7, 7}, []int64{8, 8, 8, 8}}, {[]int64{0, 0, 0, 0}, []int64{1, 1, 1, 1}}, {[]int64{0, 4, 1, 5}, []int64{1, 5, 2, 6}},
	}
	for _, c := range cases {
		got, ok := impl.PickLanes(8, c.pick, a, b)
		wantList(t, fmt.Sprintf("PickLanes(8, %v, %v, %v)", c.pick, a, b), got, ok, c.want)
	}
	got, ok := impl.PickLanes(16, []int64{3, 0}, []int64{65535, 1}, []int64{2, 300})
	wantList(t, "PickLanes of two lanes", got, ok, []int64{300, 65535})
}

// allowedLists are lists of 1 to MaxAllowed shuffles: all of 2 lanes, and for more lanes named ones and others without any pattern, equal ones and ones that change nothing among them.
func allowedLists(lanes int) [][][]int64 {
	var list [][][]int64
	shuffles := someShuffles(lanes)
	if lanes == 2 {
		for n := 1; n <= impl.MaxAllowed; n++ {
			for _, indices := range allLists(n, int64(len(shuffles))) {
				allowed := make([][]int64, n)
				for i, k := range indices {
					allowed[i] = shuffles[k]
				}
				list = append(list, allowed)
			}
		}
		return list
	}
	turn, back, zip := turned(lanes, 1), reversed(lanes), lanesBy(lanes, func(i int) int64 { return namedElement(impl.ShufZip, int64(lanes), 0, int64(i)) })
	swap, last := lanesBy(lanes, func(i int) int64 { return namedElement(impl.ShufSwap, int64(lanes), 2, int64(i)) }), lanesBy(lanes, func(int) int64 { return int64(lanes - 1) })
	list = append(list, [][]int64{turn}, [][]int64{identity(lanes)}, [][]int64{turn, turn}, [][]int64{identity(lanes), turn}, [][]int64{turn, identity(lanes), back, turn}, [][]int64{last},
		[][]int64{turn, zip}, [][]int64{zip, turn}, [][]int64{last, turn, last}, [][]int64{turn, turned(lanes, lanes-1), swap}, [][]int64{zip, swap, back, turn}, [][]int64{last, last, last, last},
		[][]int64{turned(lanes, 2), swap, turned(lanes, 2), swap})
	roll := dice(lanes)
	for n := 1; n <= impl.MaxAllowed; n++ {
		for range 12 {
			allowed := make([][]int64, n)
			for i := range allowed {
				allowed[i] = shuffles[roll.below(int64(len(shuffles)))]
			}
			list = append(list, allowed)
		}
	}
	return list
}

// stepsInOrder are all lists of at most MaxSteps indices of n shuffles: shorter ones first, and those of one length in lexicographic order.
func stepsInOrder(n int) [][]int64 {
	var list [][]int64
	for length := range impl.MaxSteps + 1 {
		list = append(list, allLists(length, int64(n))...)
	}
	return list
}

// bestSteps tries all of the given lists of steps and keeps the first one for each shuffle, and the shuffles in the order in which they are found.
func bestSteps(allowed, inOrder [][]int64, lanes int) (map[string][]int64, [][]int64) {
	best, found := map[string][]int64{}, [][]int64{}
	for _, steps := range inOrder {
		does := identity(lanes)
		for _, k := range steps {
			does = shuffled(does, allowed[k])
		}
		if _, known := best[keyFor(does)]; !known {
			best[keyFor(does)], found = steps, append(found, does)
		}
	}
	return best, found
}

// keyFor is a text that tells lists of lanes apart.
func keyFor(list []int64) string {
	bytes := make([]byte, len(list))
	for i, n := range list {
		bytes[i] = byte(n)
	}
	return string(bytes)
}

// TestSteps holds the search against all lists of steps, for goals that are reached, of which it takes at most about 30, and others.
func TestSteps(t *testing.T) {
	var inOrder [impl.MaxAllowed + 1][][]int64
	for n := range inOrder {
		inOrder[n] = stepsInOrder(n)
	}
	for _, lanes := range allLanes {
		goals := someShuffles(lanes)
		for _, allowed := range allowedLists(lanes) {
			best, found := bestSteps(allowed, inOrder[len(allowed)], lanes)
			for k := 0; k < len(goals); k += 1 + len(goals)/30 {
				checkGoal(t, allowed, goals[k], best)
			}
			for k := len(found) - 1; k >= 0; k -= 1 + len(found)/30 {
				checkGoal(t, allowed, found[k], best)
			}
			for most := range int64(impl.MaxSteps + 1) {
				want := int64(0)
				for _, steps := range best {
					if int64(len(steps)) <= most {
						want++
					}
				}
				if got, ok := impl.CountReached(allowed, most); !ok || got != want {
					t.Fatalf("CountReached(%v, %d) = %d, %v, want %d", allowed, most, got, ok, want)
				}
			}
		}
	}
}

func checkGoal(t *testing.T, allowed [][]int64, goal []int64, best map[string][]int64) {
	t.Helper()
	steps, reached := best[keyFor(goal)]
	for most := range int64(impl.MaxSteps + 1) {
		got, ok := impl.ShortestSteps(allowed, goal, most)
		want := reached && int64(len(steps)) <= most
		if ok != want || want && !slices.Equal(got, steps) || !want && len(got) != 0 {
			t.Fatalf("ShortestSteps(%v, %v, %d) = %v, %v, want %v, %v", allowed, goal, most, got, ok, steps, want)
		}
	}
}

func TestShortestStepsByHand(t *testing.T) {
	turn, zip, last := []int64{1, 2, 3, 0}, []int64{0, 2, 1, 3}, []int64{3, 3, 3, 3}
	cases := []struct {
		allowed     [][]int64
		goal, steps []int64
		// reached is how many shuffles are reached with just as many steps as these, and with one step less.
		reached [2]int64
	}{
		{[][]int64{turn}, []int64{0, 1, 2, 3}, nil, [2]int64{1, 0}}, {[][]int64{turn}, []int64{3, 0, 1, 2}, []int64{0, 0, 0}, [2]int64{4, 3}},
		{[][]int64{turn, zip}, []int64{2, 1, 3, 0}, []int64{1, 0}, [2]int64{6, 3}}, {[][]int64{turn, zip}, []int64{1, 3, 2, 0}, []int64{0, 1}, [2]int64{6, 3}},
		// Of several lists, the least one.
		{[][]int64{turn, turn}, []int64{2, 3, 0, 1}, []int64{0, 0}, [2]int64{3, 2}}, {[][]int64{turn, {3, 0, 1, 2}}, []int64{2, 3, 0, 1}, []int64{0, 0}, [2]int64{4, 3}},
		{[][]int64{{3, 0, 1, 2}, turn, turn}, turn, []int64{1}, [2]int64{3, 1}}, {[][]int64{{2, 3, 0, 1}, {1, 0, 3, 2}}, []int64{3, 2, 1, 0}, []int64{0, 1}, [2]int64{4, 3}},
		// Fewer steps come before lesser ones.
		{[][]int64{turn, {2, 3, 0, 1}}, []int64{2, 3, 0, 1}, []int64{1}, [2]int64{3, 1}}, {[][]int64{turn, {2, 3, 0, 1}}, []int64{3, 0, 1, 2}, []int64{0, 1}, [2]int64{4, 3}},
		// A shuffle that changes nothing is no step.
		{[][]int64{{0, 1, 2, 3}, turn}, turn, []int64{1}, [2]int64{2, 1}}, {[][]int64{{0, 1, 2, 3}, turn}, []int64{0, 1, 2, 3}, nil, [2]int64{1, 0}},
		// Lanes that are missing stay missing.
		{[][]int64{last, turn}, last, []int64{0}, [2]int64{3, 1}}, {[][]int64{last, turn}, []int64{0, 0, 0, 0}, []int64{1, 0}, [2]int64{5, 3}}, {[][]int64{last, turn}, []int64{2, 2, 2, 2}, []int64{1, 1, 1, 0}, [2]int64{8, 7}},
		{[][]int64{{1, 1}}, []int64{1, 1}, []int64{0}, [2]int64{2, 1}}, {[][]int64{{1, 1}, {1, 0}}, []int64{0, 0}, []int64{1, 0}, [2]int64{4, 3}},
		// As many steps as there may be.
		{[][]int64{turned(8, 1)}, turned(8, 5), []int64{0, 0, 0, 0, 0}, [2]int64{6, 5}}, {[][]int64{turned(16, 3)}, turned(16, 15), []int64{0, 0, 0, 0, 0}, [2]int64{6, 5}},
	}
	for _, c := range cases {
		need := int64(len(c.steps))
		for most := range int64(impl.MaxSteps + 1) {
			got, ok := impl.ShortestSteps(c.allowed, c.goal, most)
			if most < need {
				if ok || len(got) != 0 {
					t.Errorf("ShortestSteps(%v, %v, %d) = %v, %v", c.allowed, c.goal, most, got, ok)
				}
				continue
			}
			wantList(t, fmt.Sprintf("ShortestSteps(%v, %v, %d)", c.allowed, c.goal, most), got, ok, c.steps)
		}
		for less := range min(need, 1) + 1 {
			if got, ok := impl.CountReached(c.allowed, need-less); !ok || got != c.reached[less] {
				t.Errorf("CountReached(%v, %d) = %d, %v, want %d", c.allowed, need-less, got, ok, c.reached[less])
			}
		}
	}
	for _, goal := range [][]int64{{0, 0, 0, 0}, {1, 0, 2, 3}, {3, 2, 1, 0}, {1, 2, 3, 3}} {
		if got, ok := impl.ShortestSteps([][]int64{turn}, goal, impl.MaxSteps); ok || len(got) != 0 {
			t.Errorf("rotations make %v by %v", goal, got)
		}
	}
	if got, ok := impl.ShortestSteps([][]int64{turned(8, 1)}, turned(8, 6), impl.MaxSteps); ok || len(got) != 0 {
		t.Errorf("a rotation by 6 takes the steps %v", got)
	}
}

// squareOf are rows of words that differ as far as the bits let them.
func squareOf(bits int64, lanes int) [][]int64 {
	rows := make([][]int64, lanes)
	for i := range rows {
		rows[i] = lanesBy(lanes, func(k int) int64 { return wrapped(bits, int64(i*lanes+k)*7+int64(i)) })
	}
	return rows
}

func wantRows(t *testing.T, what string, got [][]int64, ok bool, want func(i, k int) int64) {
	t.Helper()
	lists := make([][]int64, len(got))
	for i := range lists {
		lists[i] = lanesBy(len(got), func(k int) int64 { return want(i, k) })
	}
	if !ok || len(got) == 0 || fmt.Sprint(got) != fmt.Sprint(lists) {
		t.Fatalf("%s: %v, %v, want %v", what, got, ok, lists)
	}
}

// TestTranspose turns rows at once, by single steps, and by the steps of all distances in each order.
func TestTranspose(t *testing.T) {
	for _, bits := range allBits {
		for _, lanes := range allLanes {
			rows := squareOf(bits, lanes)
			got, ok := impl.TransposeLanes(bits, rows)
			wantRows(t, fmt.Sprintf("TransposeLanes(%d, %v)", bits, rows), got, ok && len(got) == lanes, func(i, k int) int64 { return rows[k][i] })
			count := 0
			for far := 1; far < lanes; far *= 2 {
				got, ok := impl.TransposeStep(bits, rows, int64(far))
				wantRows(t, fmt.Sprintf("TransposeStep(%d, %v, %d)", bits, rows, far), got, ok && len(got) == lanes, func(i, k int) int64 {
					switch low, left := i/far%2 == 0, k/far%2 == 0; {
					case low && !left:
						return rows[i+far][k-far]
					case left && !low:
						return rows[i-far][k+far]
					}
					return rows[i][k]
				})
				count++
			}
			permutations(count, func(order []int64) {
				by := rows
				for _, k := range order {
					next, ok := impl.TransposeStep(bits, by, powerOf(k))
					if !ok {
						t.Fatalf("TransposeStep(%d, %v, %d) fails", bits, by, powerOf(k))
					}
					by = next
				}
				wantRows(t, fmt.Sprintf("steps of %v with the powers %v", rows, order), by, true, func(i, k int) int64 { return rows[k][i] })
			})
		}
	}
}

func TestTransposeByHand(t *testing.T) {
	two, four := [][]int64{{1, 2}, {3, 4}}, [][]int64{{0, 1, 2, 3}, {4, 5, 6, 7}, {8, 9, 10, 11}, {12, 13, 14, 15}}
	cases := []struct {
		rows, all [][]int64
		steps     [][][]int64
	}{
		{two, [][]int64{{1, 3}, {2, 4}}, [][][]int64{{{1, 3}, {2, 4}}}},
		{four, [][]int64{{0, 4, 8, 12}, {1, 5, 9, 13}, {2, 6, 10, 14}, {3, 7, 11, 15}}, [][][]int64{
			{{0, 4, 2, 6}, {1, 5, 3, 7}, {8, 12, 10, 14}, {9, 13, 11, 15}}, {{0, 1, 8, 9}, {4, 5, 12, 13}, {2, 3, 10, 11}, {6, 7, 14, 15}},
		}},
	}
	for _, c := range cases {
		if got, ok := impl.TransposeLanes(4, c.rows); !ok || fmt.Sprint(got) != fmt.Sprint(c.all) {
			t.Errorf("TransposeLanes(4, %v) = %v, %v", c.rows, got, ok)
		}
		for k, want := range c.steps {
			if got, ok := impl.TransposeStep(4, c.rows, powerOf(int64(k))); !ok || fmt.Sprint(got) != fmt.Sprint(want) {
				t.Errorf("TransposeStep(4, %v, %d) = %v, %v", c.rows, powerOf(int64(k)), got, ok)
			}
		}
	}
}

func TestTransposeStepFails(t *testing.T) {
	for _, lanes := range allLanes {
		fars := []int64{math.MinInt64, math.MinInt64 + 1, -powerOf(32), powerOf(31), powerOf(32), powerOf(32) + 1, powerOf(62), math.MaxInt64}
		for far := int64(-20); far <= 70; far++ {
			if !slices.Contains([]int64{1, 2, 4, 8}, far) || far >= int64(lanes) {
				fars = append(fars, far)
			}
		}
		for _, far := range fars {
			if got, ok := impl.TransposeStep(8, squareOf(8, lanes), far); ok || len(got) != 0 {
				t.Errorf("TransposeStep of %d lanes with the distance %d is %v, %v", lanes, far, got, ok)
			}
		}
	}
}

// logOf is the power of 2 that a number of lanes is, or the next one below it.
func logOf(lanes int) int {
	m := 0
	for ; lanes > 1; lanes /= 2 {
		m++
	}
	return m
}

// networkOf has the switches of so many lanes, each of them made anew.
func networkOf(lanes int, one func() int64) [][]int64 {
	lists := make([][]int64, max(0, 2*logOf(lanes)-1))
	for s := range lists {
		lists[s] = lanesBy(lanes/2, func(int) int64 { return one() })
	}
	return lists
}

func zeroNetwork(lanes int) [][]int64 { return networkOf(lanes, func() int64 { return 0 }) }

// someNetworks are all networks of up to 4 lanes, and for more lanes those with one switch that is 1, and others without any pattern.
func someNetworks(lanes int) [][][]int64 {
	networks, roll := [][][]int64{zeroNetwork(lanes), networkOf(lanes, func() int64 { return 1 })}, dice(lanes)
	if lanes <= 4 {
		for _, switches := range allLists((2*logOf(lanes)-1)*lanes/2, 2) {
			next := -1
			networks = append(networks, networkOf(lanes, func() int64 { next++; return switches[next] }))
		}
		return networks
	}
	for s := range 2*logOf(lanes) - 1 {
		for k := range lanes / 2 {
			single := zeroNetwork(lanes)
			single[s][k] = 1
			networks = append(networks, single)
		}
	}
	for range 200 {
		networks = append(networks, networkOf(lanes, func() int64 { return roll.below(2) }))
	}
	return networks
}

// throughNetwork takes a vector through a network as the specification words it.
func throughNetwork(switches [][]int64, a []int64) []int64 {
	v, m := slices.Clone(a), logOf(len(a))
	for s, list := range switches {
		far := int(powerOf(int64(m - 1 - s)))
		if s >= m {
			far = int(powerOf(int64(s - m + 1)))
		}
		next := 0
		for i := range v {
			if i/far%2 == 0 {
				if list[next] == 1 {
					v[i], v[i+far] = v[i+far], v[i]
				}
				next++
			}
		}
	}
	return v
}

func TestRunNetwork(t *testing.T) {
	for _, bits := range allBits {
		for _, lanes := range allLanes {
			vectors := vectorsOf(bits, lanes)
			for k, switches := range someNetworks(lanes) {
				if !impl.IsNetwork(int64(lanes), switches) {
					t.Fatalf("IsNetwork(%d, %v) is false", lanes, switches)
				}
				for _, a := range [][]int64{vectors[2], vectors[k%len(vectors)]} {
					got, ok := impl.RunNetwork(bits, switches, a)
					wantList(t, fmt.Sprintf("RunNetwork(%d, %v, %v)", bits, switches, a), got, ok, throughNetwork(switches, a))
				}
			}
		}
	}
}

func TestRunNetworkByHand(t *testing.T) {
	cases := []struct {
		switches [][]int64
		want     []int64
	}{
		{[][]int64{{0}}, []int64{0, 1}}, {[][]int64{{1}}, []int64{1, 0}},
		{[][]int64{{1, 0}, {0, 0}, {0, 0}}, []int64{2, 1, 0, 3}}, {[][]int64{{0, 1}, {0, 0}, {0, 0}}, []int64{0, 3, 2, 1}},
		{[][]int64{{0, 0}, {1, 0}, {0, 0}}, []int64{1, 0, 2, 3}}, {[][]int64{{0, 0}, {0, 1}, {0, 0}}, []int64{0, 1, 3, 2}},
		{[][]int64{{0, 0}, {0, 0}, {1, 0}}, []int64{2, 1, 0, 3}}, {[][]int64{{0, 0}, {0, 0}, {0, 1}}, []int64{0, 3, 2, 1}},
		{[][]int64{{0, 1}, {1, 1}, {0, 0}}, []int64{3, 0, 1, 2}}, {[][]int64{{0, 1}, {0, 1}, {0, 1}}, []int64{0, 2, 1, 3}},
		{[][]int64{{0, 1, 0, 0}, {0, 0, 0, 0}, {0, 0, 0, 0}, {0, 0, 0, 0}, {0, 0, 0, 0}}, []int64{0, 5, 2, 3, 4, 1, 6, 7}},
		{[][]int64{{0, 0, 0, 0}, {0, 0, 1, 0}, {0, 0, 0, 0}, {0, 0, 0, 0}, {0, 0, 0, 0}}, []int64{0, 1, 2, 3, 6, 5, 4, 7}},
		{[][]int64{{0, 0, 0, 0}, {0, 0, 0, 0}, {0, 1, 0, 0}, {0, 0, 0, 0}, {0, 0, 0, 0}}, []int64{0, 1, 3, 2, 4, 5, 6, 7}},
		{[][]int64{{0, 0, 0, 0}, {0, 0, 0, 0}, {0, 0, 0, 0}, {0, 1, 0, 0}, {0, 0, 0, 0}}, []int64{0, 3, 2, 1, 4, 5, 6, 7}},
		{[][]int64{{0, 0, 0, 0}, {0, 0, 0, 0}, {0, 0, 0, 0}, {0, 0, 0, 0}, {0, 0, 0, 1}}, []int64{0, 1, 2, 7, 4, 5, 6, 3}},
	}
	for _, c := range cases {
		a := identity(len(c.want))
		got, ok := impl.RunNetwork(4, c.switches, a)
		wantList(t, fmt.Sprintf("RunNetwork(4, %v, %v)", c.switches, a), got, ok, c.want)
	}
}

// noNetworks are lists that are no networks of some lanes, most of them for one thing that is wrong.
func noNetworks(lanes int) [][][]int64 {
	lists := 2*logOf(lanes) - 1
	networks := [][][]int64{nil, {}, zeroNetwork(lanes)[1:], append(zeroNetwork(lanes), make([]int64, lanes/2)), append(zeroNetwork(lanes), nil), make([][]int64, lists)}
	for _, other := range allLanes {
		if other != lanes {
			networks = append(networks, zeroNetwork(other))
		}
	}
	for _, s := range []int{0, lists / 2, lists - 1} {
		for _, n := range []int{0, lanes/2 - 1, lanes/2 + 1, lanes} {
			wrong := zeroNetwork(lanes)
			wrong[s] = make([]int64, n)
			networks = append(networks, wrong)
		}
		for _, x := range []int64{math.MinInt64, -1, 2, 3, powerOf(32), math.MaxInt64} {
			for _, k := range []int{0, lanes/2 - 1} {
				wrong := zeroNetwork(lanes)
				wrong[s][k] = x
				networks = append(networks, wrong)
			}
		}
	}
	return networks
}

func TestIsNetwork(t *testing.T) {
	for _, lanes := range allLanes {
		for _, switches := range noNetworks(lanes) {
			if impl.IsNetwork(int64(lanes), switches) {
				t.Errorf("IsNetwork(%d, %v) is true", lanes, switches)
			}
		}
	}
	for _, lanes := range noLanes {
		for _, switches := range [][][]int64{nil, {{}}, zeroNetwork(lanes), zeroNetwork(4)} {
			if impl.IsNetwork(int64(lanes), switches) {
				t.Errorf("IsNetwork(%d, %v) is true", lanes, switches)
			}
		}
	}
	for _, lanes := range []int64{math.MinInt64, -4, -1, powerOf(32) + 4, powerOf(62), math.MaxInt64} {
		for _, switches := range [][][]int64{nil, zeroNetwork(2), zeroNetwork(4), make([][]int64, 123), make([][]int64, 125)} {
			if impl.IsNetwork(lanes, switches) {
				t.Errorf("IsNetwork(%d, %v) is true", lanes, switches)
			}
		}
	}
}

// halvesBy decides over which half each lane at the end comes and to which half each lane at the beginning goes, rule by rule until nothing follows any more.
func halvesBy(t *testing.T, goal []int64) (over, into []int64) {
	n := len(goal)
	over, into = slices.Repeat([]int64{-1}, n), slices.Repeat([]int64{-1}, n)
	changed := false
	decide := func(list []int64, lane int, half int64) {
		if list[lane] == 1-half {
			t.Fatalf("the lane %d of %v is decided twice", lane, goal)
		}
		changed = changed || list[lane] < 0
		list[lane] = half
	}
	for slices.Contains(over, -1) {
		decide(over, slices.Index(over, -1), 0)
		for changed = true; changed; {
			changed = false
			for end := range n {
				if begin := int(goal[end]); over[end] >= 0 {
					decide(over, (end+n/2)%n, 1-over[end])
					decide(into, begin, over[end])
				}
			}
			for begin := range n {
				if end := slices.Index(goal, int64(begin)); into[begin] >= 0 {
					decide(into, (begin+n/2)%n, 1-into[begin])
					decide(over, end, into[begin])
				}
			}
		}
	}
	return over, into
}

// routedBy is the network for a goal, with the networks of both halves put beside each other.
func routedBy(t *testing.T, goal []int64) [][]int64 {
	n := len(goal)
	if n == 2 {
		if goal[0] == 1 {
			return [][]int64{{1}}
		}
		return [][]int64{{0}}
	}
	over, into := halvesBy(t, goal)
	var parts [2][][]int64
	for half := range parts {
		parts[half] = routedBy(t, lanesBy(n/2, func(k int) int64 {
			if over[k] != int64(half) {
				k += n / 2
			}
			return goal[k] % int64(n/2)
		}))
	}
	network := [][]int64{into[:n/2]}
	for s := range parts[0] {
		network = append(network, slices.Concat(parts[0][s], parts[1][s]))
	}
	return append(network, over[:n/2])
}

func checkRoute(t *testing.T, goal []int64) {
	t.Helper()
	got, ok := impl.RouteNetwork(goal)
	if want := routedBy(t, goal); !ok || fmt.Sprint(got) != fmt.Sprint(want) {
		t.Fatalf("RouteNetwork(%v) = %v, %v, want %v", goal, got, ok, want)
	}
	a := lanesBy(len(goal), func(i int) int64 { return int64(5*i + 3) })
	if !impl.IsNetwork(int64(len(goal)), got) {
		t.Fatalf("RouteNetwork(%v) = %v, which is no network", goal, got)
	}
	v, ok := impl.RunNetwork(8, got, a)
	wantList(t, fmt.Sprintf("RunNetwork of the network %v for %v", got, goal), v, ok, shuffleLanes(t, 8, goal, a))
}

// TestRouteNetwork routes all goals of up to 8 lanes, and many of 16 lanes.
func TestRouteNetwork(t *testing.T) {
	for _, lanes := range []int{2, 4, 8} {
		permutations(lanes, func(goal []int64) { checkRoute(t, goal) })
	}
	for _, goal := range fullShuffles(16) {
		checkRoute(t, goal)
	}
	roll := dice(3)
	for range 2000 {
		checkRoute(t, mixed(&roll, 16))
	}
	for kind := range int64(impl.ShufFirst) {
		for by := range int64(16) {
			if goal, ok := impl.NamedShuffle(kind, 16, by); ok {
				checkRoute(t, goal)
			}
		}
	}
	for _, lanes := range allLanes {
		for _, goal := range someShuffles(lanes) {
			if lacksLane(goal) {
				if got, ok := impl.RouteNetwork(goal); ok || len(got) != 0 {
					t.Fatalf("RouteNetwork(%v) = %v, %v", goal, got, ok)
				}
			}
		}
	}
}

func TestRouteNetworkByHand(t *testing.T) {
	cases := []struct {
		goal []int64
		want string
	}{
		{[]int64{0, 1}, "[[0]]"}, {[]int64{1, 0}, "[[1]]"}, {identity(4), "[[0 0] [0 0] [0 0]]"}, {[]int64{3, 0, 1, 2}, "[[0 1] [1 1] [0 0]]"}, {[]int64{1, 2, 3, 0}, "[[1 0] [1 1] [0 0]]"},
		{[]int64{3, 2, 1, 0}, "[[1 1] [1 1] [0 0]]"}, {[]int64{0, 2, 1, 3}, "[[0 1] [0 1] [0 1]]"}, {[]int64{2, 3, 0, 1}, "[[1 1] [0 0] [0 0]]"},
		{identity(8), "[[0 0 0 0] [0 0 0 0] [0 0 0 0] [0 0 0 0] [0 0 0 0]]"}, {reversed(8), "[[1 1 1 1] [1 1 1 1] [1 1 1 1] [0 0 0 0] [0 0 0 0]]"},
		{[]int64{0, 4, 1, 5, 2, 6, 3, 7}, "[[0 0 1 1] [0 1 1 0] [0 1 0 1] [0 1 0 1] [0 1 0 1]]"},
	}
	for _, c := range cases {
		if got, ok := impl.RouteNetwork(c.goal); !ok || fmt.Sprint(got) != c.want {
			t.Errorf("RouteNetwork(%v) = %v, %v, want %s", c.goal, got, ok, c.want)
		}
	}
}

// shuffleArgs are arguments for all functions of the chapter, which take those that they have.
type shuffleArgs struct {
	bits, far, most           int64
	first, second, pick, a, b []int64
	allowed, rows, switches   [][]int64
}

// shuffleCall is a function of the chapter with other results than one bool and with lists as arguments; takes has the names of its arguments.
type shuffleCall struct {
	name, takes string
	run         func(x shuffleArgs) (any, bool)
}

var shuffleCalls = []shuffleCall{
	{"ShuffleLanes", "bits first a", func(x shuffleArgs) (any, bool) { return result(impl.ShuffleLanes(x.bits, x.first, x.a)) }},
	{"ThenShuffle", "first second", func(x shuffleArgs) (any, bool) { return result(impl.ThenShuffle(x.first, x.second)) }},
	{"InverseShuffle", "first", func(x shuffleArgs) (any, bool) { return result(impl.InverseShuffle(x.first)) }},
	{"PickLanes", "bits pick a b", func(x shuffleArgs) (any, bool) { return result(impl.PickLanes(x.bits, x.pick, x.a, x.b)) }},
	{"ShortestSteps", "allowed first most", func(x shuffleArgs) (any, bool) { return result(impl.ShortestSteps(x.allowed, x.first, x.most)) }},
	{"CountReached", "allowed most", func(x shuffleArgs) (any, bool) { return result(impl.CountReached(x.allowed, x.most)) }},
	{"TransposeLanes", "bits rows", func(x shuffleArgs) (any, bool) { return result(impl.TransposeLanes(x.bits, x.rows)) }},
	{"TransposeStep", "bits rows", func(x shuffleArgs) (any, bool) { return result(impl.TransposeStep(x.bits, x.rows, x.far)) }},
	{"RunNetwork", "bits switches a", func(x shuffleArgs) (any, bool) { return result(impl.RunNetwork(x.bits, x.switches, x.a)) }},
	{"RouteNetwork", "first", func(x shuffleArgs) (any, bool) { return result(impl.RouteNetwork(x.first)) }},
}

// fittingShuffles are arguments that fit each other, and all functions if there are vectors of so many lanes.
func fittingShuffles(lanes int) shuffleArgs {
	flip := int64(0)
	return shuffleArgs{
		bits: 8, far: 1, most: impl.MaxSteps,
		first: turned(lanes, 1), second: reversed(lanes), pick: lanesBy(lanes, func(i int) int64 { return int64(2 * i) }),
		a: identity(lanes), b: lanesBy(lanes, func(i int) int64 { return int64(255 - i%200) }),
		allowed: [][]int64{reversed(lanes), turned(lanes, 1)}, rows: squareOf(8, lanes),
		switches: networkOf(lanes, func() int64 { flip = 1 - flip; return flip }),
	}
}

// wrongNumbers are fitting arguments of which just the number with the given name is changed. With other bits, all words are 0, so that they are not what is wrong.
func wrongNumbers(name string, lanes int) []shuffleArgs {
	var list []shuffleArgs
	switch name {
	case "bits":
		for _, bits := range noBits {
			x, zeros := fittingShuffles(lanes), make([]int64, lanes)
			x.bits, x.a, x.b, x.rows = bits, zeros, zeros, slices.Repeat([][]int64{zeros}, lanes)
			list = append(list, x)
		}
	case "most":
		for _, most := range noStepCounts {
			x := fittingShuffles(lanes)
			x.most = most
			list = append(list, x)
		}
	}
	return list
}

// wrongLists are fitting arguments of which just the list with the given name is changed: it is wrong by itself, or has another number of lanes, one of others.
func wrongLists(name string, lanes int, others []int) []shuffleArgs {
	var list []shuffleArgs
	wrong := map[string][][]int64{
		"first": noShuffles(lanes), "second": noShuffles(lanes), "a": noVectors(8, lanes), "b": noVectors(8, lanes),
		"pick": append(noIndices(lanes, int64(2*lanes)), nil, []int64{0}, make([]int64, lanes-1), make([]int64, lanes+1), identity(2*lanes)),
	}[name]
	for _, n := range others {
		wrong = append(wrong, make([]int64, n), identity(n))
	}
	for _, one := range wrong {
		x := fittingShuffles(lanes)
		if place := map[string]*[]int64{"first": &x.first, "second": &x.second, "pick": &x.pick, "a": &x.a, "b": &x.b}[name]; place != nil {
			*place = one
			list = append(list, x)
		}
	}
	return list
}

// wrongTables are the same for lists of lists.
func wrongTables(name string, lanes int, others []int) []shuffleArgs {
	var list []shuffleArgs
	switch name {
	case "allowed":
		wrong := noAllowed(lanes)
		for _, n := range others {
			wrong = append(wrong, [][]int64{turned(n, 1)})
		}
		for _, allowed := range wrong {
			x := fittingShuffles(lanes)
			x.allowed = allowed
			list = append(list, x)
		}
	case "rows":
		for _, rows := range noRows(lanes) {
			x := fittingShuffles(lanes)
			x.rows = rows
			list = append(list, x)
		}
	case "switches":
		for _, switches := range noNetworks(lanes) {
			x := fittingShuffles(lanes)
			x.switches = switches
			list = append(list, x)
		}
	}
	return list
}

// noAllowed are lists that are no allowed shuffles.
func noAllowed(lanes int) [][][]int64 {
	turn := turned(lanes, 1)
	list := [][][]int64{nil, {}, {nil}, slices.Repeat([][]int64{turn}, impl.MaxAllowed+1), slices.Repeat([][]int64{turn}, 100)}
	for _, wrong := range noShuffles(lanes) {
		list = append(list, [][]int64{wrong}, [][]int64{wrong, turn}, [][]int64{turn, turn, turn, wrong})
	}
	for _, n := range allLanes {
		if n != lanes {
			list = append(list, [][]int64{identity(n), turn}, [][]int64{turn, identity(n)}, [][]int64{turn, identity(n), turn})
		}
	}
	return list
}

// noRows are lists that are no rows of words of 8 bits.
func noRows(lanes int) [][][]int64 {
	rows := squareOf(8, lanes)
	list := [][][]int64{nil, {}, {nil}, {{0}}, make([][]int64, lanes), rows[1:], rows[:1], append(slices.Clone(rows), rows[0])}
	for _, other := range allLanes {
		if other != lanes {
			list = append(list, slices.Repeat([][]int64{make([]int64, other)}, lanes), slices.Repeat([][]int64{make([]int64, lanes)}, other))
		}
	}
	for _, wrong := range append(noVectors(8, lanes), rows[0][1:], append(slices.Clone(rows[0]), 0), make([]int64, 2*lanes)) {
		for _, i := range []int{0, lanes - 1} {
			broken := slices.Clone(rows)
			broken[i] = wrong
			list = append(list, broken)
		}
	}
	return list
}

// TestShufflesFail changes one argument after another of calls that succeed, so that nothing else can be why they fail.
func TestShufflesFail(t *testing.T) {
	for _, c := range shuffleCalls {
		refuse := func(x shuffleArgs) {
			t.Helper()
			if value, ok := c.run(x); ok || !isZeroResult(value) {
				t.Errorf("%s of %v is %v, %v", c.name, x, value, ok)
			}
		}
		takes := strings.Fields(c.takes)
		for _, lanes := range allLanes {
			if value, ok := c.run(fittingShuffles(lanes)); !ok || isZeroResult(value) {
				t.Fatalf("%s of %d lanes is %v, %v", c.name, lanes, value, ok)
			}
			var others []int
			if lists := slices.DeleteFunc(slices.Clone(takes), func(name string) bool { return name == "bits" || name == "most" }); len(lists) > 1 {
				others = slices.DeleteFunc(slices.Clone(allLanes), func(n int) bool { return n == lanes })
			}
			for _, name := range takes {
				wrong := slices.Concat(wrongNumbers(name, lanes), wrongLists(name, lanes, others), wrongTables(name, lanes, others))
				if len(wrong) == 0 {
					t.Fatalf("nothing is wrong with %s", name)
				}
				for _, x := range wrong {
					refuse(x)
				}
			}
		}
		for _, n := range noLanes {
			refuse(fittingShuffles(n))
		}
	}
}

// roomyTable returns lists with unused capacity, each of them with some of its own, and all of their memory: that of the lists themselves and that of their numbers.
func roomyTable(lists [][]int64) ([][]int64, [2][][]int64) {
	spare := []int64{99, 98}
	table, numbers := make([][]int64, 0, len(lists)+3), [][]int64{spare}
	for _, list := range lists {
		inner, memory := roomy(list)
		table, numbers = append(table, inner), append(numbers, memory)
	}
	table = append(table, spare, spare, spare)
	return table[:len(lists)], [2][][]int64{table, numbers}
}

// TestShufflesStayEqual is promise 1 for this chapter: no call changes an argument, and no result shares memory with an argument or another result.
func TestShufflesStayEqual(t *testing.T) {
	for _, c := range shuffleCalls {
		for _, lanes := range allLanes {
			x := fittingShuffles(lanes)
			var kept [5][]int64
			var tables [3][2][][]int64
			for k, list := range []*[]int64{&x.first, &x.second, &x.pick, &x.a, &x.b} {
				*list, kept[k] = roomy(*list)
			}
			for k, table := range []*[][]int64{&x.allowed, &x.rows, &x.switches} {
				*table, tables[k] = roomyTable(*table)
			}
			before := fmt.Sprint(kept, tables)
			first, ok := c.run(x)
			want := fmt.Sprint(first)
			second, fine := c.run(x)
			if !ok || !fine || fmt.Sprint(second) != want {
				t.Fatalf("%s returns %v, %v and then %v, %v", c.name, want, ok, second, fine)
			}
			spoil(first)
			third, _ := c.run(x)
			if fmt.Sprint(second) != want || fmt.Sprint(third) != want {
				t.Errorf("%s: results share memory: %v and %v, want %s", c.name, second, third, want)
			}
			if lists, has := second.([][]int64); has {
				checkApart(t, c.name, lists)
			}
			if after := fmt.Sprint(kept, tables); after != before {
				t.Errorf("%s changes its arguments from %s to %s", c.name, before, after)
			}
		}
	}
}

// TestShuffleQuestionsStayEqual is promise 1 for the functions without lists as both arguments and results.
func TestShuffleQuestionsStayEqual(t *testing.T) {
	x := fittingShuffles(8)
	first, kept := roomy(x.first)
	switches, memory := roomyTable(x.switches)
	before := fmt.Sprint(kept, memory)
	for range 2 {
		if !impl.IsShuffle(first) || impl.IsShuffle(first[:4]) || !impl.IsNetwork(8, switches) || impl.IsNetwork(4, switches) {
			t.Error("IsShuffle or IsNetwork changes its answer")
		}
		named, ok := impl.NamedShuffle(impl.ShufRotate, 8, 1)
		wantList(t, "NamedShuffle", named, ok, x.first)
		overwrite(named)
	}
	if after := fmt.Sprint(kept, memory); after != before {
		t.Errorf("the arguments change from %s to %s", before, after)
	}
}

func TestShuffleConstants(t *testing.T) {
	got := []int64{impl.MaxAllowed, impl.MaxSteps, impl.ShufRotate, impl.ShufReverse, impl.ShufSwap, impl.ShufZip, impl.ShufUnzip, impl.ShufFirst}
	if want := []int64{4, 5, 0, 1, 2, 3, 4, 5}; !slices.Equal(got, want) {
		t.Errorf("the constants are %v, want %v", got, want)
	}
}
