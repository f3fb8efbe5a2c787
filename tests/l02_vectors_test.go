package tests

import (
	"fmt"
	"math"
	"slices"
	"testing"

	"loop.example/g01139/impl"
)

var (
	allLanes = []int{2, 4, 8, 16}
	noLanes  = []int{0, 1, 3, 5, 6, 7, 9, 12, 15, 17, 18, 24, 32, 64, 1000}
	noCmps   = []int64{math.MinInt64, -1, impl.CmpLeS + 1, math.MaxInt64}
	noModes  = []int64{math.MinInt64, -1, impl.NarrowSigned + 1, math.MaxInt64}
)

// vectorsOf are vectors of the least and the greatest words, of one edge word after another, and of words without any pattern.
func vectorsOf(bits int64, lanes int) [][]int64 {
	edges := edgeWords(bits)
	fill := func(word func(i int) int64) []int64 {
		a := make([]int64, lanes)
		for i := range a {
			a[i] = wrapped(bits, word(i))
		}
		return a
	}
	list := [][]int64{fill(func(int) int64 { return 0 }), fill(func(int) int64 { return -1 }), fill(func(i int) int64 { return int64(i) + 1 })}
	for from := 0; from < len(edges); from += lanes {
		list = append(list, fill(func(i int) int64 { return edges[(from+i)%len(edges)] }))
	}
	state := int64(lanes) + bits
	for range 6 {
		list = append(list, fill(func(int) int64 {
			state = (state*1103515245 + 12345) % powerOf(31)
			return state / 1024
		}))
	}
	return list
}

// masksOf are all masks of up to 8 lanes, and of 16 lanes those with none, one, all but one and all of them on, and one in 251 of the others.
func masksOf(lanes int) [][]int64 {
	var list [][]int64
	add := func(number int64) {
		mask := make([]int64, lanes)
		for i := range mask {
			mask[i] = number / powerOf(int64(i)) % 2
		}
		list = append(list, mask)
	}
	all := powerOf(int64(lanes)) - 1
	for number := int64(0); number <= all; number++ {
		if lanes <= 8 || number%251 == 0 {
			add(number)
		}
	}
	add(all)
	for i := range int64(lanes) {
		add(powerOf(i))
		add(all - powerOf(i))
	}
	return list
}

// forVectors calls f with all pairs of neighbouring vectors of each number of bits and lanes.
func forVectors(f func(bits int64, a, b []int64)) {
	for _, bits := range allBits {
		for _, lanes := range allLanes {
			list := vectorsOf(bits, lanes)
			for i, a := range list {
				f(bits, a, list[(i+1)%len(list)])
			}
		}
	}
}

func wantList(t *testing.T, what string, got []int64, ok bool, want []int64) {
	t.Helper()
	if !ok || !slices.Equal(got, want) {
		t.Fatalf("%s: %v, %v, want %v", what, got, ok, want)
	}
}

// lanesBy returns the list whose lane i is f of i.
func lanesBy(lanes int, f func(i int) int64) []int64 {
	list := make([]int64, lanes)
	for i := range list {
		list[i] = f(i)
	}
	return list
}

func TestIsVector(t *testing.T) {
	forVectors(func(bits int64, a, _ []int64) {
		if !impl.IsVector(bits, a) {
			t.Errorf("IsVector(%d, %v) is false", bits, a)
		}
	})
	for _, bits := range allBits {
		for _, a := range noVectors(bits, 4) {
			if impl.IsVector(bits, a) {
				t.Errorf("IsVector(%d, %v) is true", bits, a)
			}
		}
	}
	for _, bits := range noBits {
		for _, a := range [][]int64{nil, {0}, {0, 0}, {0, 1, 0, 1}} {
			if impl.IsVector(bits, a) {
				t.Errorf("IsVector(%d, %v) is true", bits, a)
			}
		}
	}
}

// noVectors are lists that are no vectors of some bits, those of the given number of lanes among them.
func noVectors(bits int64, lanes int) [][]int64 {
	list := [][]int64{nil}
	for _, n := range noLanes {
		list = append(list, make([]int64, n))
	}
	for _, x := range noWords(bits) {
		for _, place := range []int{0, lanes / 2, lanes - 1} {
			a := make([]int64, lanes)
			a[place] = x
			list = append(list, a)
		}
	}
	return list
}

// noMasks are lists that are no masks, those of the given number of lanes among them.
func noMasks(lanes int) [][]int64 {
	list := [][]int64{nil}
	for _, n := range noLanes {
		list = append(list, make([]int64, n))
	}
	for _, x := range []int64{math.MinInt64, -1, 2, 3, 255, math.MaxInt64} {
		for _, place := range []int{0, lanes - 1} {
			mask := make([]int64, lanes)
			mask[place] = x
			list = append(list, mask)
		}
	}
	return list
}

func TestIsMask(t *testing.T) {
	for _, lanes := range allLanes {
		for _, mask := range masksOf(lanes) {
			if !impl.IsMask(mask) {
				t.Errorf("IsMask(%v) is false", mask)
			}
		}
		for _, mask := range noMasks(lanes) {
			if impl.IsMask(mask) {
				t.Errorf("IsMask(%v) is true", mask)
			}
		}
	}
}

func TestRampLanes(t *testing.T) {
	for _, bits := range allBits {
		for _, lanes := range allLanes {
			for _, from := range edgeWords(bits) {
				for _, by := range edgeWords(bits) {
					want := lanesBy(lanes, func(i int) int64 { return wrapped(bits, from+int64(i)*by) })
					got, ok := impl.RampLanes(bits, int64(lanes), from, by)
					wantList(t, fmt.Sprintf("RampLanes(%d, %d, %d, %d)", bits, lanes, from, by), got, ok, want)
				}
			}
		}
	}
	got, ok := impl.RampLanes(16, 16, 65535, 65535)
	wantList(t, "RampLanes(16, 16, 65535, 65535)", got, ok, []int64{65535, 65534, 65533, 65532, 65531, 65530, 65529, 65528, 65527, 65526, 65525, 65524, 65523, 65522, 65521, 65520})
}

func TestRampLanesFails(t *testing.T) {
	refuse := func(bits, lanes, from, by int64) {
		t.Helper()
		if got, ok := impl.RampLanes(bits, lanes, from, by); ok || len(got) != 0 {
			t.Errorf("RampLanes(%d, %d, %d, %d) = %v, %v", bits, lanes, from, by, got, ok)
		}
	}
	for _, lanes := range noLanes {
		refuse(8, int64(lanes), 1, 1)
	}
	for _, lanes := range []int64{math.MinInt64, -16, -2, -1, powerOf(32) + 2, powerOf(62), math.MaxInt64} {
		refuse(8, lanes, 1, 1)
	}
	for _, bits := range noBits {
		refuse(bits, 4, 1, 1)
	}
	for _, bits := range allBits {
		for _, x := range noWords(bits) {
			refuse(bits, 4, x, 1)
			refuse(bits, 4, 1, x)
		}
	}
}

func TestLaneWise(t *testing.T) {
	forVectors(func(bits int64, a, b []int64) {
		for code := range int64(lastOp + 1) {
			want := lanesBy(len(a), func(i int) int64 { return wantOp(code, bits, a[i], b[i]) })
			got, ok := impl.LaneWise(code, bits, a, b)
			wantList(t, fmt.Sprintf("LaneWise(%s, %d, %v, %v)", opNames[code], bits, a, b), got, ok, want)
		}
	})
}

// TestMaskedLanes holds the functions with a mask against each lane alone, and what they have put away against what comes back.
func TestMaskedLanes(t *testing.T) {
	for _, bits := range allBits {
		for _, lanes := range allLanes {
			list := vectorsOf(bits, lanes)
			for k, mask := range masksOf(lanes) {
				a, b, old := list[k%len(list)], list[(k+1)%len(list)], list[(k+5)%len(list)]
				on := func(i int) bool { return mask[i] == 1 }
				name := fmt.Sprintf("%d bits, mask %v, %v, %v and %v", bits, mask, a, b, old)
				checkChoice(t, name, int64(k)%(lastOp+1), bits, mask, old, a, b, on)
				checkPacked(t, name, bits, mask, a, on)
			}
		}
	}
}

func checkChoice(t *testing.T, name string, code, bits int64, mask, old, a, b []int64, on func(i int) bool) {
	t.Helper()
	got, ok := impl.LaneWiseMasked(code, bits, mask, old, a, b)
	wantList(t, "LaneWiseMasked, "+opNames[code]+", "+name, got, ok, lanesBy(len(a), func(i int) int64 {
		if on(i) {
			return wantOp(code, bits, a[i], b[i])
		}
		return old[i]
	}))
	got, ok = impl.SelectLanes(bits, mask, a, b)
	wantList(t, "SelectLanes, "+name, got, ok, lanesBy(len(a), func(i int) int64 {
		if on(i) {
			return a[i]
		}
		return b[i]
	}))
}

func checkPacked(t *testing.T, name string, bits int64, mask, a []int64, on func(i int) bool) {
	t.Helper()
	var kept []int64
	spread := make([]int64, len(a))
	for i := range a {
		if on(i) {
			spread[i] = a[len(kept)]
			kept = append(kept, a[i])
		}
	}
	packed, ok := impl.CompressLanes(bits, mask, a)
	wantList(t, "CompressLanes, "+name, packed, ok, append(kept, make([]int64, len(a)-len(kept))...))
	got, ok := impl.ExpandLanes(bits, mask, a)
	wantList(t, "ExpandLanes, "+name, got, ok, spread)
	got, ok = impl.ExpandLanes(bits, mask, packed)
	wantList(t, "ExpandLanes of compressed lanes, "+name, got, ok, lanesBy(len(a), func(i int) int64 { return mask[i] * a[i] }))
}

func TestMaskedLanesByHand(t *testing.T) {
	a, b, old := []int64{1, 2, 3, 4}, []int64{15, 15, 15, 15}, []int64{9, 8, 7, 6}
	cases := []struct {
		mask, masked, selected, packed, spread []int64
	}{
		{[]int64{0, 0, 0, 0}, old, b, []int64{0, 0, 0, 0}, []int64{0, 0, 0, 0}},
		{[]int64{0, 0, 1, 0}, []int64{9, 8, 2, 6}, []int64{15, 15, 3, 15}, []int64{3, 0, 0, 0}, []int64{0, 0, 1, 0}},
		{[]int64{0, 1, 0, 1}, []int64{9, 1, 7, 3}, []int64{15, 2, 15, 4}, []int64{2, 4, 0, 0}, []int64{0, 1, 0, 2}},
		{[]int64{1, 1, 1, 1}, []int64{0, 1, 2, 3}, a, a, a},
	}
	for _, c := range cases {
		got, ok := impl.LaneWiseMasked(impl.OpAdd, 4, c.mask, old, a, b)
		wantList(t, fmt.Sprintf("LaneWiseMasked with %v", c.mask), got, ok, c.masked)
		got, ok = impl.SelectLanes(4, c.mask, a, b)
		wantList(t, fmt.Sprintf("SelectLanes with %v", c.mask), got, ok, c.selected)
		got, ok = impl.CompressLanes(4, c.mask, a)
		wantList(t, fmt.Sprintf("CompressLanes with %v", c.mask), got, ok, c.packed)
		got, ok = impl.ExpandLanes(4, c.mask, a)
		wantList(t, fmt.Sprintf("ExpandLanes with %v", c.mask), got, ok, c.spread)
	}
}

func TestCompareLanes(t *testing.T) {
	forVectors(func(bits int64, a, b []int64) {
		for _, other := range [][]int64{a, b} {
			for cmp := range int64(impl.CmpLeS + 1) {
				want := lanesBy(len(a), func(i int) int64 {
					sa, sb := signedValue(bits, a[i]), signedValue(bits, other[i])
					if []bool{a[i] == other[i], a[i] != other[i], a[i] < other[i], a[i] <= other[i], sa < sb, sa <= sb}[cmp] {
						return 1
					}
					return 0
				})
				got, ok := impl.CompareLanes(cmp, bits, a, other)
				wantList(t, fmt.Sprintf("CompareLanes(%d, %d, %v, %v)", cmp, bits, a, other), got, ok, want)
			}
		}
	})
}

func TestCountAndFirst(t *testing.T) {
	for _, lanes := range allLanes {
		for _, mask := range masksOf(lanes) {
			count, first := int64(0), int64(-1)
			for i := lanes - 1; i >= 0; i-- {
				if mask[i] == 1 {
					count, first = count+1, int64(i)
				}
			}
			if got, ok := impl.CountLanes(mask); !ok || got != count {
				t.Fatalf("CountLanes(%v) = %d, %v", mask, got, ok)
			}
			if got, ok := impl.FirstLane(mask); ok != (first >= 0) || got != max(first, 0) {
				t.Fatalf("FirstLane(%v) = %d, %v", mask, got, ok)
			}
		}
	}
}

// halved is the lane i of what is left of a with so many lanes.
func halved(code, bits int64, a []int64, i, lanes int) int64 {
	if lanes == len(a) {
		return a[i]
	}
	return wantOp(code, bits, halved(code, bits, a, i, 2*lanes), halved(code, bits, a, i+lanes, 2*lanes))
}

// stepped is the lane i of a behind all steps with distances up to far.
func stepped(code, bits int64, a []int64, i, far int) int64 {
	if far == 0 {
		return a[i]
	}
	own := stepped(code, bits, a, i, far/2)
	if i < far {
		return own
	}
	return wantOp(code, bits, stepped(code, bits, a, i-far, far/2), own)
}

func TestReduceAndScan(t *testing.T) {
	differ := make([]bool, lastOp+1)
	forVectors(func(bits int64, a, _ []int64) {
		for code := range int64(lastOp + 1) {
			name := fmt.Sprintf("of %s with %d bits and %v", opNames[code], bits, a)
			if got, ok := impl.ReduceLanes(code, bits, a); !ok || got != halved(code, bits, a, 0, 1) {
				t.Fatalf("ReduceLanes %s: %d, %v, want %d", name, got, ok, halved(code, bits, a, 0, 1))
			}
			want := slices.Clone(a)
			for i := 1; i < len(a); i++ {
				want[i] = wantOp(code, bits, want[i-1], a[i])
			}
			scan, ok := impl.ScanLanes(code, bits, a)
			wantList(t, "ScanLanes "+name, scan, ok, want)
			steps, ok := impl.StepScan(code, bits, a)
			wantList(t, "StepScan "+name, steps, ok, lanesBy(len(a), func(i int) int64 { return stepped(code, bits, a, i, len(a)/2) }))
			differ[code] = differ[code] || !slices.Equal(scan, steps)
		}
	})
	for code, other := range differ {
		if other == impl.IsAssociative(int64(code)) {
			t.Errorf("the scans of %s differ: %v", opNames[code], other)
		}
	}
}

func TestReduceAndScanByHand(t *testing.T) {
	cases := []struct {
		op, bits    int64
		a           []int64
		reduced     int64
		scan, steps []int64
	}{
		{impl.OpAdd, 4, []int64{1, 2, 3, 4}, 10, []int64{1, 3, 6, 10}, []int64{1, 3, 6, 10}},
		{impl.OpAdd, 4, []int64{9, 8}, 1, []int64{9, 1}, []int64{9, 1}},
		// (1 - 3) - (2 - 4), 1 - 2 - 3 - 4, and (1 - 2) - (3 - 4).
		{impl.OpSub, 8, []int64{1, 2, 3, 4}, 0, []int64{1, 255, 252, 248}, []int64{1, 255, 2, 0}},
		// (3 - 1) - (8 - 2) and not (8 - 2) - (3 - 1), and so for the others.
		{impl.OpSub, 16, []int64{3, 8, 1, 2}, 65532, []int64{3, 65531, 65530, 65528}, []int64{3, 65531, 65532, 65532}},
		{impl.OpSub, 4, []int64{2, 5}, 13, []int64{2, 13}, []int64{2, 13}},
		// The means of neighbours are 5, 5 and 0, those of 0 and 5, and of 5 and 0, are 3.
		{impl.OpAvg, 8, []int64{0, 9, 0, 0}, 3, []int64{0, 5, 3, 2}, []int64{0, 5, 3, 3}},
		// 100 + 100 stays at 127, from where -100 leads to 27.
		{impl.OpAddSatS, 8, []int64{100, 100, 156, 0}, 100, []int64{100, 127, 27, 27}, []int64{100, 127, 100, 27}},
		{impl.OpShl, 8, []int64{1, 1, 2, 1}, 16, []int64{1, 2, 8, 16}, []int64{1, 2, 16, 32}},
		{impl.OpMaxS, 8, []int64{128, 255, 3, 127}, 127, []int64{128, 255, 3, 127}, []int64{128, 255, 3, 127}},
	}
	for _, c := range cases {
		name := fmt.Sprintf("of %s with %v", opNames[c.op], c.a)
		if got, ok := impl.ReduceLanes(c.op, c.bits, c.a); !ok || got != c.reduced {
			t.Errorf("ReduceLanes %s: %d, %v, want %d", name, got, ok, c.reduced)
		}
		got, ok := impl.ScanLanes(c.op, c.bits, c.a)
		wantList(t, "ScanLanes "+name, got, ok, c.scan)
		got, ok = impl.StepScan(c.op, c.bits, c.a)
		wantList(t, "StepScan "+name, got, ok, c.steps)
	}
}

func TestSlideLanes(t *testing.T) {
	forVectors(func(bits int64, a, b []int64) {
		for by := range len(a) + 1 {
			want := append(slices.Clone(a[by:]), b[:by]...)
			got, ok := impl.SlideLanes(bits, a, b, int64(by))
			wantList(t, fmt.Sprintf("SlideLanes(%d, %v, %v, %d)", bits, a, b, by), got, ok, want)
		}
		for _, by := range []int64{math.MinInt64, -1, int64(len(a)) + 1, 2 * int64(len(a)), powerOf(32), math.MaxInt64} {
			if got, ok := impl.SlideLanes(bits, a, b, by); ok || len(got) != 0 {
				t.Fatalf("SlideLanes by %d of %d lanes: %v, %v", by, len(a), got, ok)
			}
		}
	})
}

func TestInterleaveLanes(t *testing.T) {
	forVectors(func(bits int64, a, b []int64) {
		name := fmt.Sprintf("(%d, %v, %v)", bits, a, b)
		var turns, evens, odds []int64
		for i := range a {
			turns = append(turns, a[i], b[i])
		}
		for i, x := range append(slices.Clone(a), b...) {
			if i%2 == 0 {
				evens = append(evens, x)
			} else {
				odds = append(odds, x)
			}
		}
		low, high, ok := impl.InterleaveLanes(bits, a, b)
		wantList(t, "first half, InterleaveLanes"+name, low, ok, turns[:len(a)])
		wantList(t, "second half, InterleaveLanes"+name, high, ok, turns[len(a):])
		even, odd, ok := impl.DeinterleaveLanes(bits, a, b)
		wantList(t, "even lanes, DeinterleaveLanes"+name, even, ok, evens)
		wantList(t, "odd lanes, DeinterleaveLanes"+name, odd, ok, odds)
		first, second, ok := impl.DeinterleaveLanes(bits, low, high)
		wantList(t, "a back from InterleaveLanes"+name, first, ok, a)
		wantList(t, "b back from InterleaveLanes"+name, second, ok, b)
		first, second, ok = impl.InterleaveLanes(bits, even, odd)
		wantList(t, "a back from DeinterleaveLanes"+name, first, ok, a)
		wantList(t, "b back from DeinterleaveLanes"+name, second, ok, b)
	})
}

func TestWidenLanes(t *testing.T) {
	forVectors(func(bits int64, a, _ []int64) {
		for _, signed := range []bool{false, true} {
			name := fmt.Sprintf("WidenLanes(%d, %v, %v)", bits, a, signed)
			low, high, ok := impl.WidenLanes(bits, a, signed)
			if bits == 16 || len(a) == 2 {
				if ok || len(low)+len(high) != 0 {
					t.Fatalf("%s: %v, %v, %v", name, low, high, ok)
				}
				continue
			}
			want, half := slices.Clone(a), len(a)/2
			if signed {
				want = lanesBy(len(a), func(i int) int64 { return wrapped(2*bits, signedValue(bits, a[i])) })
			}
			wantList(t, name+" first half", low, ok, want[:half])
			wantList(t, name+" second half", high, ok, want[half:])
			kept := int64(impl.NarrowUnsigned)
			if signed {
				kept = impl.NarrowSigned
			}
			for _, mode := range []int64{impl.NarrowCut, kept} {
				back, ok := impl.NarrowLanes(2*bits, low, high, mode)
				wantList(t, fmt.Sprintf("%s back with mode %d", name, mode), back, ok, a)
			}
		}
	})
}

func TestWidenLanesByHand(t *testing.T) {
	cases := []struct {
		bits      int64
		a         []int64
		signed    bool
		low, high []int64
	}{
		{4, []int64{0, 7, 8, 15}, false, []int64{0, 7}, []int64{8, 15}},
		{4, []int64{0, 7, 8, 15}, true, []int64{0, 7}, []int64{248, 255}},
		{8, []int64{127, 128, 255, 1}, false, []int64{127, 128}, []int64{255, 1}},
		{8, []int64{127, 128, 255, 1}, true, []int64{127, 65408}, []int64{65535, 1}},
	}
	for _, c := range cases {
		low, high, ok := impl.WidenLanes(c.bits, c.a, c.signed)
		wantList(t, fmt.Sprintf("first half of %v", c.a), low, ok, c.low)
		wantList(t, fmt.Sprintf("second half of %v", c.a), high, ok, c.high)
	}
}

// nearest is the narrow word by trial: of the words of half as many bits, the one with the value that is nearest to that of x.
func nearest(bits, x int64, value func(bits, x int64) int64) int64 {
	best := int64(0)
	distance := func(word int64) int64 {
		return max(value(bits, x)-value(bits/2, word), value(bits/2, word)-value(bits, x))
	}
	for word := range powerOf(bits / 2) {
		if distance(word) < distance(best) {
			best = word
		}
	}
	return best
}

func TestNarrowLanes(t *testing.T) {
	plain := func(_, x int64) int64 { return x }
	forVectors(func(bits int64, a, b []int64) {
		for mode := range int64(impl.NarrowSigned + 1) {
			name := fmt.Sprintf("NarrowLanes(%d, %v, %v, %d)", bits, a, b, mode)
			got, ok := impl.NarrowLanes(bits, a, b, mode)
			if bits == 4 || len(a) == 16 {
				if ok || len(got) != 0 {
					t.Fatalf("%s: %v, %v", name, got, ok)
				}
				continue
			}
			want := append(slices.Clone(a), b...)
			for i, x := range want {
				want[i] = []int64{wrapped(bits/2, x), nearest(bits, x, plain), nearest(bits, x, signedValue)}[mode]
			}
			wantList(t, name, got, ok, want)
		}
	})
}

func TestNarrowLanesByHand(t *testing.T) {
	cases := []struct {
		bits, mode      int64
		low, high, want []int64
	}{
		{8, impl.NarrowCut, []int64{0, 15, 16, 17}, []int64{127, 128, 240, 255}, []int64{0, 15, 0, 1, 15, 0, 0, 15}},
		{8, impl.NarrowUnsigned, []int64{0, 15, 16, 17}, []int64{127, 128, 240, 255}, []int64{0, 15, 15, 15, 15, 15, 15, 15}},
		{8, impl.NarrowSigned, []int64{6, 7, 8, 127}, []int64{128, 247, 248, 249}, []int64{6, 7, 7, 7, 8, 8, 8, 9}},
		{16, impl.NarrowCut, []int64{255, 256}, []int64{257, 65535}, []int64{255, 0, 1, 255}},
		{16, impl.NarrowUnsigned, []int64{254, 255}, []int64{256, 65535}, []int64{254, 255, 255, 255}},
		{16, impl.NarrowSigned, []int64{127, 128, 32767, 32768}, []int64{65407, 65408, 65409, 65535}, []int64{127, 127, 127, 128, 128, 128, 129, 255}},
	}
	for _, c := range cases {
		got, ok := impl.NarrowLanes(c.bits, c.low, c.high, c.mode)
		wantList(t, fmt.Sprintf("NarrowLanes(%d, %v, %v, %d)", c.bits, c.low, c.high, c.mode), got, ok, c.want)
	}
}

func TestConflictsOf(t *testing.T) {
	cases := []struct{ a, want []int64 }{
		{[]int64{5, 5, 1, 5}, []int64{0, 1, 0, 3}},
		{[]int64{0, 65535}, []int64{0, 0}},
		{[]int64{65535, 65535}, []int64{0, 1}},
		{[]int64{0, 65535, 65535, 0}, []int64{0, 0, 2, 1}},
		{[]int64{0, 1, 2, 3, 3, 2, 1, 0}, []int64{0, 0, 0, 0, 8, 4, 2, 1}},
		{make([]int64, 16), []int64{0, 1, 3, 7, 15, 31, 63, 127, 255, 511, 1023, 2047, 4095, 8191, 16383, 32767}},
	}
	for _, c := range cases {
		got, ok := impl.ConflictsOf(c.a)
		wantList(t, fmt.Sprintf("ConflictsOf(%v)", c.a), got, ok, c.want)
	}
	for _, bits := range allBits {
		for _, lanes := range allLanes {
			for _, a := range vectorsOf(bits, lanes) {
				want := make([]int64, lanes)
				for i := range a {
					for k := range i {
						if a[k] == a[i] {
							want[i] += powerOf(int64(k))
						}
					}
				}
				got, ok := impl.ConflictsOf(a)
				wantList(t, fmt.Sprintf("ConflictsOf(%v)", a), got, ok, want)
			}
		}
	}
	for _, a := range noVectors(16, 4) {
		if got, ok := impl.ConflictsOf(a); ok || len(got) != 0 {
			t.Errorf("ConflictsOf(%v) = %v, %v", a, got, ok)
		}
	}
}

// vectorArgs are arguments for each of the functions below, which take those that they have.
type vectorArgs struct {
	op, cmp, mode, bits, by int64
	mask                    []int64
	vectors                 [3][]int64
}

// vectorCall is a function of the chapter: whether it has bits, an operation, a comparison, a mask, and how many vectors.
type vectorCall struct {
	name                string
	bits, op, cmp, mask bool
	vectors             int
	run                 func(x vectorArgs) ([][]int64, int64, bool)
}

func oneList(list []int64, ok bool) ([][]int64, int64, bool) { return [][]int64{list}, 0, ok }

func oneNumber(n int64, ok bool) ([][]int64, int64, bool) { return nil, n, ok }

func twoLists(first, second []int64, ok bool) ([][]int64, int64, bool) {
	return [][]int64{first, second}, 0, ok
}

// The arguments fit all of these functions if there are 4 or 8 lanes of 8 bits.
var vectorCalls = []vectorCall{
	{"LaneWise", true, true, false, false, 2, func(x vectorArgs) ([][]int64, int64, bool) {
		return oneList(impl.LaneWise(x.op, x.bits, x.vectors[0], x.vectors[1]))
	}},
	{"LaneWiseMasked", true, true, false, true, 3, func(x vectorArgs) ([][]int64, int64, bool) {
		return oneList(impl.LaneWiseMasked(x.op, x.bits, x.mask, x.vectors[2], x.vectors[0], x.vectors[1]))
	}},
	{"CompareLanes", true, false, true, false, 2, func(x vectorArgs) ([][]int64, int64, bool) {
		return oneList(impl.CompareLanes(x.cmp, x.bits, x.vectors[0], x.vectors[1]))
	}},
	{"SelectLanes", true, false, false, true, 2, func(x vectorArgs) ([][]int64, int64, bool) {
		return oneList(impl.SelectLanes(x.bits, x.mask, x.vectors[0], x.vectors[1]))
	}},
	{"CountLanes", false, false, false, true, 0, func(x vectorArgs) ([][]int64, int64, bool) {
		return oneNumber(impl.CountLanes(x.mask))
	}},
	{"FirstLane", false, false, false, true, 0, func(x vectorArgs) ([][]int64, int64, bool) {
		return oneNumber(impl.FirstLane(x.mask))
	}},
	{"ReduceLanes", true, true, false, false, 1, func(x vectorArgs) ([][]int64, int64, bool) {
		return oneNumber(impl.ReduceLanes(x.op, x.bits, x.vectors[0]))
	}},
	{"ScanLanes", true, true, false, false, 1, func(x vectorArgs) ([][]int64, int64, bool) {
		return oneList(impl.ScanLanes(x.op, x.bits, x.vectors[0]))
	}},
	{"StepScan", true, true, false, false, 1, func(x vectorArgs) ([][]int64, int64, bool) {
		return oneList(impl.StepScan(x.op, x.bits, x.vectors[0]))
	}},
	{"CompressLanes", true, false, false, true, 1, func(x vectorArgs) ([][]int64, int64, bool) {
		return oneList(impl.CompressLanes(x.bits, x.mask, x.vectors[0]))
	}},
	{"ExpandLanes", true, false, false, true, 1, func(x vectorArgs) ([][]int64, int64, bool) {
		return oneList(impl.ExpandLanes(x.bits, x.mask, x.vectors[0]))
	}},
	{"SlideLanes", true, false, false, false, 2, func(x vectorArgs) ([][]int64, int64, bool) {
		return oneList(impl.SlideLanes(x.bits, x.vectors[0], x.vectors[1], x.by))
	}},
	{"InterleaveLanes", true, false, false, false, 2, func(x vectorArgs) ([][]int64, int64, bool) {
		return twoLists(impl.InterleaveLanes(x.bits, x.vectors[0], x.vectors[1]))
	}},
	{"DeinterleaveLanes", true, false, false, false, 2, func(x vectorArgs) ([][]int64, int64, bool) {
		return twoLists(impl.DeinterleaveLanes(x.bits, x.vectors[0], x.vectors[1]))
	}},
	{"WidenLanes", true, false, false, false, 1, func(x vectorArgs) ([][]int64, int64, bool) {
		return twoLists(impl.WidenLanes(x.bits, x.vectors[0], false))
	}},
	{"WidenLanes of signed words", true, false, false, false, 1, func(x vectorArgs) ([][]int64, int64, bool) {
		return twoLists(impl.WidenLanes(x.bits, x.vectors[0], true))
	}},
	{"NarrowLanes", true, false, false, false, 2, func(x vectorArgs) ([][]int64, int64, bool) {
		return oneList(impl.NarrowLanes(x.bits, x.vectors[0], x.vectors[1], x.mode))
	}},
	{"ConflictsOf", false, false, false, false, 1, func(x vectorArgs) ([][]int64, int64, bool) {
		return oneList(impl.ConflictsOf(x.vectors[0]))
	}},
	{"RampLanes", true, false, false, false, 0, func(x vectorArgs) ([][]int64, int64, bool) {
		return oneList(impl.RampLanes(x.bits, 8, x.by, x.by))
	}},
}

func fittingArgs(lanes int) vectorArgs {
	x := vectorArgs{bits: 8, by: 1, mask: lanesBy(lanes, func(i int) int64 { return int64(i) % 2 })}
	for k := range x.vectors {
		x.vectors[k] = lanesBy(lanes, func(i int) int64 { return int64(100*k + i) })
	}
	return x
}

// TestVectorsFail changes one argument after another of calls that succeed, so that nothing else can be why they fail.
func TestVectorsFail(t *testing.T) {
	for _, c := range vectorCalls {
		for _, lanes := range []int{4, 8} {
			fine := fittingArgs(lanes)
			if _, _, ok := c.run(fine); !ok {
				t.Fatalf("%s of %d lanes fails", c.name, lanes)
			}
			refuse := func(why string, x vectorArgs) {
				t.Helper()
				lists, number, ok := c.run(x)
				if ok || number != 0 || slices.ContainsFunc(lists, func(list []int64) bool { return len(list) > 0 }) {
					t.Errorf("%s with %s: %v, %d, %v", c.name, why, lists, number, ok)
				}
			}
			refuseCodes(c, fine, refuse)
			refuseLists(c, fine, lanes, refuse)
		}
	}
}

func refuseCodes(c vectorCall, fine vectorArgs, refuse func(why string, x vectorArgs)) {
	with := func(has bool, what string, wrong []int64, set func(x *vectorArgs, n int64)) {
		for _, n := range wrong {
			x := fine
			// Words of few bits, and a mask with no lane on, must not hide what is wrong.
			for k := range x.vectors {
				x.vectors[k] = make([]int64, len(fine.mask))
			}
			for _, mask := range [][]int64{fine.mask, make([]int64, len(fine.mask))} {
				x.mask = mask
				set(&x, n)
				if has {
					refuse(fmt.Sprintf("%s %d", what, n), x)
				}
			}
		}
	}
	with(c.bits, "bits", noBits, func(x *vectorArgs, n int64) { x.bits = n })
	with(c.op, "operation", noOps, func(x *vectorArgs, n int64) { x.op = n })
	with(c.cmp, "comparison", noCmps, func(x *vectorArgs, n int64) { x.cmp = n })
	with(c.name == "NarrowLanes", "mode", noModes, func(x *vectorArgs, n int64) { x.mode = n })
}

func refuseLists(c vectorCall, fine vectorArgs, lanes int, refuse func(why string, x vectorArgs)) {
	wrong, many := noVectors(fine.bits, lanes), c.vectors
	if c.mask {
		many++
	}
	if !c.bits {
		// ConflictsOf takes the words of all bits.
		wrong = noVectors(16, lanes)
	}
	if many > 1 {
		for _, other := range allLanes {
			if other != lanes {
				wrong = append(wrong, make([]int64, other))
			}
		}
	}
	for k := range c.vectors {
		for _, list := range wrong {
			x := fine
			x.vectors[k] = list
			refuse(fmt.Sprintf("vector %d %v", k, list), x)
		}
	}
	if c.mask {
		for _, list := range noMasks(lanes) {
			x := fine
			x.mask = list
			refuse(fmt.Sprintf("mask %v", list), x)
		}
	}
	for _, n := range noLanes {
		x := fine
		x.mask = make([]int64, n)
		for k := range x.vectors {
			x.vectors[k] = make([]int64, n)
		}
		if n > 0 {
			x.mask[0] = 1
		}
		if many > 0 {
			refuse(fmt.Sprintf("%d lanes in all lists", n), x)
		}
	}
}

// roomy returns a list with unused capacity, and all of its memory.
func roomy(list []int64) ([]int64, []int64) {
	all := append(append(make([]int64, 0, len(list)+40), list...), slices.Repeat([]int64{99}, 40)...)
	return all[:len(list)], all
}

// TestVectorsStayEqual is promise 1 for this chapter: no call changes an argument, and no result shares memory with an argument or another result.
func TestVectorsStayEqual(t *testing.T) {
	for _, c := range vectorCalls {
		for _, lanes := range []int{4, 8} {
			for _, code := range []int64{impl.OpAdd, impl.OpShrS} {
				x := fittingArgs(lanes)
				x.op = code
				kept := make([][]int64, 4)
				x.mask, kept[3] = roomy(x.mask)
				for k := range x.vectors {
					x.vectors[k], kept[k] = roomy(x.vectors[k])
				}
				before := fmt.Sprint(kept)
				first, number, ok := c.run(x)
				want := fmt.Sprint(first)
				second, again, fine := c.run(x)
				if !ok || !fine || number != again || fmt.Sprint(second) != want {
					t.Fatalf("%s returns %v, %d, %v and then %v, %d, %v", c.name, first, number, ok, second, again, fine)
				}
				for _, list := range first {
					overwrite(list)
				}
				third, _, _ := c.run(x)
				if fmt.Sprint(second) != want || fmt.Sprint(third) != want {
					t.Errorf("%s: results share memory: %v and %v, want %s", c.name, second, third, want)
				}
				checkApart(t, c.name, second)
				if after := fmt.Sprint(kept); after != before {
					t.Errorf("%s changes its arguments from %s to %s", c.name, before, after)
				}
			}
		}
	}
}

// overwrite changes a list and its unused capacity.
func overwrite(list []int64) {
	list = list[:cap(list)]
	for i := range list {
		list[i] = -7
	}
}

func checkApart(t *testing.T, name string, lists [][]int64) {
	t.Helper()
	for i, list := range lists {
		var others []string
		for k, other := range lists {
			if k != i {
				others = append(others, fmt.Sprint(other))
			}
		}
		saved := slices.Clone(list)
		overwrite(list)
		for k, other := range lists {
			if k != i && !slices.Contains(others, fmt.Sprint(other)) {
				t.Errorf("%s: its result %d changes with its result %d", name, k, i)
			}
		}
		copy(list, saved)
	}
}

func TestVectorConstants(t *testing.T) {
	got := []int64{impl.MaxLanes, impl.NarrowCut, impl.NarrowUnsigned, impl.NarrowSigned}
	if want := []int64{16, 0, 1, 2}; !slices.Equal(got, want) {
		t.Errorf("the constants are %v, want %v", got, want)
	}
}
