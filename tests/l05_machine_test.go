package tests

import (
	"fmt"
	"math"
	"reflect"
	"slices"
	"strings"
	"testing"

	"loop.example/g01139/impl"
)

const (
	kinds    = impl.KindCount + 1
	noMask   = -1
	allOn    = 0
	someOn   = 1
	noneOn   = 2
	oneOn    = 3
	lastCell = impl.MaxMemory - 1
)

var kindNames = []string{"load", "store", "gather", "scatter", "op", "cmp", "select", "shuffle", "fill", "steps", "reduce", "masks", "compress", "expand", "count"}

// allMachines are all that there are.
func allMachines() []impl.Machine {
	var list []impl.Machine
	for _, lanes := range allLanes {
		for _, bits := range allBits {
			list = append(list, impl.Machine{Lanes: int64(lanes), Bits: bits})
		}
	}
	return list
}

func noMachines() []impl.Machine {
	list := []impl.Machine{{}, {Lanes: 8}, {Bits: 8}, {Lanes: 3, Bits: 5}}
	for _, lanes := range noLanes {
		list = append(list, impl.Machine{Lanes: int64(lanes), Bits: 8})
	}
	for _, lanes := range []int64{math.MinInt64, -16, -2, -1, powerOf(32) + 2, powerOf(62), math.MaxInt64} {
		list = append(list, impl.Machine{Lanes: lanes, Bits: 4})
	}
	for _, bits := range noBits {
		list = append(list, impl.Machine{Lanes: 4, Bits: bits})
	}
	return list
}

// someState has a mask with all lanes on, one with some of them, one with none and one with a single one. Its first vectors have words that are lanes, so that they lead to places; the others have edges and words without any pattern.
func someState(m impl.Machine, seed int64) impl.State {
	roll, edges := dice(seed), edgeWords(m.Bits)
	lanes := int(m.Lanes)
	word := func(v int) int64 {
		switch {
		case v < 4:
			return roll.below(min(m.Lanes, 8))
		case v < 6:
			return edges[roll.below(int64(len(edges)))]
		}
		return roll.below(powerOf(m.Bits))
	}
	var s impl.State
	for v := range impl.MaxVectors {
		s.Vectors = append(s.Vectors, lanesBy(lanes, func(int) int64 { return word(v) }))
	}
	single, off, on := int(roll.below(m.Lanes)), int(roll.below(m.Lanes)), roll.below(2)
	some := lanesBy(lanes, func(int) int64 { return roll.below(2) })
	// One lane is on and another one off, whatever has been rolled for the rest.
	some[off], some[(off+1)%lanes] = on, 1-on
	s.Masks = [][]int64{
		allOn: lanesBy(lanes, func(int) int64 { return 1 }), someOn: some, noneOn: make([]int64, lanes),
		oneOn: lanesBy(lanes, func(i int) int64 {
			if i == single {
				return 1
			}
			return 0
		}),
	}
	s.Memory = lanesBy(impl.MaxMemory, func(int) int64 { return word(7) })
	return s
}

func copied(s impl.State) impl.State {
	clone := impl.State{Memory: slices.Clone(s.Memory)}
	for _, v := range s.Vectors {
		clone.Vectors = append(clone.Vectors, slices.Clone(v))
	}
	for _, w := range s.Masks {
		clone.Masks = append(clone.Masks, slices.Clone(w))
	}
	return clone
}

func isNoState(s impl.State) bool { return len(s.Vectors)+len(s.Masks)+len(s.Memory) == 0 }

func isNoInstr(x impl.Instr) bool {
	return x.Kind == 0 && x.D == 0 && x.A == 0 && x.B == 0 && x.M == 0 && x.I == 0 && len(x.Table) == 0
}

// limitsOf has the least and the greatest number of the fields D, A, B, M and I of each kind.
func limitsOf(m impl.Machine) [kinds][5][2]int64 {
	vector, mask, masked, all, none := [2]int64{0, 7}, [2]int64{0, 3}, [2]int64{-1, 3}, [2]int64{-1, -1}, [2]int64{0, 0}
	place, stride, code, word := [2]int64{0, 63}, [2]int64{1, 8}, [2]int64{0, 17}, [2]int64{0, powerOf(m.Bits) - 1}
	return [kinds][5][2]int64{
		impl.KindLoad:     {vector, none, stride, masked, place},
		impl.KindStore:    {none, vector, stride, masked, place},
		impl.KindGather:   {vector, vector, none, masked, place},
		impl.KindScatter:  {none, vector, vector, masked, place},
		impl.KindOp:       {vector, vector, vector, masked, code},
		impl.KindCmp:      {mask, vector, vector, masked, {0, 5}},
		impl.KindSelect:   {vector, vector, vector, mask, none},
		impl.KindShuffle:  {vector, vector, vector, masked, none},
		impl.KindFill:     {vector, none, none, masked, word},
		impl.KindSteps:    {vector, none, {0, 8}, masked, word},
		impl.KindReduce:   {vector, vector, none, masked, code},
		impl.KindMasks:    {mask, mask, mask, all, {0, 3}},
		impl.KindCompress: {vector, vector, none, masked, none},
		impl.KindExpand:   {vector, vector, none, masked, none},
		impl.KindCount:    {vector, mask, none, all, none},
	}
}

func fieldsOf(x *impl.Instr) [5]*int64 { return [5]*int64{&x.D, &x.A, &x.B, &x.M, &x.I} }

// someInstr is a valid instruction of a kind. Its vectors and masks are few or all of them, and its table has numbers on both sides of Lanes, or on one of them.
func someInstr(m impl.Machine, kind int64, roll *dice) impl.Instr {
	x := impl.Instr{Kind: kind}
	few := roll.below(2) == 0
	for k, limits := range limitsOf(m)[kind] {
		low, count := limits[0], limits[1]-limits[0]+1
		if few && k < 3 && kind != impl.KindSteps {
			count = min(count, 2)
		}
		*fieldsOf(&x)[k] = low + roll.below(count)
	}
	if kind <= impl.KindScatter {
		// Most places behind one of the first ones exist, and few behind one of the last ones.
		x.I = []int64{roll.below(8), lastCell - roll.below(8), x.I}[roll.below(3)]
	}
	if kind == impl.KindShuffle {
		from, count := [3]int64{0, 0, m.Lanes}[roll.below(3)], m.Lanes
		if from == 0 && roll.below(2) == 0 {
			count *= 2
		}
		x.Table = lanesBy(int(m.Lanes), func(int) int64 { return from + roll.below(count) })
	}
	return x
}

// withMask is x with another M, if its kind allows it.
func withMask(m impl.Machine, x impl.Instr, mask int64) (impl.Instr, bool) {
	limits := limitsOf(m)[x.Kind][3]
	x.M = mask
	return x, limits[0] <= mask && mask <= limits[1]
}

func wantCmp(cmp, bits, a, b int64) int64 {
	sa, sb := signedValue(bits, a), signedValue(bits, b)
	if []bool{a == b, a != b, a < b, a <= b, sa < sb, sa <= sb}[cmp] {
		return 1
	}
	return 0
}

// onIn are the lanes that are on for a mask of a state, or all lanes.
func onIn(m impl.Machine, s impl.State, mask int64) []int64 {
	return slices.DeleteFunc(identity(int(m.Lanes)), func(k int64) bool { return mask >= 0 && s.Masks[mask][k] == 0 })
}

// behind is the table of the document, row by row: what is read is read in s, and what is written is written in a copy of it.
func behind(m impl.Machine, s impl.State, x impl.Instr) (impl.State, bool) {
	next, on, exists := copied(s), onIn(m, s, x.M), true
	place := func(p int64) int64 {
		if p > lastCell {
			exists = false
			return 0
		}
		return p
	}
	for _, k := range on {
		switch x.Kind {
		case impl.KindLoad:
			next.Vectors[x.D][k] = s.Memory[place(x.I+k*x.B)]
		case impl.KindStore:
			next.Memory[place(x.I+k*x.B)] = s.Vectors[x.A][k]
		case impl.KindGather:
			next.Vectors[x.D][k] = s.Memory[place(x.I+s.Vectors[x.A][k])]
		case impl.KindScatter:
			next.Memory[place(x.I+s.Vectors[x.B][k])] = s.Vectors[x.A][k]
		case impl.KindOp:
			next.Vectors[x.D][k] = wantOp(x.I, m.Bits, s.Vectors[x.A][k], s.Vectors[x.B][k])
		case impl.KindShuffle:
			next.Vectors[x.D][k] = slices.Concat(s.Vectors[x.A], s.Vectors[x.B])[x.Table[k]]
		case impl.KindFill:
			next.Vectors[x.D][k] = x.I
		case impl.KindSteps:
			next.Vectors[x.D][k] = wrapped(m.Bits, x.I+k*x.B)
		}
	}
	if !exists {
		return impl.State{}, false
	}
	behindAsWhole(m, s, next, x, on)
	return next, true
}

// behindAsWhole does the kinds in which a lane depends on other lanes, or lanes that are off change.
func behindAsWhole(m impl.Machine, s, next impl.State, x impl.Instr, on []int64) {
	for j := range m.Lanes {
		isOn := slices.Contains(on, j)
		switch x.Kind {
		case impl.KindCmp:
			next.Masks[x.D][j] = 0
			if isOn {
				next.Masks[x.D][j] = wantCmp(x.I, m.Bits, s.Vectors[x.A][j], s.Vectors[x.B][j])
			}
		case impl.KindSelect:
			next.Vectors[x.D][j] = s.Vectors[x.B][j]
			if isOn {
				next.Vectors[x.D][j] = s.Vectors[x.A][j]
			}
		case impl.KindReduce:
			for n, k := range on {
				if n == 0 {
					next.Vectors[x.D][j] = s.Vectors[x.A][k]
				} else {
					next.Vectors[x.D][j] = wantOp(x.I, m.Bits, next.Vectors[x.D][j], s.Vectors[x.A][k])
				}
			}
		case impl.KindMasks:
			both := 2*s.Masks[x.A][j] + s.Masks[x.B][j]
			next.Masks[x.D][j] = [4][4]int64{{3: 1}, {1: 1, 2: 1, 3: 1}, {1: 1, 2: 1}, {2: 1}}[x.I][both]
		case impl.KindCompress:
			if j < int64(len(on)) {
				next.Vectors[x.D][j] = s.Vectors[x.A][on[j]]
			}
		case impl.KindExpand:
			if n := slices.Index(on, j); n >= 0 {
				next.Vectors[x.D][j] = s.Vectors[x.A][n]
			}
		case impl.KindCount:
			sum := int64(0)
			for _, one := range s.Masks[x.A] {
				sum += one
			}
			next.Vectors[x.D][j] = wrapped(m.Bits, sum)
		}
	}
}

func wantState(t *testing.T, what string, got impl.State, ok bool, want impl.State, exists bool) {
	t.Helper()
	if ok != exists || exists && !reflect.DeepEqual(got, want) || !exists && !isNoState(got) {
		t.Fatalf("%s: %v, %v, want %v, %v", what, got, ok, want, exists)
	}
}

func step(t *testing.T, m impl.Machine, s impl.State, x impl.Instr) impl.State {
	t.Helper()
	next, ok := impl.StepMachine(m, s, x)
	if !ok {
		t.Fatalf("StepMachine(%v, %v, %v) fails", m, s, x)
	}
	return next
}

func TestValidMachine(t *testing.T) {
	for _, m := range allMachines() {
		if !impl.ValidMachine(m) {
			t.Errorf("ValidMachine(%v) is false", m)
		}
	}
	for _, m := range noMachines() {
		if impl.ValidMachine(m) {
			t.Errorf("ValidMachine(%v) is true", m)
		}
	}
}

// noMemories are lists that are no memory of a machine.
func noMemories(m impl.Machine) [][]int64 {
	list := [][]int64{nil, {0}, make([]int64, impl.MaxMemory-1), make([]int64, impl.MaxMemory+1), make([]int64, m.Lanes), make([]int64, 1000)}
	for _, x := range noWords(m.Bits) {
		for _, place := range []int{0, 31, lastCell} {
			memory := make([]int64, impl.MaxMemory)
			memory[place] = x
			list = append(list, memory)
		}
	}
	return list
}

// noStates are states of which one list, or the number of the lists, is wrong.
func noStates(m impl.Machine) []impl.State {
	fine, list := someState(m, 3), []impl.State{{}}
	change := func(f func(s *impl.State)) {
		s := copied(fine)
		f(&s)
		list = append(list, s)
	}
	for _, memory := range noMemories(m) {
		change(func(s *impl.State) { s.Memory = memory })
	}
	change(func(s *impl.State) { s.Vectors = nil })
	change(func(s *impl.State) { s.Vectors = s.Vectors[1:] })
	change(func(s *impl.State) { s.Vectors = append(s.Vectors, slices.Clone(s.Vectors[0])) })
	change(func(s *impl.State) { s.Masks = nil })
	change(func(s *impl.State) { s.Masks = s.Masks[1:] })
	change(func(s *impl.State) { s.Masks = append(s.Masks, slices.Clone(s.Masks[0])) })
	change(func(s *impl.State) { s.Vectors, s.Masks = s.Masks, s.Vectors })
	var others [][]int64
	for _, lanes := range allLanes {
		if int64(lanes) != m.Lanes {
			others = append(others, make([]int64, lanes))
		}
	}
	for _, v := range slices.Concat(noVectors(m.Bits, int(m.Lanes)), others) {
		for _, place := range []int{0, 4, impl.MaxVectors - 1} {
			change(func(s *impl.State) { s.Vectors[place] = v })
		}
	}
	for _, w := range slices.Concat(noMasks(int(m.Lanes)), others) {
		for _, place := range []int{0, impl.MaxMasks - 1} {
			change(func(s *impl.State) { s.Masks[place] = w })
		}
	}
	return list
}

func TestValidState(t *testing.T) {
	for _, m := range allMachines() {
		for seed := range int64(5) {
			if s := someState(m, seed); !impl.ValidState(m, s) {
				t.Errorf("ValidState(%v, %v) is false", m, s)
			}
		}
		greatest := someState(m, 1)
		for _, list := range append(slices.Clone(greatest.Vectors), greatest.Memory) {
			for i := range list {
				list[i] = powerOf(m.Bits) - 1
			}
		}
		if !impl.ValidState(m, greatest) {
			t.Errorf("ValidState(%v, %v) is false", m, greatest)
		}
		for _, s := range noStates(m) {
			if impl.ValidState(m, s) {
				t.Errorf("ValidState(%v, %v) is true", m, s)
			}
		}
		for _, other := range allMachines() {
			s := someState(other, 1)
			s.Vectors[7][0], s.Memory[5] = powerOf(other.Bits)-1, powerOf(other.Bits)-1
			if want := other.Lanes == m.Lanes && other.Bits <= m.Bits; impl.ValidState(m, s) != want {
				t.Errorf("ValidState(%v, %v) is not %v", m, s, want)
			}
		}
	}
}

// zeroState has zeros in lists of the numbers of lanes that a machine asks for, if they are not unreasonable.
func zeroState(m impl.Machine) impl.State {
	lanes := int(bounded(m.Lanes, 0, 64))
	s := impl.State{Memory: make([]int64, impl.MaxMemory)}
	for range impl.MaxVectors {
		s.Vectors = append(s.Vectors, make([]int64, lanes))
	}
	for range impl.MaxMasks {
		s.Masks = append(s.Masks, make([]int64, lanes))
	}
	return s
}

func TestNewState(t *testing.T) {
	for _, m := range allMachines() {
		want := zeroState(m)
		want.Memory = someState(m, 9).Memory
		got, ok := impl.NewState(m, want.Memory)
		wantState(t, fmt.Sprintf("NewState(%v, %v)", m, want.Memory), got, ok, want, true)
		for _, memory := range noMemories(m) {
			if s, ok := impl.NewState(m, memory); ok || !isNoState(s) {
				t.Errorf("NewState(%v, %v) = %v, %v", m, memory, s, ok)
			}
		}
	}
}

// TestNoMachine gives all functions machines that do not exist, with zeros for everything else, which are fine for any machine.
func TestNoMachine(t *testing.T) {
	for _, m := range noMachines() {
		s := zeroState(m)
		if impl.ValidState(m, s) || impl.ValidProgram(m, nil) {
			t.Errorf("%v has states or programs", m)
		}
		if got, ok := impl.NewState(m, s.Memory); ok || !isNoState(got) {
			t.Errorf("NewState of %v is %v, %v", m, got, ok)
		}
		if got, ok := impl.RunMachine(m, s, nil); ok || !isNoState(got) {
			t.Errorf("RunMachine of %v is %v, %v", m, got, ok)
		}
		if got, ok := impl.CostOf(m, nil); ok || got != 0 {
			t.Errorf("CostOf of %v is %v, %v", m, got, ok)
		}
		for kind := range int64(kinds) {
			x := impl.Instr{Kind: kind, M: noMask}
			switch kind {
			case impl.KindLoad, impl.KindStore:
				x.B = 1
			case impl.KindSelect:
				x.M = 0
			case impl.KindShuffle:
				x.Table = make([]int64, len(s.Vectors[0]))
			}
			refuseInstr(t, m, s, x)
		}
	}
}

// plainText is the text of an instruction, valid or not.
func plainText(x impl.Instr) string {
	name := "what"
	if x.Kind >= 0 && x.Kind < kinds {
		name = kindNames[x.Kind]
	}
	text := fmt.Sprintf("%s %d %d %d %d %d", name, x.D, x.A, x.B, x.M, x.I)
	if x.Kind == impl.KindShuffle {
		text += " " + strings.Trim(strings.ReplaceAll(fmt.Sprint(x.Table), " ", ","), "[]")
	}
	return text
}

// refuseInstr holds that no function takes an instruction.
func refuseInstr(t *testing.T, m impl.Machine, s impl.State, x impl.Instr) {
	t.Helper()
	fine := impl.Instr{Kind: impl.KindFill, M: noMask}
	if impl.ValidInstr(m, x) || impl.ValidProgram(m, []impl.Instr{x}) || impl.ValidProgram(m, []impl.Instr{fine, x, fine}) {
		t.Errorf("%v is valid for %v", x, m)
	}
	if got, ok := impl.StepMachine(m, s, x); ok || !isNoState(got) {
		t.Errorf("StepMachine of %v and %v is %v, %v", m, x, got, ok)
	}
	if got, ok := impl.RunMachine(m, s, []impl.Instr{fine, x}); ok || !isNoState(got) {
		t.Errorf("RunMachine of %v and %v is %v, %v", m, x, got, ok)
	}
	if got, ok := impl.CostOf(m, []impl.Instr{fine, x}); ok || got != 0 {
		t.Errorf("CostOf of %v and %v is %v, %v", m, x, got, ok)
	}
	if got, ok := impl.InstrText(m, x); ok || got != "" {
		t.Errorf("InstrText of %v and %v is %q, %v", m, x, got, ok)
	}
	// These two write the vectors and masks 0, which most instructions use.
	for _, y := range []impl.Instr{fine, {Kind: impl.KindMasks, M: noMask}, {Kind: impl.KindStore, B: 1, M: noMask}, x} {
		if impl.MustWait(m, x, y) || impl.MustWait(m, y, x) {
			t.Errorf("with %v, %v waits for %v, or is waited for", m, x, y)
		}
	}
	// The text of a table tells only that of a KindShuffle.
	if x.Kind == impl.KindShuffle || len(x.Table) == 0 {
		if got, ok := impl.ReadInstr(m, plainText(x)); ok || !isNoInstr(got) {
			t.Errorf("ReadInstr(%v, %q) = %v, %v", m, plainText(x), got, ok)
		}
	}
}

// TestValidInstr gives each field of each kind all numbers around its limits, and others far from them.
func TestValidInstr(t *testing.T) {
	roll := dice(5)
	far := []int64{math.MinInt64, -impl.MaxValue, -64, 64, powerOf(32), powerOf(32) + 1, math.MaxInt64}
	for _, m := range allMachines() {
		s := someState(m, 2)
		for kind, limits := range limitsOf(m) {
			for k, limit := range limits {
				for _, n := range append(slices.Clone(far), limit[0]-2, limit[0]-1, limit[0], limit[0]+1, limit[1]-1, limit[1], limit[1]+1, limit[1]+2, powerOf(m.Bits)) {
					x := someInstr(m, int64(kind), &roll)
					*fieldsOf(&x)[k] = n
					if n < limit[0] || n > limit[1] {
						refuseInstr(t, m, s, x)
					} else if !impl.ValidInstr(m, x) || !impl.ValidProgram(m, []impl.Instr{x}) {
						t.Errorf("%v is not valid for %v", x, m)
					}
				}
			}
		}
		for _, kind := range []int64{math.MinInt64, -8, -1, kinds, kinds + 1, 64, powerOf(32), powerOf(32) + 9, math.MaxInt64} {
			refuseInstr(t, m, s, impl.Instr{Kind: kind, M: noMask})
			refuseInstr(t, m, s, impl.Instr{Kind: kind, B: 1, M: noMask})
			refuseInstr(t, m, s, impl.Instr{Kind: kind, M: 0})
			refuseInstr(t, m, s, impl.Instr{Kind: kind, M: noMask, Table: make([]int64, m.Lanes)})
		}
	}
}

func TestTables(t *testing.T) {
	roll := dice(6)
	for _, m := range allMachines() {
		s, lanes := someState(m, 4), int(m.Lanes)
		for kind := range int64(kinds) {
			x := someInstr(m, kind, &roll)
			if kind != impl.KindShuffle {
				for _, table := range [][]int64{nil, {}} {
					x.Table = table
					if !impl.ValidInstr(m, x) {
						t.Errorf("%v is not valid for %v", x, m)
					}
				}
				for _, table := range [][]int64{{0}, {-1}, make([]int64, lanes), identity(lanes)} {
					x.Table = table
					refuseInstr(t, m, s, x)
				}
				continue
			}
			for length := range 2*impl.MaxLanes + 3 {
				if x.Table = make([]int64, length); length != lanes {
					refuseInstr(t, m, s, x)
				}
			}
			x.Table = make([]int64, 1000)
			refuseInstr(t, m, s, x)
			for _, wrong := range []int64{math.MinInt64, -1, 2 * m.Lanes, 2*m.Lanes + 1, powerOf(32), math.MaxInt64} {
				for _, place := range []int{0, lanes / 2, lanes - 1} {
					x.Table = identity(lanes)
					x.Table[place] = wrong
					refuseInstr(t, m, s, x)
				}
			}
			for number := range 2 * m.Lanes {
				x.Table = slices.Repeat([]int64{number}, lanes)
				if !impl.ValidInstr(m, x) {
					t.Errorf("%v is not valid for %v", x, m)
				}
			}
		}
	}
}

// TestStepMachine holds each kind with each mask against the table of the document, for instructions that have places and for some that have not.
func TestStepMachine(t *testing.T) {
	roll := dice(1)
	for _, m := range allMachines() {
		for kind := range int64(kinds) {
			var counts [2]int
			for mask := int64(noMask); mask < impl.MaxMasks; mask++ {
				for seed := range int64(60) {
					x, ok := withMask(m, someInstr(m, kind, &roll), mask)
					if !ok {
						continue
					}
					s := someState(m, seed)
					got, ok := impl.StepMachine(m, s, x)
					want, exists := behind(m, s, x)
					wantState(t, fmt.Sprintf("StepMachine(%v, %v, %v)", m, s, x), got, ok, want, exists)
					if exists {
						counts[0]++
						if !impl.ValidState(m, got) {
							t.Fatalf("StepMachine(%v, %v, %v) is no state: %v", m, s, x, got)
						}
					} else {
						counts[1]++
					}
				}
			}
			if counts[0] < 50 || kind <= impl.KindScatter && counts[1] < 10 {
				t.Errorf("%d steps of %s succeed with %v, and %d fail", counts[0], kindNames[kind], m, counts[1])
			}
		}
	}
}

// TestSameRegisters lets instructions write what they read, in all ways in which D, A and B can be the same.
func TestSameRegisters(t *testing.T) {
	roll := dice(2)
	for _, m := range allMachines() {
		s := someState(m, 8)
		for kind := range int64(kinds) {
			for fields := range int64(27) {
				for mask := int64(noMask); mask < impl.MaxMasks; mask++ {
					x := someInstr(m, kind, &roll)
					limits := limitsOf(m)[kind]
					for k, n := range []int64{fields % 3, fields / 3 % 3, fields / 9} {
						*fieldsOf(&x)[k] = bounded(n, limits[k][0], limits[k][1])
					}
					if kind <= impl.KindScatter {
						x.I = 0
					}
					x, ok := withMask(m, x, mask)
					if !ok {
						continue
					}
					got, ok := impl.StepMachine(m, s, x)
					want, exists := behind(m, s, x)
					wantState(t, fmt.Sprintf("StepMachine(%v, %v, %v)", m, s, x), got, ok, want, exists)
				}
			}
		}
	}
}

// TestLanesOff is promise 6 in its own words: what stands in lanes that are off changes nothing, and they themselves stay as they are.
func TestLanesOff(t *testing.T) {
	roll := dice(3)
	// In the other kinds, lanes that are off are read for lanes that are on.
	alone := []int64{impl.KindLoad, impl.KindStore, impl.KindGather, impl.KindScatter, impl.KindOp, impl.KindCmp, impl.KindFill, impl.KindSteps, impl.KindReduce, impl.KindCompress}
	stay := []int64{impl.KindLoad, impl.KindGather, impl.KindOp, impl.KindShuffle, impl.KindFill, impl.KindSteps, impl.KindExpand}
	for _, m := range allMachines() {
		for seed := range int64(400) {
			s := someState(m, seed)
			x, ok := withMask(m, someInstr(m, seed%kinds, &roll), []int64{someOn, noneOn, oneOn}[seed/kinds%3])
			end, exists := impl.StepMachine(m, s, x)
			if !ok || !exists {
				continue
			}
			other := copied(s)
			for k := range m.Lanes {
				if s.Masks[x.M][k] == 1 {
					continue
				}
				if slices.Contains(stay, x.Kind) && end.Vectors[x.D][k] != s.Vectors[x.D][k] || x.Kind == impl.KindCmp && end.Masks[x.D][k] != 0 {
					t.Fatalf("%v and %v: the lane %d that is off becomes %v from %v", m, x, k, end, s)
				}
				for _, v := range other.Vectors {
					v[k] = powerOf(m.Bits) - 1 - v[k]
				}
			}
			if slices.Contains(alone, x.Kind) {
				checkSameOn(t, m, x, s, end, step(t, m, other, x))
			}
		}
	}
}

// checkSameOn holds that two ends have the same memory, masks, and lanes that are on.
func checkSameOn(t *testing.T, m impl.Machine, x impl.Instr, s, end, other impl.State) {
	t.Helper()
	same := slices.Equal(end.Memory, other.Memory) && reflect.DeepEqual(end.Masks, other.Masks)
	for n, k := range onIn(m, s, x.M) {
		for v := range end.Vectors {
			lane := k
			if x.Kind == impl.KindCompress && v == int(x.D) {
				lane = int64(n)
			}
			same = same && end.Vectors[v][lane] == other.Vectors[v][lane]
		}
	}
	if !same {
		t.Fatalf("%v and %v from %v: %v, and with other words in lanes that are off %v", m, x, s, end, other)
	}
}

// stateWith is a state of zeros but for the lists that are given, the first ones of their kind; its memory is 0, 1, 2 and so on.
func stateWith(m impl.Machine, vectors, masks [][]int64) impl.State {
	s := zeroState(m)
	copy(s.Vectors, vectors)
	copy(s.Masks, masks)
	s.Memory = lanesBy(impl.MaxMemory, func(i int) int64 { return wrapped(m.Bits, int64(i)) })
	return s
}

// stepCase is an instruction with what it makes of the vector D, of the mask D for KindCmp and KindMasks, or of the first places of the memory for KindStore and KindScatter.
type stepCase struct {
	text string
	want []int64
}

// checkSteps lets instructions start from one state each, of which nothing else may change.
func checkSteps(t *testing.T, m impl.Machine, s impl.State, cases []stepCase) {
	t.Helper()
	for _, c := range cases {
		x, ok := impl.ReadInstr(m, c.text)
		if !ok {
			t.Errorf("ReadInstr(%v, %q) fails", m, c.text)
			continue
		}
		want := copied(s)
		switch x.Kind {
		case impl.KindCmp, impl.KindMasks:
			want.Masks[x.D] = c.want
		case impl.KindStore, impl.KindScatter:
			copy(want.Memory, c.want)
		default:
			want.Vectors[x.D] = c.want
		}
		got, ok := impl.StepMachine(m, s, x)
		wantState(t, fmt.Sprintf("%s with %v", c.text, m), got, ok, want, true)
	}
}

func TestStepsByHand(t *testing.T) {
	s := stateWith(impl.Machine{Lanes: 4, Bits: 8}, [][]int64{{10, 20, 30, 40}, {3, 0, 255, 3}, {250, 128, 127, 0}, {7, 5, 3, 1}, {9, 9, 9, 9}}, [][]int64{{1, 1, 1, 1}, {0, 1, 0, 1}, {0, 0, 0, 0}, {0, 0, 1, 1}})
	checkSteps(t, impl.Machine{Lanes: 4, Bits: 8}, s, []stepCase{
		{"load 1 0 2 -1 5", []int64{5, 7, 9, 11}}, {"load 1 0 1 1 60", []int64{3, 61, 255, 63}}, {"load 1 0 8 3 8", []int64{3, 0, 24, 32}}, {"load 1 0 8 2 63", []int64{3, 0, 255, 3}},
		{"store 0 0 1 -1 0", []int64{10, 20, 30, 40}}, {"store 0 0 2 1 1", []int64{0, 1, 2, 20, 4, 5, 6, 40}}, {"store 0 0 1 2 0", nil},
		{"gather 4 3 0 -1 2", []int64{9, 7, 5, 3}}, {"gather 4 3 0 1 58", []int64{9, 63, 9, 59}}, {"gather 3 3 0 3 1", []int64{7, 5, 4, 2}}, {"gather 0 2 0 2 63", []int64{10, 20, 30, 40}},
		{"scatter 0 0 3 -1 0", []int64{0, 40, 2, 30, 4, 20, 6, 10}},
		// The lanes 1 and 3 write the places 1 and 4; that of the lane 2 does not exist, but it is off. Then all lanes write the same place.
		{"scatter 0 0 1 1 1", []int64{0, 20, 2, 3, 40}}, {"scatter 0 3 4 -1 0", []int64{0, 1, 2, 3, 4, 5, 6, 7, 8, 1}}, {"scatter 0 3 3 2 63", nil},
		{"op 4 0 3 -1 0", []int64{17, 25, 33, 41}}, {"op 0 0 0 1 2", []int64{10, 144, 30, 64}}, {"op 3 2 1 3 1", []int64{7, 5, 128, 253}}, {"op 4 2 2 2 0", []int64{9, 9, 9, 9}},
		{"cmp 0 0 1 -1 2", []int64{0, 0, 1, 0}}, {"cmp 1 2 3 -1 4", []int64{1, 1, 0, 1}}, {"cmp 1 2 3 1 4", []int64{0, 1, 0, 1}}, {"cmp 3 4 4 3 0", []int64{0, 0, 1, 1}}, {"cmp 0 4 4 2 0", []int64{0, 0, 0, 0}}, {"cmp 2 1 1 0 3", []int64{1, 1, 1, 1}},
		{"select 4 0 3 1 0", []int64{7, 20, 3, 40}}, {"select 0 0 3 2 0", []int64{7, 5, 3, 1}}, {"select 3 0 3 0 0", []int64{10, 20, 30, 40}}, {"select 3 3 0 3 0", []int64{10, 20, 3, 1}},
		{"shuffle 4 0 3 -1 0 3,4,0,7", []int64{40, 7, 10, 1}}, {"shuffle 0 0 3 1 0 3,3,6,6", []int64{10, 40, 30, 3}}, {"shuffle 3 0 3 -1 0 5,4,7,6", []int64{5, 7, 1, 3}}, {"shuffle 3 0 3 2 0 0,0,0,0", []int64{7, 5, 3, 1}},
		{"fill 4 0 0 -1 255", []int64{255, 255, 255, 255}}, {"fill 4 0 0 3 0", []int64{9, 9, 0, 0}}, {"fill 4 0 0 2 1", []int64{9, 9, 9, 9}},
		{"steps 4 0 8 -1 250", []int64{250, 2, 10, 18}}, {"steps 4 0 0 1 6", []int64{9, 6, 9, 6}}, {"steps 4 0 1 -1 0", []int64{0, 1, 2, 3}},
		{"reduce 4 0 0 -1 1", []int64{176, 176, 176, 176}}, {"reduce 0 0 0 1 1", []int64{236, 236, 236, 236}}, {"reduce 4 3 0 3 1", []int64{2, 2, 2, 2}}, {"reduce 4 3 0 2 1", []int64{9, 9, 9, 9}},
		{"masks 0 1 3 -1 0", []int64{0, 0, 0, 1}}, {"masks 0 1 3 -1 1", []int64{0, 1, 1, 1}}, {"masks 1 1 3 -1 2", []int64{0, 1, 1, 0}}, {"masks 3 1 3 -1 3", []int64{0, 1, 0, 0}}, {"masks 3 3 1 -1 3", []int64{0, 0, 1, 0}}, {"masks 2 0 0 -1 3", []int64{0, 0, 0, 0}},
		{"compress 4 0 0 -1 0", []int64{10, 20, 30, 40}}, {"compress 4 0 0 1 0", []int64{20, 40, 9, 9}}, {"compress 0 0 0 3 0", []int64{30, 40, 30, 40}}, {"compress 4 0 0 2 0", []int64{9, 9, 9, 9}},
		{"expand 4 0 0 -1 0", []int64{10, 20, 30, 40}}, {"expand 4 0 0 1 0", []int64{9, 10, 9, 20}}, {"expand 0 0 0 3 0", []int64{10, 20, 10, 20}}, {"expand 4 0 0 2 0", []int64{9, 9, 9, 9}},
		{"count 4 0 0 -1 0", []int64{4, 4, 4, 4}}, {"count 4 1 0 -1 0", []int64{2, 2, 2, 2}}, {"count 4 2 0 -1 0", []int64{0, 0, 0, 0}},
	})
}

// fallsShort is where the lanes from far on are off.
func fallsShort(lanes, far int) []int64 {
	return lanesBy(lanes, func(i int) int64 {
		if i < far {
			return 1
		}
		return 0
	})
}

// TestPlaces lets loads and stores begin where the last lane that is on has the last place of the memory, or the first one that does not exist.
func TestPlaces(t *testing.T) {
	for _, m := range allMachines() {
		for stride := int64(1); stride <= impl.MaxStride; stride++ {
			for far := 1; far <= int(m.Lanes); far++ {
				s := someState(m, stride)
				s.Masks[someOn] = fallsShort(int(m.Lanes), far)
				from := lastCell - int64(far-1)*stride
				masks := []int64{someOn}
				if far == int(m.Lanes) {
					masks = append(masks, allOn, noMask)
				}
				for _, mask := range masks {
					for _, x := range []impl.Instr{{Kind: impl.KindLoad, D: 4, B: stride, M: mask}, {Kind: impl.KindStore, A: 5, B: stride, M: mask}} {
						checkPlace(t, m, s, x, from-1, from >= 1)
						checkPlace(t, m, s, x, from, from >= 0)
						checkPlace(t, m, s, x, from+1, false)
						checkPlace(t, m, s, x, lastCell, from >= lastCell)
						x.M = noneOn
						checkPlace(t, m, s, x, lastCell, true)
					}
				}
			}
		}
		s := someState(m, 1)
		for _, mask := range []int64{noMask, allOn} {
			end := step(t, m, s, impl.Instr{Kind: impl.KindLoad, D: 4, B: 1, M: mask})
			wantList(t, "load of the first places", end.Vectors[4], true, s.Memory[:m.Lanes])
			end = step(t, m, s, impl.Instr{Kind: impl.KindStore, A: 4, B: 1, M: mask, I: impl.MaxMemory - m.Lanes})
			wantList(t, "store to the last places", end.Memory, true, slices.Concat(s.Memory[:impl.MaxMemory-m.Lanes], s.Vectors[4]))
		}
	}
}

// checkPlace lets x use the memory from a place on, if the memory has it.
func checkPlace(t *testing.T, m impl.Machine, s impl.State, x impl.Instr, from int64, exists bool) {
	t.Helper()
	if from < 0 || from > lastCell {
		return
	}
	x.I = from
	got, ok := impl.StepMachine(m, s, x)
	want, fine := behind(m, s, x)
	if fine != exists {
		t.Fatalf("%v and %v have places: %v", m, x, fine)
	}
	wantState(t, fmt.Sprintf("StepMachine(%v, %v, %v)", m, s, x), got, ok, want, exists)
}

// TestFoundPlaces lets gathers and scatters use the last place of the memory, the first one that does not exist and the farthest one of all, in a lane that is on or off.
func TestFoundPlaces(t *testing.T) {
	for _, m := range allMachines() {
		for lane := range m.Lanes {
			for _, from := range []int64{0, 1, 48, 49, 50, 62, lastCell} {
				for _, word := range []int64{0, 1, lastCell - from, lastCell + 1 - from, powerOf(m.Bits) - 1} {
					if word >= powerOf(m.Bits) {
						continue
					}
					s := someState(m, lane)
					s.Vectors[3] = make([]int64, m.Lanes)
					s.Vectors[3][lane] = word
					s.Masks[oneOn] = make([]int64, m.Lanes)
					s.Masks[oneOn][lane] = 1
					s.Masks[someOn] = lanesBy(int(m.Lanes), func(i int) int64 { return 1 - s.Masks[oneOn][i] })
					for _, mask := range []int64{noMask, allOn, someOn, noneOn, oneOn} {
						exists := word+from <= lastCell || mask == someOn || mask == noneOn
						checkPlace(t, m, s, impl.Instr{Kind: impl.KindGather, D: 3, A: 3, M: mask}, from, exists)
						checkPlace(t, m, s, impl.Instr{Kind: impl.KindScatter, A: 5, B: 3, M: mask}, from, exists)
					}
				}
			}
		}
	}
}

// TestSamePlace lets all lanes that are on write one place: the last one of them remains.
func TestSamePlace(t *testing.T) {
	for _, m := range allMachines() {
		for far := 1; far <= int(m.Lanes); far++ {
			s := someState(m, int64(far))
			s.Vectors[2] = slices.Repeat([]int64{9}, int(m.Lanes))
			s.Vectors[6] = lanesBy(int(m.Lanes), func(i int) int64 { return int64(i) })
			s.Masks[someOn] = fallsShort(int(m.Lanes), far)
			end := step(t, m, s, impl.Instr{Kind: impl.KindScatter, A: 6, B: 2, M: someOn, I: 30})
			want := slices.Clone(s.Memory)
			want[39] = int64(far - 1)
			wantList(t, fmt.Sprintf("memory of %v behind a scatter of %d lanes to one place", m, far), end.Memory, true, want)
		}
	}
}

// TestReduce takes each operation, with one lane that is on, with none, and with all of them, one after another.
func TestReduce(t *testing.T) {
	for _, m := range allMachines() {
		for code := range int64(lastOp + 1) {
			s := someState(m, code)
			name := fmt.Sprintf("reduce %s of %v and %v with %v", opNames[code], s.Vectors[5], s.Masks[oneOn], m)
			reduced := func(mask int64) []int64 {
				return step(t, m, s, impl.Instr{Kind: impl.KindReduce, D: 6, A: 5, M: mask, I: code}).Vectors[6]
			}
			wantList(t, name, reduced(noneOn), true, s.Vectors[6])
			wantList(t, name, reduced(oneOn), true, slices.Repeat([]int64{s.Vectors[5][slices.Index(s.Masks[oneOn], 1)]}, int(m.Lanes)))
			scan, ok := impl.ScanLanes(code, m.Bits, s.Vectors[5])
			for _, mask := range []int64{noMask, allOn} {
				wantList(t, name, reduced(mask), ok, slices.Repeat(scan[m.Lanes-1:], int(m.Lanes)))
			}
		}
	}
}

// TestLanesLikeVectors holds what has a function in chapters 2 and 4 against it.
func TestLanesLikeVectors(t *testing.T) {
	for _, m := range allMachines() {
		for seed := range int64(20) {
			s := someState(m, seed)
			a, b, old, mask := s.Vectors[4], s.Vectors[5], s.Vectors[6], s.Masks[someOn]
			end := func(x impl.Instr) []int64 {
				x.D, x.A, x.M = 6, 4, someOn
				return step(t, m, s, x).Vectors[6]
			}
			want, ok := impl.LaneWiseMasked(seed%(lastOp+1), m.Bits, mask, old, a, b)
			wantList(t, "op", end(impl.Instr{Kind: impl.KindOp, B: 5, I: seed % (lastOp + 1)}), ok, want)
			want, ok = impl.SelectLanes(m.Bits, mask, a, b)
			wantList(t, "select", end(impl.Instr{Kind: impl.KindSelect, B: 5}), ok, want)
			picks := lanesBy(int(m.Lanes), func(i int) int64 { return (int64(i)*seed + 1) % (2 * m.Lanes) })
			picked, ok := impl.PickLanes(m.Bits, picks, a, b)
			want, fine := impl.SelectLanes(m.Bits, mask, picked, old)
			wantList(t, "shuffle", end(impl.Instr{Kind: impl.KindShuffle, B: 5, Table: picks}), ok && fine, want)
			spread, ok := impl.ExpandLanes(m.Bits, mask, a)
			want, fine = impl.SelectLanes(m.Bits, mask, spread, old)
			wantList(t, "expand", end(impl.Instr{Kind: impl.KindExpand}), ok && fine, want)
			count, ok := impl.CountLanes(mask)
			packed, fine := impl.CompressLanes(m.Bits, mask, a)
			wantList(t, "compress", end(impl.Instr{Kind: impl.KindCompress}), ok && fine, slices.Concat(packed[:count], old[count:]))
			steps, ok := impl.RampLanes(m.Bits, m.Lanes, a[0], seed%9)
			want, fine = impl.SelectLanes(m.Bits, mask, steps, old)
			got := step(t, m, s, impl.Instr{Kind: impl.KindSteps, D: 6, B: seed % 9, M: someOn, I: a[0]}).Vectors[6]
			wantList(t, "steps", got, ok && fine, want)
		}
	}
}

// TestCountOfLanes has as many lanes on as there are: of 4 bits, 16 of them wrap.
func TestCountOfLanes(t *testing.T) {
	for _, m := range allMachines() {
		for far := 0; far <= int(m.Lanes); far++ {
			s := someState(m, 1)
			s.Masks[oneOn] = fallsShort(int(m.Lanes), far)
			got := step(t, m, s, impl.Instr{Kind: impl.KindCount, D: 7, A: oneOn, M: noMask}).Vectors[7]
			want := int64(far)
			if far == 16 && m.Bits == 4 {
				want = 0
			}
			wantList(t, fmt.Sprintf("count of %d lanes with %v", far, m), got, true, slices.Repeat([]int64{want}, int(m.Lanes)))
		}
	}
}

// TestStepMachineFails gives valid instructions states that are not.
func TestStepMachineFails(t *testing.T) {
	roll := dice(9)
	for _, m := range allMachines() {
		for _, s := range noStates(m) {
			x := someInstr(m, roll.below(kinds), &roll)
			for _, program := range [][]impl.Instr{nil, {x}, {{Kind: impl.KindFill, M: noMask}}} {
				if got, ok := impl.RunMachine(m, s, program); ok || !isNoState(got) {
					t.Errorf("RunMachine(%v, %v, %v) = %v, %v", m, s, program, got, ok)
				}
			}
			if got, ok := impl.StepMachine(m, s, x); ok || !isNoState(got) {
				t.Errorf("StepMachine(%v, %v, %v) = %v, %v", m, s, x, got, ok)
			}
		}
	}
}

// someProgram is a program whose instructions have places, from a state on, and the state behind it.
func someProgram(m impl.Machine, s impl.State, length int, roll *dice) ([]impl.Instr, impl.State) {
	program := []impl.Instr{}
	for len(program) < length {
		x := someInstr(m, roll.below(kinds), roll)
		if next, exists := behind(m, s, x); exists {
			program, s = append(program, x), next
		}
	}
	return program, s
}

func TestRunMachine(t *testing.T) {
	roll := dice(4)
	for _, m := range allMachines() {
		for _, length := range []int{0, 1, 2, 3, 10, impl.MaxProgram - 1, impl.MaxProgram} {
			s := someState(m, int64(length))
			program, want := someProgram(m, s, length, &roll)
			if !impl.ValidProgram(m, program) {
				t.Errorf("ValidProgram(%v, %v) is false", m, program)
			}
			got, ok := impl.RunMachine(m, s, program)
			wantState(t, fmt.Sprintf("RunMachine(%v, %v, %v)", m, s, program), got, ok, want, true)
			for _, place := range []int{0, length / 2, length - 1} {
				if place >= 0 && place < length {
					refuseProgram(t, m, s, program, place)
				}
			}
		}
		for _, length := range []int{impl.MaxProgram + 1, impl.MaxProgram + 2, 1000} {
			program := slices.Repeat([]impl.Instr{{Kind: impl.KindFill, M: noMask}}, length)
			got, ok := impl.RunMachine(m, zeroState(m), program)
			cost, fine := impl.CostOf(m, program)
			if ok || !isNoState(got) || fine || cost != 0 || impl.ValidProgram(m, program) {
				t.Errorf("a program of %d instructions runs to %v, %v, and costs %v, %v", length, got, ok, cost, fine)
			}
		}
	}
}

// refuseProgram breaks one instruction of a program: it is not valid, or it has a place that does not exist.
func refuseProgram(t *testing.T, m impl.Machine, s impl.State, program []impl.Instr, place int) {
	t.Helper()
	for _, wrong := range []impl.Instr{{Kind: impl.KindLoad, B: 1, M: noMask, I: lastCell}, {Kind: impl.KindStore, B: impl.MaxStride, M: noMask, I: lastCell}, {Kind: impl.KindLoad, M: noMask}, {Kind: kinds, M: noMask}} {
		broken := slices.Clone(program)
		broken[place] = wrong
		if got, ok := impl.RunMachine(m, s, broken); ok || !isNoState(got) {
			t.Errorf("RunMachine(%v, %v, %v) = %v, %v", m, s, broken, got, ok)
		}
		cost, ok := impl.CostOf(m, broken)
		if valid := wrong.B != 0; impl.ValidProgram(m, broken) != valid || ok != valid || !ok && cost != 0 {
			t.Errorf("%v is valid: %v, and costs %v, %v", broken, !valid, cost, ok)
		}
	}
}

// wantCost is what an instruction costs by the document.
func wantCost(m impl.Machine, x impl.Instr) int64 {
	switch kindNames[x.Kind] {
	case "load", "store":
		if x.B > 1 {
			return m.Lanes
		}
	case "gather", "scatter", "reduce":
		return m.Lanes
	case "op":
		if x.I == impl.OpMul {
			return 3
		}
	case "shuffle":
		if slices.Max(x.Table) >= m.Lanes {
			return 2
		}
	case "compress", "expand":
		return 2
	}
	return 1
}

func TestCostOf(t *testing.T) {
	roll := dice(8)
	for _, m := range allMachines() {
		if got, ok := impl.CostOf(m, nil); !ok || got != 0 {
			t.Errorf("CostOf no instructions is %d, %v", got, ok)
		}
		program, sum := []impl.Instr{}, int64(0)
		for n := range int64(600) {
			x := someInstr(m, n%kinds, &roll)
			if got, ok := impl.CostOf(m, []impl.Instr{x}); !ok || got != wantCost(m, x) {
				t.Fatalf("CostOf(%v, %v) = %d, %v, want %d", m, x, got, ok, wantCost(m, x))
			}
			if len(program) == impl.MaxProgram {
				program, sum = nil, 0
			}
			program, sum = append(program, x), sum+wantCost(m, x)
			if got, ok := impl.CostOf(m, program); !ok || got != sum {
				t.Fatalf("CostOf(%v, %v) = %d, %v, want %d", m, program, got, ok, sum)
			}
		}
	}
}

func TestCostsByHand(t *testing.T) {
	cases := []struct {
		text string
		cost int64
	}{
		{"load 1 0 1 -1 60", 1}, {"load 1 0 2 -1 5", 4}, {"load 1 0 8 0 5", 4}, {"load 1 0 1 2 63", 1}, {"store 0 1 1 -1 63", 1}, {"store 0 1 2 1 0", 4},
		{"gather 1 0 0 -1 0", 4}, {"scatter 0 1 2 3 0", 4}, {"op 1 0 0 -1 0", 1}, {"op 1 0 0 0 2", 3}, {"op 1 0 0 -1 17", 1}, {"cmp 1 0 0 -1 2", 1}, {"select 1 0 0 0 0", 1},
		{"shuffle 1 0 2 -1 0 3,2,1,0", 1}, {"shuffle 1 0 2 -1 0 3,2,1,4", 2}, {"shuffle 1 0 2 -1 0 4,2,1,0", 2}, {"shuffle 1 0 0 1 0 7,7,7,7", 2},
		{"fill 1 0 0 -1 2", 1}, {"steps 1 0 2 -1 2", 1}, {"steps 1 0 8 0 2", 1}, {"reduce 1 0 0 -1 2", 4}, {"reduce 1 0 0 2 0", 4}, {"masks 1 0 0 -1 2", 1},
		{"compress 1 0 0 -1 0", 2}, {"expand 1 0 0 0 0", 2}, {"count 1 0 0 -1 0", 1},
	}
	for _, c := range cases {
		m := impl.Machine{Lanes: 4, Bits: 8}
		x, ok := impl.ReadInstr(m, c.text)
		if cost, fine := impl.CostOf(m, []impl.Instr{x}); !ok || !fine || cost != c.cost {
			t.Errorf("CostOf %q is %d, %v, %v, want %d", c.text, cost, ok, fine, c.cost)
		}
	}
}

// usesBy tells what an instruction reads and what it writes, in the document's words: V and W with a number are vectors and masks.
func usesBy(m impl.Machine, x impl.Instr) (reads, writes []string) {
	name := func(list string, n int64) string { return fmt.Sprint(list, n) }
	d, a, b := name("V", x.D), name("V", x.A), name("V", x.B)
	staysIfMasked := false
	switch x.Kind {
	case impl.KindLoad:
		reads, writes, staysIfMasked = []string{"memory"}, []string{d}, true
	case impl.KindStore:
		reads, writes = []string{a}, []string{"memory"}
	case impl.KindGather:
		reads, writes, staysIfMasked = []string{"memory", a}, []string{d}, true
	case impl.KindScatter:
		reads, writes = []string{a, b}, []string{"memory"}
	case impl.KindOp:
		reads, writes, staysIfMasked = []string{a, b}, []string{d}, true
	case impl.KindCmp:
		reads, writes = []string{a, b}, []string{name("W", x.D)}
	case impl.KindSelect:
		reads, writes = []string{a, b}, []string{d}
	case impl.KindShuffle:
		reads, writes, staysIfMasked = []string{a}, []string{d}, true
		if slices.Max(x.Table) >= m.Lanes {
			reads = append(reads, b)
		}
	case impl.KindFill, impl.KindSteps:
		writes, staysIfMasked = []string{d}, true
	case impl.KindReduce, impl.KindExpand:
		reads, writes, staysIfMasked = []string{a}, []string{d}, true
	case impl.KindMasks:
		reads, writes = []string{name("W", x.A), name("W", x.B)}, []string{name("W", x.D)}
	case impl.KindCompress:
		reads, writes = []string{a, d}, []string{d}
	case impl.KindCount:
		reads, writes = []string{name("W", x.A)}, []string{d}
	}
	if x.M >= 0 {
		reads = append(reads, name("W", x.M))
		if staysIfMasked {
			reads = append(reads, d)
		}
	}
	return reads, writes
}

func mustWait(m impl.Machine, x, y impl.Instr) bool {
	share := func(one, other []string) bool {
		return slices.ContainsFunc(one, func(s string) bool { return slices.Contains(other, s) })
	}
	reads, writes := usesBy(m, x)
	otherReads, otherWrites := usesBy(m, y)
	return share(writes, otherReads) || share(writes, otherWrites) || share(otherWrites, reads)
}

// TestMustWait takes many instructions of each pair of kinds, and lets those that need not wait change places: promise 6.
func TestMustWait(t *testing.T) {
	roll := dice(10)
	for first := range int64(kinds) {
		for second := range int64(kinds) {
			var waits, free, swaps int
			for n := range int64(120) {
				m := []impl.Machine{{Lanes: 2, Bits: 16}, {Lanes: 4, Bits: 4}, {Lanes: 16, Bits: 8}}[n%3]
				x, y := someInstr(m, first, &roll), someInstr(m, second, &roll)
				want := mustWait(m, x, y)
				if impl.MustWait(m, x, y) != want || impl.MustWait(m, y, x) != want {
					t.Fatalf("with %v, %v waits for %v: %v, and the other way: %v", m, y, x, impl.MustWait(m, x, y), impl.MustWait(m, y, x))
				}
				if want {
					waits++
					continue
				}
				free++
				if checkSwap(t, m, someState(m, n), x, y) {
					swaps++
				}
			}
			memory := first <= impl.KindScatter && second <= impl.KindScatter
			always := memory && (first%2 == 1 || second%2 == 1)
			if waits < 5 || always != (free == 0) || !always && swaps < 5 {
				t.Errorf("%s and %s wait %d times, and do not %d times, of which both orders run %d times", kindNames[first], kindNames[second], waits, free, swaps)
			}
		}
	}
}

// checkSwap runs two instructions in both orders, which must make the same, and reports whether they run.
func checkSwap(t *testing.T, m impl.Machine, s impl.State, x, y impl.Instr) bool {
	t.Helper()
	one, ok := impl.RunMachine(m, s, []impl.Instr{x, y})
	other, fine := impl.RunMachine(m, s, []impl.Instr{y, x})
	if ok != fine || !reflect.DeepEqual(one, other) {
		t.Fatalf("with %v from %v, %v and %v make %v, %v, and in the other order %v, %v", m, s, x, y, one, ok, other, fine)
	}
	return ok
}

func TestMustWaitByHand(t *testing.T) {
	cases := []struct {
		one, other string
		want       bool
	}{
		{"op 2 1 1 -1 0", "reduce 3 2 0 -1 7", true}, {"load 1 0 2 -1 5", "reduce 3 2 0 -1 7", false},
		// The memory is one thing, whatever the places are.
		{"load 1 0 1 -1 0", "load 2 0 1 -1 0", false}, {"load 1 0 1 -1 0", "gather 2 3 0 -1 0", false}, {"load 1 0 1 -1 0", "store 0 2 1 -1 60", true}, {"gather 1 3 0 -1 0", "scatter 0 2 4 -1 60", true},
		{"store 0 1 1 -1 0", "store 0 2 1 -1 60", true}, {"store 0 1 1 2 0", "scatter 0 2 3 2 60", true}, {"fill 1 0 0 -1 0", "store 0 2 1 -1 60", false},
		// Two that write the same, two that read the same, and one that writes what the other one reads.
		{"fill 1 0 0 -1 0", "fill 1 0 0 -1 0", true}, {"fill 1 0 0 0 0", "fill 1 0 0 1 0", true}, {"op 1 4 5 -1 0", "op 2 4 5 -1 0", false}, {"op 1 4 5 -1 0", "op 2 1 5 -1 0", true}, {"op 1 4 5 -1 0", "op 2 4 1 -1 0", true}, {"op 1 4 5 -1 0", "op 5 2 2 -1 0", true},
		// A mask is not the vector with its number.
		{"fill 1 0 0 -1 0", "masks 1 2 3 -1 0", false}, {"fill 1 0 0 -1 0", "masks 2 1 1 -1 0", false}, {"count 1 2 0 -1 0", "fill 2 0 0 -1 0", false}, {"count 1 2 0 -1 0", "cmp 2 3 4 -1 0", true}, {"cmp 1 2 3 -1 0", "fill 1 0 0 -1 0", false}, {"cmp 1 2 3 -1 0", "fill 3 0 0 -1 0", true},
		{"masks 1 2 3 -1 0", "masks 0 1 2 -1 0", true}, {"masks 1 2 3 -1 0", "masks 0 2 1 -1 0", true}, {"masks 1 2 3 -1 0", "masks 0 2 3 -1 0", false}, {"masks 1 2 3 -1 0", "masks 1 0 0 -1 0", true},
		// The mask M is read, and no mask is if M is -1.
		{"fill 1 0 0 2 0", "cmp 2 3 4 -1 0", true}, {"fill 1 0 0 2 0", "cmp 1 3 4 -1 0", false}, {"fill 1 0 0 -1 0", "cmp 3 3 4 -1 0", false}, {"store 0 1 1 3 0", "masks 3 0 0 -1 0", true}, {"select 1 2 3 0 0", "masks 0 1 1 -1 0", true}, {"cmp 1 2 3 0 0", "cmp 0 2 3 1 0", true}, {"fill 1 0 0 2 0", "fill 2 0 0 2 0", false},
		// Fields that are 0 or a stride are no vectors.
		{"load 1 0 3 -1 0", "fill 0 0 0 -1 0", false}, {"load 1 0 3 -1 0", "fill 3 0 0 -1 0", false}, {"store 0 1 3 -1 0", "fill 0 0 0 -1 0", false}, {"store 0 1 3 -1 0", "fill 3 0 0 -1 0", false}, {"steps 1 0 3 -1 0", "fill 3 0 0 -1 0", false},
		{"fill 1 0 0 -1 2", "fill 2 0 0 -1 1", false}, {"reduce 1 2 0 -1 3", "fill 0 0 0 -1 0", false}, {"scatter 0 1 2 -1 0", "fill 0 0 0 -1 0", false}, {"gather 1 2 0 -1 0", "fill 0 0 0 -1 0", false}, {"compress 1 2 0 -1 0", "fill 0 0 0 -1 0", false}, {"expand 1 2 0 -1 0", "fill 0 0 0 -1 0", false},
		// A shuffle reads B only for numbers from Lanes on, and A in any case; where its lanes are on does not matter.
		{"shuffle 1 2 3 -1 0 3,2,1,0", "fill 3 0 0 -1 0", false}, {"shuffle 1 2 3 -1 0 3,2,1,4", "fill 3 0 0 -1 0", true}, {"shuffle 1 2 3 0 0 4,2,1,0", "fill 3 0 0 -1 0", true}, {"shuffle 1 2 3 -1 0 4,5,6,7", "fill 2 0 0 -1 0", true}, {"shuffle 1 2 3 -1 0 0,0,0,0", "fill 2 0 0 -1 0", true}, {"shuffle 1 2 2 -1 0 0,0,0,0", "fill 2 0 0 -1 0", true},
	}
	m := impl.Machine{Lanes: 4, Bits: 8}
	for _, c := range cases {
		x, ok := impl.ReadInstr(m, c.one)
		y, fine := impl.ReadInstr(m, c.other)
		if !ok || !fine || impl.MustWait(m, x, y) != c.want || impl.MustWait(m, y, x) != c.want {
			t.Errorf("%q and %q: MustWait is %v and %v, want %v (%v, %v)", c.one, c.other, impl.MustWait(m, x, y), impl.MustWait(m, y, x), c.want, ok, fine)
		}
		// An instruction waits for itself if it writes, and each one does.
		if !impl.MustWait(m, x, x) || !impl.MustWait(m, y, y) {
			t.Errorf("%q or %q does not wait for itself", c.one, c.other)
		}
	}
}

func TestInstrTexts(t *testing.T) {
	roll := dice(11)
	for _, m := range allMachines() {
		for n := range int64(20 * kinds) {
			x := someInstr(m, n%kinds, &roll)
			text, ok := impl.InstrText(m, x)
			back, fine := impl.ReadInstr(m, plainText(x))
			same := slices.Equal(back.Table, x.Table)
			back.Table = x.Table
			if !ok || text != plainText(x) || !fine || !same || !reflect.DeepEqual(back, x) {
				t.Fatalf("InstrText(%v, %v) = %q, %v, and back %v, %v", m, x, text, ok, back, fine)
			}
		}
	}
	cases := []struct {
		x    impl.Instr
		text string
	}{
		{impl.Instr{Kind: impl.KindLoad, D: 1, B: 2, M: -1, I: 5}, "load 1 0 2 -1 5"}, {impl.Instr{Kind: impl.KindStore, A: 7, B: 8, M: 3, I: 63}, "store 0 7 8 3 63"},
		{impl.Instr{Kind: impl.KindGather, D: 1, A: 2, I: 3}, "gather 1 2 0 0 3"}, {impl.Instr{Kind: impl.KindScatter, A: 1, B: 2, M: 1}, "scatter 0 1 2 1 0"},
		{impl.Instr{Kind: impl.KindOp, D: 1, A: 2, B: 3, M: 2, I: 17}, "op 1 2 3 2 17"}, {impl.Instr{Kind: impl.KindCmp, D: 3, A: 6, B: 7, M: -1, I: 5}, "cmp 3 6 7 -1 5"},
		{impl.Instr{Kind: impl.KindSelect, D: 1, A: 2, B: 3}, "select 1 2 3 0 0"}, {impl.Instr{Kind: impl.KindShuffle, D: 5, B: 1, M: -1, Table: []int64{3, 2, 4, 0}}, "shuffle 5 0 1 -1 0 3,2,4,0"},
		{impl.Instr{Kind: impl.KindFill, D: 1, M: -1, I: 255}, "fill 1 0 0 -1 255"}, {impl.Instr{Kind: impl.KindSteps, D: 1, B: 8, M: -1, I: 9}, "steps 1 0 8 -1 9"}, {impl.Instr{Kind: impl.KindReduce, D: 1, A: 2, M: 3, I: 4}, "reduce 1 2 0 3 4"},
		{impl.Instr{Kind: impl.KindMasks, D: 1, A: 2, B: 3, M: -1, I: 3}, "masks 1 2 3 -1 3"}, {impl.Instr{Kind: impl.KindCompress, D: 1, A: 2, M: 3}, "compress 1 2 0 3 0"}, {impl.Instr{Kind: impl.KindExpand, D: 1, A: 2, M: -1}, "expand 1 2 0 -1 0"}, {impl.Instr{Kind: impl.KindCount, D: 7, A: 3, M: -1}, "count 7 3 0 -1 0"},
	}
	for _, c := range cases {
		m := impl.Machine{Lanes: 4, Bits: 8}
		text, ok := impl.InstrText(m, c.x)
		back, fine := impl.ReadInstr(m, c.text)
		if !ok || text != c.text || !fine || fmt.Sprint(back) != fmt.Sprint(c.x) {
			t.Errorf("InstrText(%v) = %q, %v, and back %v, %v, want %q", c.x, text, ok, back, fine, c.text)
		}
	}
}

func TestReadInstrFails(t *testing.T) {
	none := []string{
		"", " ", "load", "load ", "1 0 2 -1 5", "0 1 0 2 -1 5", "none", "op", "shuffle",
		// Other blanks.
		" load 1 0 2 -1 5", "load 1 0 2 -1 5 ", "load  1 0 2 -1 5", "load 1  0 2 -1 5", "load 1 0 2 -1  5", "load\t1 0 2 -1 5", "load 1 0 2 -1\t5", "load 1 0 2 -1 5\n", "load,1,0,2,-1,5", "load 1,0,2,-1,5", "load1 0 2 -1 5", "\nload 1 0 2 -1 5", "load 1 0 2 - 1 5", "load 1\u00a00 2 -1 5",
		// Signs, leading zeros, and what is no number.
		"load +1 0 2 -1 5", "load 1 0 2 -1 +5", "load 1 -0 2 -1 5", "load 1 0 2 -01 5", "load 1 0 2 -1 05", "load 01 0 2 -1 5", "load 1 00 2 -1 5", "load 1 0 2 --1 5", "load 1 0 2 -1 5.0", "load 1 0 2 -1 0x5", "load a 0 2 -1 5", "load 1 0 2 -1 x", "load 1 0 2 none 5", "load 1 0 2 - 5", "load 1 0 2 -1 ٥",
		// Other words.
		"Load 1 0 2 -1 5", "LOAD 1 0 2 -1 5", "loa 1 0 2 -1 5", "loads 1 0 2 -1 5", "ld 1 0 2 -1 5", "add 1 2 3 -1 0", "what 1 0 2 -1 5", "mask 1 2 3 -1 0", "-1 1 0 2 -1 5", "load\x00 1 0 2 -1 5", "\xff 1 0 2 -1 5",
		// Too few or too many fields.
		"load 1 0 2 -1", "load 1 0 2 5", "load 1 0 2 -1 5 0", "load 1 0 2 -1 5 none", "load 1 0 2 -1 5 1,2,3,4", "fill 1 0 0 -1 5 none", "op 1 2 3 -1 0 0", "load 1 0 2 -1 5;load 1 0 2 -1 5", "load 1 0 2 -1 5 load 1 0 2 -1 5", "load" + strings.Repeat(" 0", 100000), strings.Repeat(" ", 100000), strings.Repeat("load", 100000),
		// Tables.
		"shuffle 5 0 1 -1 0", "shuffle 5 0 1 -1 0 ", "shuffle 5 0 1 -1 3,2,4,0", "shuffle 3,2,4,0", "shuffle 5 0 1 -1 0 none", "shuffle 5 0 1 -1 0 3,2,4", "shuffle 5 0 1 -1 0 3,2,4,0,1", "shuffle 5 0 1 -1 0 3,2,4,0,", "shuffle 5 0 1 -1 0 ,3,2,4,0", "shuffle 5 0 1 -1 0 3, 2,4,0", "shuffle 5 0 1 -1 0 3 2 4 0", "shuffle 5 0 1 -1 0 3,2,4,0 ", "shuffle 5 0 1 -1 0  3,2,4,0",
		"shuffle 5 0 1 -1 0 3,2,4,8", "shuffle 5 0 1 -1 0 -1,2,4,0", "shuffle 5 0 1 -1 0 3,2,4,00", "shuffle 5 0 1 -1 0 3,2,+4,0", "shuffle 5 0 1 -1 0 3;2;4;0", "shuffle 5 0 1 -1 0 3,2,4,0 3,2,4,0", "shuffle 5 0 1 -1 0 3,2,4,0 0", "shuffle 5 0 1 -1 0 [3,2,4,0]", "shuffle 5 0 1 -1 0 3,,4,0", "shuffle 5 0 1 -1 1 3,2,4,0", "shuffle 5 0 1 -1 0 " + longTextOf("1", 100000),
		// Fields that are not as their kinds ask for, and numbers that are too great.
		"load 8 0 2 -1 5", "load 1 1 2 -1 5", "load 1 0 0 -1 5", "load 1 0 9 -1 5", "load 1 0 2 4 5", "load 1 0 2 -2 5", "load 1 0 2 -1 64", "load 1 0 2 -1 -1", "fill 1 0 0 -1 256", "select 1 2 3 -1 0", "count 1 2 0 0 0", "masks 4 1 1 -1 0", "load 1 0 2 -1 18446744073709551621", "load 1 0 2 -1 4294967301", "load 18446744073709551617 0 2 -1 5",
	}
	m := impl.Machine{Lanes: 4, Bits: 8}
	for _, s := range none {
		if x, ok := impl.ReadInstr(m, s); ok || !isNoInstr(x) {
			t.Errorf("ReadInstr(%v, %.60q) = %v, %v", m, s, x, ok)
		}
	}
}

// roomyState returns a state with unused capacity in all of its lists, and all of their memory.
func roomyState(s impl.State) (impl.State, string, func() string) {
	var kept [2][2][][]int64
	var memory []int64
	s.Vectors, kept[0] = roomyTable(s.Vectors)
	s.Masks, kept[1] = roomyTable(s.Masks)
	s.Memory, memory = roomy(s.Memory)
	look := func() string { return fmt.Sprint(kept, memory) }
	return s, look(), look
}

// roomyProgram does the same for a program, whose tables are the lists.
func roomyProgram(program []impl.Instr) ([]impl.Instr, string, func() string) {
	all, tables := make([]impl.Instr, 0, len(program)+5), [][]int64{}
	for _, x := range program {
		var memory []int64
		x.Table, memory = roomy(x.Table)
		all, tables = append(all, x), append(tables, memory)
	}
	all = append(all, slices.Repeat([]impl.Instr{{Kind: 99, Table: []int64{98}}}, 5)...)
	look := func() string { return fmt.Sprint(all, tables) }
	return all[:len(program)], look(), look
}

// spoilState changes all memory of a state.
func spoilState(s impl.State) {
	for _, list := range slices.Concat(s.Vectors, s.Masks, [][]int64{s.Memory}) {
		overwrite(list)
	}
	spoil(s.Vectors)
	spoil(s.Masks)
}

// checkStates runs what makes a state three times, and holds that the results are equal and share no memory.
func checkStates(t *testing.T, name string, run func() (impl.State, bool)) {
	t.Helper()
	first, ok := run()
	second, fine := run()
	want := fmt.Sprint(first)
	if !ok || !fine || fmt.Sprint(second) != want {
		t.Fatalf("%s returns %v, %v and then %v, %v", name, first, ok, second, fine)
	}
	spoilState(first)
	third, _ := run()
	if fmt.Sprint(second) != want || fmt.Sprint(third) != want {
		t.Errorf("%s: results share memory: %v and %v, want %s", name, second, third, want)
	}
	checkApart(t, name, slices.Concat(second.Vectors, second.Masks, [][]int64{second.Memory}))
	// The lists of the lists must be apart, too.
	vectors, masks := second.Vectors, fmt.Sprint(second.Masks)
	for i := range vectors[:cap(vectors)] {
		vectors[:cap(vectors)][i] = nil
	}
	if fmt.Sprint(second.Masks) != masks {
		t.Errorf("%s: its masks change with its vectors", name)
	}
}

// TestMachineStaysEqual is promise 1 for the functions with states: no call changes an argument, and no result shares memory with an argument or another result.
func TestMachineStaysEqual(t *testing.T) {
	roll := dice(12)
	for _, m := range allMachines() {
		for kind := range int64(kinds) {
			s, before, look := roomyState(someState(m, kind))
			program, programBefore, programLook := roomyProgram([]impl.Instr{someInstr(m, kind, &roll), someInstr(m, kind, &roll), {Kind: impl.KindFill, M: noMask}})
			if kind <= impl.KindScatter {
				for k := range 2 {
					program[k].M, program[k].I = noneOn, 0
				}
				programBefore = programLook()
			}
			name := fmt.Sprintf("of %v with %v", m, program)
			checkStates(t, "NewState "+name, func() (impl.State, bool) { return impl.NewState(m, s.Memory) })
			checkStates(t, "StepMachine "+name, func() (impl.State, bool) { return impl.StepMachine(m, s, program[0]) })
			checkStates(t, "RunMachine "+name, func() (impl.State, bool) { return impl.RunMachine(m, s, program) })
			checkStates(t, "RunMachine without instructions", func() (impl.State, bool) { return impl.RunMachine(m, s, program[:0]) })
			if impl.RunMachine(m, s, append(slices.Clone(program), impl.Instr{Kind: kinds})); look() != before {
				t.Errorf("a program that fails changes the state")
			}
			if impl.StepMachine(m, s, impl.Instr{Kind: impl.KindStore, B: 1, M: noMask, I: impl.MaxMemory - m.Lanes + 1}); look() != before {
				t.Errorf("a place that does not exist changes the state")
			}
			checkQuestions(t, m, s, program)
			if look() != before || programLook() != programBefore {
				t.Errorf("%s: arguments change from %s and %s to %s and %s", name, before, programBefore, look(), programLook())
			}
		}
	}
}

// checkQuestions calls the functions without states as results twice.
func checkQuestions(t *testing.T, m impl.Machine, s impl.State, program []impl.Instr) {
	t.Helper()
	ask := func() string {
		x, y := program[0], program[1]
		cost, ok := impl.CostOf(m, program)
		text, fine := impl.InstrText(m, x)
		return fmt.Sprint(impl.ValidMachine(m), impl.ValidState(m, s), impl.ValidInstr(m, x), impl.ValidProgram(m, program), impl.MustWait(m, x, y), cost, ok, text, fine)
	}
	if one, two := ask(), ask(); one != two {
		t.Errorf("the answers for %v and %v are %s and then %s", m, program, one, two)
	}
}

// TestReadInstrStaysEqual holds that each table that is read is new.
func TestReadInstrStaysEqual(t *testing.T) {
	m, text := impl.Machine{Lanes: 4, Bits: 8}, "shuffle 5 0 1 -1 0 3,2,4,0"
	first, _ := impl.ReadInstr(m, text)
	second, _ := impl.ReadInstr(m, text)
	overwrite(first.Table)
	third, ok := impl.ReadInstr(m, text)
	wantList(t, "the table read before", second.Table, ok, []int64{3, 2, 4, 0})
	wantList(t, "the table read behind", third.Table, ok, []int64{3, 2, 4, 0})
}

func TestMachineConstants(t *testing.T) {
	got := []int64{
		impl.MaxVectors, impl.MaxMasks, impl.MaxMemory, impl.MaxProgram, impl.MaxStride,
		impl.KindLoad, impl.KindStore, impl.KindGather, impl.KindScatter, impl.KindOp, impl.KindCmp, impl.KindSelect, impl.KindShuffle,
		impl.KindFill, impl.KindSteps, impl.KindReduce, impl.KindMasks, impl.KindCompress, impl.KindExpand, impl.KindCount,
	}
	if want := append([]int64{8, 4, 64, 60, 8}, identity(15)...); !slices.Equal(got, want) {
		t.Errorf("the constants are %v, want %v", got, want)
	}
}
