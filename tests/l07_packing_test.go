package tests

import (
	"fmt"
	"math"
	"slices"
	"strings"
	"testing"

	"loop.example/g01139/impl"
)

// packing is a packing with groups.
func packing(groups ...[]int64) impl.Packing { return impl.Packing{Groups: groups} }

// packMachines are all machines of the chapter.
func packMachines() []impl.Machine {
	return slices.DeleteFunc(allMachines(), func(m impl.Machine) bool { return m.Lanes > 4 })
}

// bestSize is how many statements BestPacking takes.
func bestSize(m impl.Machine) int {
	if m.Lanes == 2 {
		return 8
	}
	return 6
}

// upFrom is n and the numbers behind it.
func upFrom(n int64, length int) []int64 {
	return lanesBy(length, func(k int) int64 { return n + int64(k) })
}

// spread is how far the greatest number is from the least one.
func spread(list []int64) int64 { return slices.Max(list) - slices.Min(list) }

// isGroupBy asks for what the document asks for, one after another.
func isGroupBy(m impl.Machine, code []impl.Stmt, group []int64) bool {
	if int64(len(group)) != m.Lanes {
		return false
	}
	var ops, a, b, d []int64
	for k, i := range group {
		if i < 0 || i >= int64(len(code)) || slices.Contains(group[:k], i) {
			return false
		}
		for _, j := range group {
			if j >= 0 && j < int64(len(code)) && follows(code, i, j) {
				return false
			}
		}
		ops, a, b, d = append(ops, code[i].Op), append(a, code[i].A), append(b, code[i].B), append(d, code[i].D)
	}
	slices.Sort(d)
	return spread(ops) == 0 && spread(a) < 2*m.Lanes && spread(b) < 2*m.Lanes && slices.Equal(d, upFrom(d[0], len(d)))
}

// groupsBy are all groups of code, in lexicographic order.
func groupsBy(m impl.Machine, code []impl.Stmt) [][]int64 {
	return slices.DeleteFunc(allLists(int(m.Lanes), int64(len(code))), func(list []int64) bool { return !isGroupBy(m, code, list) })
}

// packingsBy are all packings of these groups, be they possible or not.
func packingsBy(groups [][]int64) []impl.Packing {
	list := []impl.Packing{{}}
	for k := 0; k < len(list); k++ {
		taken := slices.Concat(list[k].Groups...)
		for _, group := range groups {
			isFree := !slices.ContainsFunc(group, func(i int64) bool { return slices.Contains(taken, i) })
			if n := len(list[k].Groups); isFree && (n == 0 || slices.Min(list[k].Groups[n-1]) < slices.Min(group)) {
				list = append(list, packing(append(slices.Clone(list[k].Groups), group)...))
			}
		}
	}
	return list
}

// unitsBy puts units into their order as the document words it.
func unitsBy(code []impl.Stmt, p impl.Packing) ([][]int64, bool) {
	waiting, units := slices.Clone(p.Groups), [][]int64{}
	for i := range int64(len(code)) {
		if !slices.Contains(slices.Concat(p.Groups...), i) {
			waiting = append(waiting, []int64{i})
		}
	}
	for len(waiting) > 0 {
		next, before := -1, slices.Concat(units...)
		for k, unit := range waiting {
			isReady := true
			for _, j := range unit {
				for i := range int64(len(code)) {
					if follows(code, i, j) && !slices.Contains(unit, i) && !slices.Contains(before, i) {
						isReady = false
					}
				}
			}
			if isReady && (next < 0 || slices.Min(unit) < slices.Min(waiting[next])) {
				next = k
			}
		}
		if next < 0 {
			return nil, false
		}
		units, waiting = append(units, waiting[next]), slices.Delete(waiting, next, next+1)
	}
	return units, true
}

// packWriter writes a program as texts, and notes which of the ways that the document tells it has gone.
type packWriter struct {
	code  []impl.Stmt
	lanes int64
	lines []string
	cost  int64
	count int64
	kept  []keptGroup
	seen  map[string]int
}

type keptGroup struct {
	cells  []int64
	vector int64
}

func (w *packWriter) add(cost int64, form string, numbers ...any) {
	w.lines, w.cost = append(w.lines, fmt.Sprintf(form, numbers...)), w.cost+cost
}

// commas is the text of a table.
func commas(table []int64) string {
	return strings.Trim(strings.ReplaceAll(fmt.Sprint(table), " ", ","), "[]")
}

func (w *packWriter) op(d, a, b, mask, op int64) {
	cost := int64(1)
	if op == impl.OpMul {
		cost = 3
	}
	w.add(cost, "op %d %d %d %d %d", d, a, b, mask, op)
}

func (w *packWriter) operand(cells []int64, v int64) int64 {
	for _, g := range slices.Backward(w.kept) {
		if slices.Equal(g.cells, cells) {
			w.seen["kept"]++
			return g.vector
		}
	}
	least := slices.Min(cells)
	table := lanesBy(len(cells), func(k int) int64 { return cells[k] - least })
	w.add(1, "load %d 0 1 -1 %d", v, least)
	switch {
	case slices.Equal(cells, upFrom(least, len(cells))):
		w.seen["ascending"]++
	case slices.Max(cells) < least+w.lanes:
		w.seen["one vector"]++
		w.add(1, "shuffle %d %d %d -1 0 %s", v, v, v, commas(table))
	default:
		w.seen["two vectors"]++
		w.add(1, "load 2 0 1 -1 %d", least+w.lanes)
		w.add(2, "shuffle %d %d 2 -1 0 %s", v, v, commas(table))
	}
	return v
}

// writes forgets the groups one of whose cells is written.
func (w *packWriter) writes(what string, cells ...int64) {
	before := len(w.kept)
	w.kept = slices.DeleteFunc(w.kept, func(g keptGroup) bool {
		return slices.ContainsFunc(cells, func(cell int64) bool { return slices.Contains(g.cells, cell) })
	})
	if len(w.kept) < before {
		w.seen["written by a "+what]++
	}
}

func (w *packWriter) single(s impl.Stmt) {
	w.add(1, "load 0 0 1 3 %d", s.A)
	w.add(1, "load 1 0 1 3 %d", s.B)
	w.op(2, 0, 1, 3, s.Op)
	w.add(1, "store 0 2 1 3 %d", s.D)
	w.writes("single statement", s.D)
}

func (w *packWriter) group(group []int64) {
	cells := func(of func(s impl.Stmt) int64) []int64 {
		return lanesBy(len(group), func(k int) int64 { return of(w.code[group[k]]) })
	}
	d := cells(func(s impl.Stmt) int64 { return s.D })
	first := w.operand(cells(func(s impl.Stmt) int64 { return s.A }), 0)
	second := w.operand(cells(func(s impl.Stmt) int64 { return s.B }), 1)
	r := []int64{3, 4, 5}[w.count%3]
	w.count++
	w.op(r, first, second, -1, w.code[group[0]].Op)
	if least := slices.Min(d); slices.Equal(d, upFrom(least, len(d))) {
		w.seen["in line"]++
		w.add(1, "store 0 %d 1 -1 %d", r, least)
	} else {
		w.seen["in another order"]++
		table := lanesBy(len(d), func(k int) int64 { return int64(slices.Index(d, least+int64(k))) })
		w.add(1, "shuffle 2 %d %d -1 0 %s", r, r, commas(table))
		w.add(1, "store 0 2 1 -1 %d", least)
	}
	w.writes("group", d...)
	w.kept = slices.DeleteFunc(w.kept, func(g keptGroup) bool { return g.vector == r })
	w.kept = append(w.kept, keptGroup{d, r})
}

// packedBy writes the program of units as the document words it, and returns it with its cost.
func packedBy(m impl.Machine, code []impl.Stmt, units [][]int64, seen map[string]int) ([]string, int64) {
	w := &packWriter{code: code, lanes: m.Lanes, seen: seen}
	if slices.ContainsFunc(units, func(unit []int64) bool { return len(unit) == 1 }) {
		w.add(1, "steps 7 0 1 -1 0")
		w.add(1, "fill 6 0 0 -1 1")
		w.add(1, "cmp 3 7 6 -1 2")
	}
	for _, unit := range units {
		if len(unit) == 1 {
			w.single(code[unit[0]])
		} else {
			w.group(unit)
		}
	}
	return w.lines, w.cost
}

// costBy is the cost of a packing; it fails if the packing is not possible, or its program too long.
func costBy(m impl.Machine, code []impl.Stmt, p impl.Packing) (int64, bool) {
	units, ok := unitsBy(code, p)
	if !ok {
		return 0, false
	}
	lines, cost := packedBy(m, code, units, map[string]int{})
	return cost, len(lines) <= 60
}

// greedyBy adds groups as the document words it.
func greedyBy(m impl.Machine, code []impl.Stmt) (impl.Packing, int64, bool) {
	best := impl.Packing{}
	cost, ok := costBy(m, code, best)
	if !ok {
		return impl.Packing{}, 0, false
	}
	inLine := slices.DeleteFunc(groupsBy(m, code), func(group []int64) bool {
		for k, i := range group {
			if code[i].D != code[group[0]].D+int64(k) {
				return true
			}
		}
		return false
	})
	for {
		var added []int64
		for _, group := range inLine {
			if slices.ContainsFunc(group, func(i int64) bool { return slices.Contains(slices.Concat(best.Groups...), i) }) {
				continue
			}
			if c, ok := costBy(m, code, withGroup(best, group)); ok && c < cost {
				added, cost = group, c
			}
		}
		if added == nil {
			return best, cost, true
		}
		best = withGroup(best, added)
	}
}

// withGroup is a packing with one more group.
func withGroup(p impl.Packing, group []int64) impl.Packing {
	place := 0
	for place < len(p.Groups) && slices.Min(p.Groups[place]) < slices.Min(group) {
		place++
	}
	return packing(slices.Insert(slices.Clone(p.Groups), place, group)...)
}

// packable is code of so many statements with few operations, which write so many cells and read from others near to one another; how far these are from those that are written is shift.
func packable(roll *dice, n int, ops, written, read, shift int64) []impl.Stmt {
	most := []int64{impl.OpAdd, impl.OpMul, impl.OpSub, impl.OpShrS}
	to := roll.below(impl.MaxCells - written + 1)
	a, b := bounded(to+shift, 0, impl.MaxCells-read), bounded(to-shift, 0, impl.MaxCells-read)
	return repeated(n, func(int64) impl.Stmt {
		return impl.Stmt{Op: most[roll.below(ops)], D: to + roll.below(written), A: a + roll.below(read), B: b + roll.below(read)}
	})
}

// layered is code with so many groups one after another, and with up to so many single statements behind them, and the packing with these groups. Most operands are the cells of a group before, in their order or in another one.
func layered(roll *dice, m impl.Machine, groups, singles int) ([]impl.Stmt, impl.Packing) {
	lanes, code, p, written := int(m.Lanes), []impl.Stmt{}, impl.Packing{}, [][]int64{}
	ordered := func(cells []int64) []int64 {
		if roll.below(3) > 0 {
			return cells
		}
		return shuffled(cells, mixed(roll, lanes))
	}
	operand := func() []int64 {
		if len(written) > 0 && roll.below(4) > 0 {
			return ordered(written[roll.below(int64(len(written)))])
		}
		from := roll.below(impl.MaxCells - 2*m.Lanes + 1)
		if roll.below(2) == 0 {
			return ordered(upFrom(from, lanes))
		}
		return lanesBy(lanes, func(int) int64 { return from + roll.below(2*m.Lanes) })
	}
	for len(p.Groups) < groups {
		d, a, b := ordered(upFrom(roll.below(5)*m.Lanes+roll.below(2), lanes)), operand(), operand()
		places, op := mixed(roll, lanes), roll.below(3)
		longer, group := append(slices.Clone(code), make([]impl.Stmt, lanes)...), make([]int64, lanes)
		for k, place := range places {
			group[k] = int64(len(code)) + place
			longer[group[k]] = impl.Stmt{Op: op, D: d[k], A: a[k], B: b[k]}
		}
		if !isGroupBy(m, longer, group) {
			continue
		}
		code, p.Groups, written = longer, append(p.Groups, group), append(written, d)
		for singles > 0 && roll.below(2) == 0 {
			code = append(code, impl.Stmt{Op: roll.below(lastOp + 1), D: roll.below(5 * m.Lanes), A: roll.below(20), B: roll.below(20)})
			singles--
		}
	}
	return code, p
}

// packCodes are codes of up to so many statements for a machine, with many groups and without any.
func packCodes(m impl.Machine, most, rounds int) [][]impl.Stmt {
	roll, list := dice(10*m.Lanes+m.Bits), [][]impl.Stmt{nil, {}, apart(most), chain(most)}
	for range rounds {
		n := 1 + int(roll.below(int64(most)))
		list = append(list, packable(&roll, n, 1+roll.below(4), m.Lanes+roll.below(4), 1+roll.below(3*m.Lanes), roll.below(12)))
		groups := most / int(m.Lanes)
		code, _ := layered(&roll, m, groups, most-groups*int(m.Lanes))
		list = append(list, code)
	}
	return list
}

// TestGroups asks for all lists of as many statements as lanes.
func TestGroups(t *testing.T) {
	count := map[bool]int{}
	for _, m := range packMachines() {
		for _, code := range packCodes(m, bestSize(m), 15) {
			for _, list := range allLists(int(m.Lanes), int64(len(code))) {
				want := isGroupBy(m, code, list)
				count[want]++
				if got := impl.IsGroup(m, code, list); got != want {
					t.Fatalf("IsGroup(%v, %v, %v) is %v", m, code, list, got)
				}
			}
		}
	}
	if count[true] < 500 || count[false] < 500 {
		t.Errorf("of all lists, %d are groups and %d are none", count[true], count[false])
	}
}

func TestGroupsByHand(t *testing.T) {
	cases := []struct {
		text  string
		group []int64
		want  bool
	}{
		{"8=0 add 4;9=1 add 5", []int64{0, 1}, true}, {"8=0 add 4;9=1 add 5", []int64{1, 0}, true}, {"9=0 add 4;8=1 add 5", []int64{0, 1}, true}, {"9=0 add 4;8=1 add 5", []int64{1, 0}, true},
		{"8=0 add 4;20=7 mul 7;9=1 add 5", []int64{0, 2}, true}, {"8=0 add 4;20=7 mul 7;9=1 add 5", []int64{0, 1}, false},
		// One operation, and no other one that would do the same.
		{"8=0 add 4;9=1 sub 5", []int64{0, 1}, false}, {"8=0 and 0;9=1 or 1", []int64{0, 1}, false},
		// The cells D are neighbours.
		{"8=0 add 4;10=1 add 5", []int64{0, 1}, false}, {"10=0 add 4;8=1 add 5", []int64{0, 1}, false}, {"8=0 add 4;8=1 add 5", []int64{0, 1}, false}, {"30=0 add 4;31=1 add 5", []int64{0, 1}, true}, {"0=8 add 4;1=8 add 5", []int64{1, 0}, true},
		{"8=0 add 0;9=0 add 0;10=0 add 0;11=0 add 0", []int64{0, 1, 2, 3}, true}, {"11=0 add 0;8=0 add 0;10=0 add 0;9=0 add 0", []int64{2, 0, 1, 3}, true}, {"8=0 add 0;9=0 add 0;10=0 add 0;12=0 add 0", []int64{0, 1, 2, 3}, false},
		{"8=0 add 0;9=0 add 0;9=0 add 0;11=0 add 0", []int64{0, 1, 2, 3}, false}, {"8=0 add 0;9=0 add 0;11=0 add 0;12=0 add 0", []int64{0, 1, 2, 3}, false}, {"7=0 add 0;9=0 add 0;10=0 add 0;11=0 add 0", []int64{3, 1, 2, 0}, false},
		// So are the cells A and B nearly, each for themselves: in a window.
		{"8=0 add 4;9=3 add 5", []int64{0, 1}, true}, {"8=3 add 4;9=0 add 5", []int64{0, 1}, true}, {"8=0 add 4;9=4 add 5", []int64{0, 1}, false}, {"8=4 add 4;9=0 add 5", []int64{0, 1}, false}, {"8=0 add 4;9=5 add 5", []int64{0, 1}, false},
		{"8=0 add 4;9=1 add 7", []int64{0, 1}, true}, {"8=0 add 7;9=1 add 4", []int64{1, 0}, true}, {"8=0 add 3;9=1 add 7", []int64{0, 1}, false}, {"8=0 add 7;9=1 add 3", []int64{1, 0}, false}, {"8=0 add 0;9=1 add 31", []int64{0, 1}, false},
		{"8=0 add 31;9=0 add 31", []int64{0, 1}, true}, {"8=28 add 31;9=31 add 28", []int64{0, 1}, true}, {"8=0 add 31;9=3 add 28", []int64{0, 1}, true},
		{"20=0 add 9;21=7 add 9;22=1 add 9;23=3 add 9", []int64{0, 1, 2, 3}, true}, {"20=0 add 9;21=8 add 9;22=1 add 9;23=3 add 9", []int64{0, 1, 2, 3}, false}, {"20=1 add 9;21=3 add 9;22=9 add 9;23=2 add 9", []int64{3, 2, 1, 0}, false},
		{"20=9 add 0;21=9 add 3;22=9 add 7;23=9 add 1", []int64{0, 1, 2, 3}, true}, {"20=9 add 1;21=9 add 3;22=9 add 0;23=9 add 8", []int64{0, 1, 2, 3}, false}, {"20=4 add 4;21=4 add 4;22=4 add 4;23=4 add 4", []int64{3, 2, 1, 0}, true},
		// None follows another one, in whichever order they stand in the group.
		{"8=6 add 4;9=8 add 5", []int64{0, 1}, false}, {"8=6 add 4;9=8 add 5", []int64{1, 0}, false}, {"8=6 add 6;9=6 add 8", []int64{0, 1}, false}, {"9=8 add 4;8=7 add 5", []int64{0, 1}, false}, {"9=6 add 8;8=7 add 7", []int64{1, 0}, false},
		// A statement may write a cell that it reads, and two may be about the same cells behind a third one.
		{"8=8 add 4;9=9 add 5", []int64{0, 1}, true}, {"8=8 add 9;9=9 add 8", []int64{0, 1}, false}, {"8=0 add 0;3=8 sub 8;9=3 add 0", []int64{0, 2}, true}, {"4=1 add 1;8=4 add 4;9=4 add 4", []int64{1, 2}, true},
		{"20=0 add 0;21=0 add 0;22=0 add 0;23=0 add 20", []int64{0, 1, 2, 3}, false}, {"20=0 add 0;21=20 add 0;22=20 add 0;23=20 add 0", []int64{1, 2, 3, 0}, false}, {"20=23 add 20;21=20 add 20;22=20 add 20;23=20 add 20", []int64{0, 1, 2, 3}, false},
	}
	for _, c := range cases {
		for _, bits := range allBits {
			m := impl.Machine{Lanes: int64(len(c.group)), Bits: bits}
			if got := impl.IsGroup(m, codeOf(c.text), c.group); got != c.want {
				t.Errorf("IsGroup(%v, %s, %v) is %v", m, c.text, c.group, got)
			}
		}
	}
}

func TestNoGroups(t *testing.T) {
	two, four := impl.Machine{Lanes: 2, Bits: 8}, impl.Machine{Lanes: 4, Bits: 16}
	code := repeated(6, func(i int64) impl.Stmt { return impl.Stmt{D: 20 + i, A: i, B: i} })
	for _, n := range []int{0, 1, 2, 3, 4, 5, 6, 8, 16, 100} {
		list := identity(n)
		if got := impl.IsGroup(two, code, list); got != (n == 2) {
			t.Errorf("with 2 lanes, IsGroup of %v is %v", list, got)
		}
		if got := impl.IsGroup(four, code, list); got != (n == 4) {
			t.Errorf("with 4 lanes, IsGroup of %v is %v", list, got)
		}
	}
	// These name a statement twice, or one that is none.
	for _, list := range append(noIndices(2, 6), []int64{0, 0}, []int64{1, 1}, []int64{5, 6}, []int64{-1, 0}, []int64{-1, -1}, []int64{6, 7}, []int64{0, 32}, []int64{0, 33}, []int64{0, 65}) {
		if impl.IsGroup(two, code, list) || impl.IsPacking(two, code, packing(list)) {
			t.Errorf("IsGroup of %v is true, or it makes a packing", list)
		}
	}
	for _, list := range append(noIndices(4, 6), []int64{0, 1, 2, 2}, []int64{0, 0, 1, 2}, []int64{0, 1, 2, 0}, []int64{3, 4, 5, 6}, []int64{-1, 0, 1, 2}, []int64{0, 1, 2, 35}) {
		if impl.IsGroup(four, code, list) || impl.IsPacking(four, code, packing(list)) {
			t.Errorf("IsGroup of %v is true, or it makes a packing", list)
		}
	}
	for _, list := range [][]int64{nil, {0}, {0, 1}} {
		if impl.IsGroup(two, nil, list) || impl.IsGroup(two, code[:1], list) {
			t.Errorf("%v is a group of less than 2 statements", list)
		}
	}
}

// programText is a program as texts, without the functions that are tested.
func programText(program []impl.Instr) []string {
	lines := []string{}
	for _, x := range program {
		lines = append(lines, plainText(x))
	}
	return lines
}

// checkPacking holds all that is told of a packing against the document, and its code against the scalar code.
func checkPacking(t *testing.T, m impl.Machine, code []impl.Stmt, p impl.Packing, seen map[string]int) {
	t.Helper()
	want, possible := unitsBy(code, p)
	units, ok := impl.UnitsOf(m, code, p)
	if is := impl.IsPacking(m, code, p); is != possible || ok != possible || fmt.Sprint(units) != fmt.Sprint(want) {
		t.Fatalf("%v, %v: IsPacking of %v is %v, and UnitsOf is %v, %v, want %v, %v", m, code, p, is, units, ok, want, possible)
	}
	var lines []string
	least := int64(0)
	if possible {
		lines, least = packedBy(m, code, want, seen)
	} else {
		seen["waiting"]++
	}
	fits := possible && len(lines) <= impl.MaxProgram
	if possible && !fits {
		seen["too long"]++
		lines, least = nil, 0
	}
	program, one := impl.PackCode(m, code, p)
	cost, two := impl.PackCost(m, code, p)
	if one != fits || two != fits || cost != least || !slices.Equal(programText(program), lines) {
		t.Fatalf("%v, %v: PackCode of %v is %v, %v and costs %d, %v, want %v, %v for %d", m, code, p, programText(program), one, cost, two, lines, fits, least)
	}
	if fits && !impl.ValidProgram(m, program) {
		t.Fatalf("%v, %v: PackCode of %v is no program", m, code, p)
	}
	cells := someCells(m.Bits, int64(len(code))+least)
	end, ran := impl.RunPacked(m, code, p, cells)
	scalar, _ := impl.RunCode(m.Bits, code, cells)
	if !fits {
		scalar = nil
	}
	if ran != fits || !slices.Equal(end, scalar) {
		t.Fatalf("%v, %v: RunPacked of %v for %v is %v, %v, want %v, %v", m, code, p, cells, end, ran, scalar, fits)
	}
}

// TestPackings is promise 8: all packings of much code do what it does, and none of them costs less than the best one.
func TestPackings(t *testing.T) {
	seen := map[string]int{}
	for _, m := range packMachines() {
		for _, code := range packCodes(m, bestSize(m), 50) {
			all := packingsBy(groupsBy(m, code))
			best, least := impl.Packing{}, int64(math.MaxInt64)
			for _, p := range all {
				checkPacking(t, m, code, p, seen)
				cost, ok := costBy(m, code, p)
				if ok && (cost < least || cost == least && slices.Compare(slices.Concat(p.Groups...), slices.Concat(best.Groups...)) < 0) {
					best, least = p, cost
				}
			}
			if got, cost, ok := impl.BestPacking(m, code); !ok || cost != least || fmt.Sprint(got) != fmt.Sprint(best) {
				t.Fatalf("BestPacking(%v, %v) is %v, %d, %v, want %v, %d", m, code, got, cost, ok, best, least)
			}
			greedy, cost, _ := greedyBy(m, code)
			if got, c, ok := impl.GreedyPacking(m, code); !ok || c != cost || fmt.Sprint(got) != fmt.Sprint(greedy) {
				t.Fatalf("GreedyPacking(%v, %v) is %v, %d, %v, want %v, %d", m, code, got, c, ok, greedy, cost)
			}
			if cost > least {
				seen["greedy is not best"]++
			}
		}
	}
	wantSeen(t, seen, "kept", "ascending", "one vector", "two vectors", "in line", "in another order", "written by a group", "written by a single statement", "waiting", "greedy is not best")
}

// wantSeen holds that samples went all the ways that they are for.
func wantSeen(t *testing.T, seen map[string]int, ways ...string) {
	t.Helper()
	for _, way := range ways {
		if seen[way] < 20 {
			t.Errorf("of the sample, just %d are for '%s'", seen[way], way)
		}
	}
}

// TestLongPackings has codes of up to MaxStmts statements, and a choice of their packings.
func TestLongPackings(t *testing.T) {
	seen, roll := map[string]int{}, dice(3)
	for _, m := range packMachines() {
		for round := range 120 {
			groups := 1 + int(roll.below(impl.MaxStmts/m.Lanes))
			code, full := layered(&roll, m, groups, impl.MaxStmts-groups*int(m.Lanes))
			for parts := range int64(4) {
				// None, some or most of the groups become single statements.
				p := impl.Packing{}
				for _, group := range full.Groups {
					if roll.below(4) >= parts {
						p = withGroup(p, group)
					}
				}
				checkPacking(t, m, code, p, seen)
			}
			if round%4 > 0 {
				continue
			}
			greedy, cost, fits := greedyBy(m, code)
			if got, c, ok := impl.GreedyPacking(m, code); ok != fits || c != cost || fmt.Sprint(got) != fmt.Sprint(greedy) {
				t.Fatalf("GreedyPacking(%v, %v) is %v, %d, %v, want %v, %d, %v", m, code, got, c, ok, greedy, cost, fits)
			}
		}
	}
	wantSeen(t, seen, "kept", "ascending", "one vector", "two vectors", "in line", "in another order", "written by a group", "written by a single statement", "too long")
}

// packCase has a packing of a code for 2 or 4 lanes, its units and the program of these; without units, it is not possible.
type packCase struct {
	lanes   int64
	text    string
	groups  [][]int64
	units   string
	program string
	cost    int64
}

// maskLines are the instructions that packed code with a single statement begins with.
const maskLines = "steps 7 0 1 -1 0; fill 6 0 0 -1 1; cmp 3 7 6 -1 2; "

// twoSums are the statements of the document's example, and the instructions for them as a group.
const (
	twoSums     = "8=0 add 4;9=1 add 5"
	twoSumLines = "load 0 0 1 -1 0; load 1 0 1 -1 4; op 3 0 1 -1 0; store 0 3 1 -1 8; "
)

var packCases = []packCase{
	{2, "", nil, "[]", "", 0}, {4, "", nil, "[]", "", 0},
	{2, "5=31 mul 31", nil, "[[0]]", maskLines + "load 0 0 1 3 31; load 1 0 1 3 31; op 2 0 1 3 2; store 0 2 1 3 5", 9},
	{4, "31=0 shrs 7", nil, "[[0]]", maskLines + "load 0 0 1 3 0; load 1 0 1 3 7; op 2 0 1 3 17; store 0 2 1 3 31", 7},
	{2, twoSums, nil, "[[0] [1]]", maskLines + "load 0 0 1 3 0; load 1 0 1 3 4; op 2 0 1 3 0; store 0 2 1 3 8; load 0 0 1 3 1; load 1 0 1 3 5; op 2 0 1 3 0; store 0 2 1 3 9", 11},
	{2, twoSums, [][]int64{{0, 1}}, "[[0 1]]", twoSumLines, 4},
	{2, twoSums, [][]int64{{1, 0}}, "[[1 0]]", "load 0 0 1 -1 0; shuffle 0 0 0 -1 0 1,0; load 1 0 1 -1 4; shuffle 1 1 1 -1 0 1,0; op 3 0 1 -1 0; shuffle 2 3 3 -1 0 1,0; store 0 2 1 -1 8", 7},
	{2, "8=7 mul 3;9=7 mul 3", [][]int64{{0, 1}}, "[[0 1]]", "load 0 0 1 -1 7; shuffle 0 0 0 -1 0 0,0; load 1 0 1 -1 3; shuffle 1 1 1 -1 0 0,0; op 3 0 1 -1 2; store 0 3 1 -1 8", 8},
	// Windows of more cells than lanes, up to just less than twice as many.
	{2, "8=0 sub 5;9=2 sub 3", [][]int64{{0, 1}}, "[[0 1]]", "load 0 0 1 -1 0; load 2 0 1 -1 2; shuffle 0 0 2 -1 0 0,2; load 1 0 1 -1 3; load 2 0 1 -1 5; shuffle 1 1 2 -1 0 2,0; op 3 0 1 -1 1; store 0 3 1 -1 8", 10},
	{2, "8=0 sub 5;9=3 sub 2", [][]int64{{0, 1}}, "[[0 1]]", "load 0 0 1 -1 0; load 2 0 1 -1 2; shuffle 0 0 2 -1 0 0,3; load 1 0 1 -1 2; load 2 0 1 -1 4; shuffle 1 1 2 -1 0 3,0; op 3 0 1 -1 1; store 0 3 1 -1 8", 10},
	{2, "8=0 sub 5;9=4 sub 5", [][]int64{{0, 1}}, "", "", 0},
	{4, "20=3 and 8;21=5 and 15;22=4 and 9;23=6 and 8", [][]int64{{0, 1, 2, 3}}, "[[0 1 2 3]]", "load 0 0 1 -1 3; shuffle 0 0 0 -1 0 0,2,1,3; load 1 0 1 -1 8; load 2 0 1 -1 12; shuffle 1 1 2 -1 0 0,7,1,0; op 3 0 1 -1 3; store 0 3 1 -1 20", 8},
	{4, "20=3 and 8;21=5 and 16;22=4 and 9;23=6 and 8", [][]int64{{0, 1, 2, 3}}, "", "", 0},
	{4, "22=3 or 8;20=4 or 8;23=5 or 8;21=6 or 8", [][]int64{{0, 1, 2, 3}}, "[[0 1 2 3]]", "load 0 0 1 -1 3; load 1 0 1 -1 8; shuffle 1 1 1 -1 0 0,0,0,0; op 3 0 1 -1 4; shuffle 2 3 3 -1 0 1,3,0,2; store 0 2 1 -1 20", 6},
	{4, "22=3 or 8;20=4 or 8;23=5 or 8;21=6 or 8", [][]int64{{1, 3, 0, 2}}, "[[1 3 0 2]]", "load 0 0 1 -1 3; shuffle 0 0 0 -1 0 1,3,0,2; load 1 0 1 -1 8; shuffle 1 1 1 -1 0 0,0,0,0; op 3 0 1 -1 4; store 0 3 1 -1 20", 6},
	// The ends of the cells.
	{2, "30=0 or 2;31=1 or 3", [][]int64{{0, 1}}, "[[0 1]]", "load 0 0 1 -1 0; load 1 0 1 -1 2; op 3 0 1 -1 4; store 0 3 1 -1 30", 4},
	{2, "0=31 xor 28;1=30 xor 31", [][]int64{{0, 1}}, "[[0 1]]", "load 0 0 1 -1 30; shuffle 0 0 0 -1 0 1,0; load 1 0 1 -1 28; load 2 0 1 -1 30; shuffle 1 1 2 -1 0 0,3; op 3 0 1 -1 5; store 0 3 1 -1 0", 8},
	{2, "0=31 xor 29;1=31 xor 31", [][]int64{{0, 1}}, "[[0 1]]", "load 0 0 1 -1 31; shuffle 0 0 0 -1 0 0,0; load 1 0 1 -1 29; load 2 0 1 -1 31; shuffle 1 1 2 -1 0 0,2; op 3 0 1 -1 5; store 0 3 1 -1 0", 8},
	{4, "0=31 minu 27;1=24 minu 31;2=30 minu 28;3=27 minu 27", [][]int64{{0, 1, 2, 3}}, "[[0 1 2 3]]", "load 0 0 1 -1 24; load 2 0 1 -1 28; shuffle 0 0 2 -1 0 7,0,6,3; load 1 0 1 -1 27; load 2 0 1 -1 31; shuffle 1 1 2 -1 0 0,4,1,0; op 3 0 1 -1 6; store 0 3 1 -1 0", 10},
	// Statements in the cells that they read.
	{2, "8=8 add 8;9=9 add 9", [][]int64{{0, 1}}, "[[0 1]]", "load 0 0 1 -1 8; load 1 0 1 -1 8; op 3 0 1 -1 0; store 0 3 1 -1 8", 4},
	// Operands that are kept, and the same cells in another order.
	{2, twoSums + ";10=8 mul 0;11=9 mul 1", [][]int64{{0, 1}, {2, 3}}, "[[0 1] [2 3]]", twoSumLines + "load 1 0 1 -1 0; op 4 3 1 -1 2; store 0 4 1 -1 10", 9},
	{2, twoSums + ";10=0 and 8;11=1 and 9", [][]int64{{0, 1}, {2, 3}}, "[[0 1] [2 3]]", twoSumLines + "load 0 0 1 -1 0; op 4 0 3 -1 3; store 0 4 1 -1 10", 7},
	{2, twoSums + ";11=8 and 8;10=9 and 9", [][]int64{{0, 1}, {2, 3}}, "[[0 1] [2 3]]", twoSumLines + "op 4 3 3 -1 3; shuffle 2 4 4 -1 0 1,0; store 0 2 1 -1 10", 7},
	{2, twoSums + ";10=9 and 8;11=8 and 9", [][]int64{{0, 1}, {2, 3}}, "[[0 1] [2 3]]", twoSumLines + "load 0 0 1 -1 8; shuffle 0 0 0 -1 0 1,0; op 4 0 3 -1 3; store 0 4 1 -1 10", 8},
	{2, twoSums + ";10=9 and 8;11=8 and 9", [][]int64{{0, 1}, {3, 2}}, "[[0 1] [3 2]]", twoSumLines + "load 1 0 1 -1 8; shuffle 1 1 1 -1 0 1,0; op 4 3 1 -1 3; shuffle 2 4 4 -1 0 1,0; store 0 2 1 -1 10", 9},
	{2, "9=0 add 4;8=1 add 5;10=9 and 8;11=8 and 9", [][]int64{{0, 1}, {2, 3}}, "[[0 1] [2 3]]", "load 0 0 1 -1 0; load 1 0 1 -1 4; op 3 0 1 -1 0; shuffle 2 3 3 -1 0 1,0; store 0 2 1 -1 8; load 1 0 1 -1 8; op 4 3 1 -1 3; store 0 4 1 -1 10", 8},
	{2, twoSums + ";10=8 and 8;11=8 and 9", [][]int64{{0, 1}, {2, 3}}, "[[0 1] [2 3]]", twoSumLines + "load 0 0 1 -1 8; shuffle 0 0 0 -1 0 0,0; op 4 0 3 -1 3; store 0 4 1 -1 10", 8},
	{2, twoSums + ";10=7 and 9;11=8 and 10", [][]int64{{0, 1}}, "[[0 1] [2] [3]]", maskLines + twoSumLines + "load 0 0 1 3 7; load 1 0 1 3 9; op 2 0 1 3 3; store 0 2 1 3 10; load 0 0 1 3 8; load 1 0 1 3 10; op 2 0 1 3 3; store 0 2 1 3 11", 15},
	{4, "20=0 add 4;21=1 add 5;22=2 add 6;23=3 add 7;24=20 sub 20;25=21 sub 22;26=22 sub 21;27=23 sub 23", [][]int64{{0, 1, 2, 3}, {4, 5, 6, 7}}, "[[0 1 2 3] [4 5 6 7]]", "load 0 0 1 -1 0; load 1 0 1 -1 4; op 3 0 1 -1 0; store 0 3 1 -1 20; load 1 0 1 -1 20; shuffle 1 1 1 -1 0 0,2,1,3; op 4 3 1 -1 1; store 0 4 1 -1 24", 8},
	// Groups that are kept no more: their cells are written by a single statement, or by a group; and one that is, as another cell is written.
	{2, twoSums + ";9=2 add 2;10=8 or 0;11=9 or 1", [][]int64{{0, 1}, {3, 4}}, "[[0 1] [2] [3 4]]", maskLines + twoSumLines + "load 0 0 1 3 2; load 1 0 1 3 2; op 2 0 1 3 0; store 0 2 1 3 9; load 0 0 1 -1 8; load 1 0 1 -1 0; op 4 0 1 -1 4; store 0 4 1 -1 10", 15},
	{2, twoSums + ";7=2 add 2;10=8 or 0;11=9 or 1", [][]int64{{0, 1}, {3, 4}}, "[[0 1] [2] [3 4]]", maskLines + twoSumLines + "load 0 0 1 3 2; load 1 0 1 3 2; op 2 0 1 3 0; store 0 2 1 3 7; load 1 0 1 -1 0; op 4 3 1 -1 4; store 0 4 1 -1 10", 14},
	{2, twoSums + ";9=0 add 4;10=1 add 5;12=8 or 9;13=9 or 10", [][]int64{{0, 1}, {2, 3}, {4, 5}}, "[[0 1] [2 3] [4 5]]", twoSumLines + "load 0 0 1 -1 0; load 1 0 1 -1 4; op 4 0 1 -1 0; store 0 4 1 -1 9; load 0 0 1 -1 8; op 5 0 4 -1 4; store 0 5 1 -1 12", 11},
	// The latest one of groups with the same cells, be these in the same order or in another one.
	{2, twoSums + ";8=0 sub 4;9=1 sub 5;10=8 or 9;11=9 or 8", [][]int64{{0, 1}, {2, 3}, {4, 5}}, "[[0 1] [2 3] [4 5]]", twoSumLines + "load 0 0 1 -1 0; load 1 0 1 -1 4; op 4 0 1 -1 1; store 0 4 1 -1 8; load 1 0 1 -1 8; shuffle 1 1 1 -1 0 1,0; op 5 4 1 -1 4; store 0 5 1 -1 10", 12},
	{2, twoSums + ";9=0 sub 4;8=1 sub 5;10=8 or 9;11=9 or 8", [][]int64{{0, 1}, {2, 3}, {4, 5}}, "[[0 1] [2 3] [4 5]]", twoSumLines + "load 0 0 1 -1 0; load 1 0 1 -1 4; op 4 0 1 -1 1; shuffle 2 4 4 -1 0 1,0; store 0 2 1 -1 8; load 0 0 1 -1 8; op 5 0 4 -1 4; store 0 5 1 -1 10", 12},
	{2, "8=0 add 4;9=1 add 5;8=8 add 8;9=9 add 9;8=8 add 8;9=9 add 9", [][]int64{{0, 1}, {2, 3}, {4, 5}}, "[[0 1] [2 3] [4 5]]", twoSumLines + "op 4 3 3 -1 0; store 0 4 1 -1 8; op 5 4 4 -1 0; store 0 5 1 -1 8", 8},
	// The fourth group reads the first one and takes its vector, the fifth one that of the second one.
	{2, "8=0 add 2;9=1 add 3;10=0 sub 2;11=1 sub 3;12=0 xor 2;13=1 xor 3;14=8 or 12;15=9 or 13;16=8 and 10;17=9 and 11;18=14 mul 10;19=15 mul 11", [][]int64{{0, 1}, {2, 3}, {4, 5}, {6, 7}, {8, 9}, {10, 11}}, "[[0 1] [2 3] [4 5] [6 7] [8 9] [10 11]]",
		"load 0 0 1 -1 0; load 1 0 1 -1 2; op 3 0 1 -1 0; store 0 3 1 -1 8; load 0 0 1 -1 0; load 1 0 1 -1 2; op 4 0 1 -1 1; store 0 4 1 -1 10; load 0 0 1 -1 0; load 1 0 1 -1 2; op 5 0 1 -1 5; store 0 5 1 -1 12; " +
			"op 3 3 5 -1 4; store 0 3 1 -1 14; load 0 0 1 -1 8; op 4 0 4 -1 3; store 0 4 1 -1 16; load 1 0 1 -1 10; op 5 3 1 -1 2; store 0 5 1 -1 18", 22},
	// A group whose vector is taken before its cells are written, and one whose cells are written before its vector is taken.
	{2, "8=0 add 2;9=1 add 3;8=0 sub 2;9=1 sub 3;12=0 xor 2;13=1 xor 3;14=0 or 2;15=1 or 3;16=8 and 14;17=9 and 15", [][]int64{{0, 1}, {2, 3}, {4, 5}, {6, 7}, {8, 9}}, "[[0 1] [2 3] [4 5] [6 7] [8 9]]",
		"load 0 0 1 -1 0; load 1 0 1 -1 2; op 3 0 1 -1 0; store 0 3 1 -1 8; load 0 0 1 -1 0; load 1 0 1 -1 2; op 4 0 1 -1 1; store 0 4 1 -1 8; load 0 0 1 -1 0; load 1 0 1 -1 2; op 5 0 1 -1 5; store 0 5 1 -1 12; " +
			"load 0 0 1 -1 0; load 1 0 1 -1 2; op 3 0 1 -1 4; store 0 3 1 -1 14; op 4 4 3 -1 3; store 0 4 1 -1 16", 18},
	// Units in another order than that of the list; and those that wait for each other.
	{2, "8=0 add 4;10=9 sub 0;9=1 add 5", [][]int64{{0, 2}}, "[[1] [0 2]]", maskLines + "load 0 0 1 3 9; load 1 0 1 3 0; op 2 0 1 3 1; store 0 2 1 3 10; " + twoSumLines, 11},
	{2, "8=0 add 4;3=8 sub 4;9=3 add 5", [][]int64{{0, 2}}, "", "", 0},
	{2, "8=0 add 4;2=8 sub 4;3=6 sub 5;9=3 add 5", [][]int64{{0, 3}, {1, 2}}, "", "", 0},
	{2, "8=0 add 4;2=8 sub 4;3=6 sub 5;9=3 add 5", [][]int64{{0, 3}}, "[[2] [0 3] [1]]", maskLines + "load 0 0 1 3 6; load 1 0 1 3 5; op 2 0 1 3 1; store 0 2 1 3 3; load 0 0 1 -1 0; load 2 0 1 -1 2; shuffle 0 0 2 -1 0 0,3; load 1 0 1 -1 4; op 3 0 1 -1 0; store 0 3 1 -1 8; load 0 0 1 3 8; load 1 0 1 3 4; op 2 0 1 3 1; store 0 2 1 3 2", 18},
	{2, "8=0 add 4;2=8 sub 4;3=6 sub 5;9=3 add 5", [][]int64{{1, 2}}, "[[0] [1 2] [3]]", maskLines + "load 0 0 1 3 0; load 1 0 1 3 4; op 2 0 1 3 0; store 0 2 1 3 8; load 0 0 1 -1 6; load 2 0 1 -1 8; shuffle 0 0 2 -1 0 2,0; load 1 0 1 -1 4; op 3 0 1 -1 1; store 0 3 1 -1 2; load 0 0 1 3 3; load 1 0 1 3 5; op 2 0 1 3 0; store 0 2 1 3 9", 18},
	{2, "20=0 mul 0;9=1 add 5;8=20 add 4", [][]int64{{1, 2}}, "", "", 0},
	{2, "4=0 sub 0;9=1 add 5;8=4 add 4;5=9 sub 1", [][]int64{{1, 2}}, "[[0] [1 2] [3]]", maskLines + "load 0 0 1 3 0; load 1 0 1 3 0; op 2 0 1 3 1; store 0 2 1 3 4; load 0 0 1 -1 1; load 2 0 1 -1 3; shuffle 0 0 2 -1 0 0,3; load 1 0 1 -1 4; shuffle 1 1 1 -1 0 1,0; op 3 0 1 -1 0; shuffle 2 3 3 -1 0 1,0; store 0 2 1 -1 8; load 0 0 1 3 9; load 1 0 1 3 1; op 2 0 1 3 1; store 0 2 1 3 5", 20},
	// Of the units that are ready, the one with the least statement is next, which need not be its first one.
	{2, "8=0 add 4;20=0 sub 0;9=1 add 5", [][]int64{{2, 0}}, "[[2 0] [1]]", maskLines + "load 0 0 1 -1 0; shuffle 0 0 0 -1 0 1,0; load 1 0 1 -1 4; shuffle 1 1 1 -1 0 1,0; op 3 0 1 -1 0; shuffle 2 3 3 -1 0 1,0; store 0 2 1 -1 8; load 0 0 1 3 0; load 1 0 1 3 0; op 2 0 1 3 1; store 0 2 1 3 20", 14},
}

func TestPackCodeByHand(t *testing.T) {
	for _, c := range packCases {
		m, code, p := impl.Machine{Lanes: c.lanes, Bits: 16}, codeOf(c.text), packing(c.groups...)
		units, ok := impl.UnitsOf(m, code, p)
		if possible := c.units != ""; ok != possible || impl.IsPacking(m, code, p) != possible || ok && fmt.Sprint(units) != c.units || !ok && len(units) > 0 {
			t.Errorf("UnitsOf(%s, %v) = %v, %v, want %s", c.text, c.groups, units, ok, c.units)
		}
		program, fine := impl.PackCode(m, code, p)
		if got := strings.Join(programText(program), "; "); fine != ok || got != strings.TrimSuffix(c.program, "; ") {
			t.Errorf("PackCode(%s, %v) is\n%s, %v, want\n%s", c.text, c.groups, got, fine, c.program)
		}
		if cost, fine := impl.PackCost(m, code, p); fine != ok || cost != c.cost {
			t.Errorf("PackCost(%s, %v) = %d, %v, want %d", c.text, c.groups, cost, fine, c.cost)
		}
		cells := someCells(16, 9)
		end, fine := impl.RunPacked(m, code, p, cells)
		if want, _ := impl.RunCode(16, code, cells); fine != ok || ok && !slices.Equal(end, want) || !ok && len(end) > 0 {
			t.Errorf("RunPacked(%s, %v) = %v, %v, want %v", c.text, c.groups, end, fine, want)
		}
		text, _ := impl.CodeText(code)
		if text != c.text {
			t.Errorf("the test's code %s is read as %s", c.text, text)
		}
	}
}

// TestRunPackedByHand is about the cells behind the code of a packing, and about those that it leaves as they are.
func TestRunPackedByHand(t *testing.T) {
	cells := upFrom(0, impl.MaxCells)
	code := codeOf("8=0 add 4;9=1 add 5;10=9 xor 0;11=8 xor 1;12=11 sub 31")
	want := append(append(upFrom(0, 8), 4, 6, 6, 5, 230), upFrom(13, impl.MaxCells-13)...)
	for _, p := range packingsBy(groupsBy(impl.Machine{Lanes: 2, Bits: 8}, code)) {
		end, ok := impl.RunPacked(impl.Machine{Lanes: 2, Bits: 8}, code, p, cells)
		wantList(t, fmt.Sprintf("RunPacked by %v", p), end, ok, want)
	}
	for _, m := range packMachines() {
		end, ok := impl.RunPacked(m, nil, impl.Packing{}, someCells(m.Bits, 3))
		wantList(t, "RunPacked of no code", end, ok, someCells(m.Bits, 3))
	}
}

// TestLongPrograms has programs with just MaxProgram instructions, and with one less and one more.
func TestLongPrograms(t *testing.T) {
	singles := func(n int) string {
		return strings.Join(strings.Split(strings.Repeat("16=0 add 1;", n), ";")[:n], ";")
	}
	two := func(b string) string { return twoSums + ";10=2 sub 6;11=" + b + ";" }
	cases := []struct {
		lanes  int64
		text   string
		groups [][]int64
		length int
	}{
		{2, singles(14), nil, 59}, {4, singles(14), nil, 59}, {2, singles(15), nil, 63}, {2, singles(16), nil, 67}, {4, singles(15), nil, 63},
		{2, two("3 sub 7") + singles(12), [][]int64{{0, 1}, {2, 3}}, 59}, {2, two("3 sub 6") + singles(12), [][]int64{{0, 1}, {2, 3}}, 60}, {2, two("2 sub 6") + singles(12), [][]int64{{0, 1}, {2, 3}}, 61}, {2, two("5 sub 7") + singles(12), [][]int64{{0, 1}, {2, 3}}, 61},
		{2, twoSums + ";" + singles(13), [][]int64{{0, 1}}, 59}, {2, "8=0 add 4;9=1 add 4;" + singles(13), [][]int64{{0, 1}}, 60}, {2, "8=0 add 4;9=0 add 4;" + singles(13), [][]int64{{0, 1}}, 61}, {2, "9=0 add 4;8=1 add 5;" + singles(13), [][]int64{{0, 1}}, 60}, {2, twoSums + ";" + singles(14), [][]int64{{0, 1}}, 63},
		{4, "8=0 add 4;9=1 add 5;10=2 add 6;11=3 add 7;" + singles(12), [][]int64{{0, 1, 2, 3}}, 55}, {4, "8=0 add 14;9=0 add 21;11=0 add 18;10=7 add 14;" + singles(12), [][]int64{{0, 1, 2, 3}}, 60}, {4, "8=0 add 4;9=1 add 5;10=2 add 6;11=3 add 7;" + singles(12), nil, 67},
	}
	for _, c := range cases {
		m, code, p := impl.Machine{Lanes: c.lanes, Bits: 8}, codeOf(c.text), packing(c.groups...)
		fits := c.length <= 60
		if !impl.IsPacking(m, code, p) {
			t.Errorf("%v is no packing of %s", c.groups, c.text)
		}
		program, ok := impl.PackCode(m, code, p)
		if ok != fits || ok && len(program) != c.length || !ok && len(program) > 0 {
			t.Errorf("PackCode(%s, %v) has %d instructions, %v, want %d", c.text, c.groups, len(program), ok, c.length)
		}
		if cost, ok := impl.PackCost(m, code, p); ok != fits || fits != (cost > 0) {
			t.Errorf("PackCost(%s, %v) = %d, %v", c.text, c.groups, cost, ok)
		}
		if end, ok := impl.RunPacked(m, code, p, make([]int64, impl.MaxCells)); ok != fits || fits != (len(end) > 0) {
			t.Errorf("RunPacked(%s, %v) = %v, %v", c.text, c.groups, end, ok)
		}
		units, ok := impl.UnitsOf(m, code, p)
		if want, _ := unitsBy(code, p); !ok || fmt.Sprint(units) != fmt.Sprint(want) {
			t.Errorf("UnitsOf(%s, %v) = %v, %v, want %v", c.text, c.groups, units, ok, want)
		}
		greedy, cost, ok := impl.GreedyPacking(m, code)
		if fits := len(code) <= 14; ok != fits || !ok && (len(greedy.Groups) > 0 || cost != 0) {
			t.Errorf("GreedyPacking(%s) = %v, %d, %v", c.text, greedy, cost, ok)
		}
	}
}

func TestChoicesByHand(t *testing.T) {
	cases := []struct {
		lanes        int64
		text         string
		greedy, best [][]int64
		cost, least  int64
	}{
		{2, "", nil, nil, 0, 0}, {4, "", nil, nil, 0, 0}, {2, "8=0 add 4", nil, nil, 7, 7}, {4, "8=0 mul 4", nil, nil, 9, 9},
		{2, twoSums, [][]int64{{0, 1}}, [][]int64{{0, 1}}, 4, 4}, {4, twoSums, nil, nil, 11, 11},
		{2, twoSums + ";10=2 add 6;11=3 add 7", [][]int64{{0, 1}, {2, 3}}, [][]int64{{0, 1}, {2, 3}}, 8, 8}, {4, twoSums + ";10=2 add 6;11=3 add 7", [][]int64{{0, 1, 2, 3}}, [][]int64{{0, 1, 2, 3}}, 4, 4},
		// The greedy one takes groups alone whose cells D ascend.
		{2, "25=29 add 20;24=29 add 21;24=30 add 21", [][]int64{{1, 0}}, [][]int64{{0, 2}}, 13, 12},
		{2, "9=0 sub 4;8=1 sub 5", [][]int64{{1, 0}}, [][]int64{{0, 1}}, 6, 5}, {4, "9=0 sub 4;8=1 sub 5;11=2 sub 6;10=3 sub 7", [][]int64{{1, 0, 3, 2}}, [][]int64{{0, 1, 2, 3}}, 6, 5},
		// Several groups, and then several packings, cost as little.
		{2, "14=23 add 9;15=22 add 9", [][]int64{{0, 1}}, [][]int64{{0, 1}}, 6, 6}, {2, "8=0 add 4;9=1 add 4;9=0 add 5", [][]int64{{0, 1}}, [][]int64{{0, 1}}, 12, 12},
		{2, twoSums + ";10=2 add 6", [][]int64{{0, 1}}, [][]int64{{0, 1}}, 11, 11}, {2, "10=2 add 6;9=1 add 5;8=0 add 4", [][]int64{{1, 0}}, [][]int64{{1, 0}}, 11, 11},
		// Groups that cost just as much as no groups, and one that costs more.
		{2, "8=0 sub 5;9=3 sub 4;20=20 sub 20", nil, nil, 15, 15}, {2, "8=0 sub 5;9=3 sub 2;20=20 sub 20", nil, nil, 15, 15}, {2, "8=0 sub 5;9=3 sub 4", [][]int64{{0, 1}}, [][]int64{{0, 1}}, 8, 8},
		// What is kept makes the second group cheaper than another one.
		{2, twoSums + ";10=8 mul 0;11=9 mul 1", [][]int64{{0, 1}, {2, 3}}, [][]int64{{0, 1}, {2, 3}}, 9, 9},
		{2, twoSums + ";11=9 mul 1;10=8 mul 0", [][]int64{{0, 1}, {3, 2}}, [][]int64{{0, 1}, {3, 2}}, 9, 9},
		// Two groups wait for each other, so there can be just one of them.
		{2, "8=0 add 4;2=8 sub 4;3=6 sub 5;9=3 add 5", [][]int64{{0, 3}}, [][]int64{{0, 3}}, 18, 18},
	}
	for _, c := range cases {
		m, code := impl.Machine{Lanes: c.lanes, Bits: 4}, codeOf(c.text)
		greedy, cost, ok := impl.GreedyPacking(m, code)
		if !ok || cost != c.cost || fmt.Sprint(greedy) != fmt.Sprint(packing(c.greedy...)) {
			t.Errorf("GreedyPacking(%s) with %d lanes is %v, %d, %v, want %v, %d", c.text, c.lanes, greedy, cost, ok, c.greedy, c.cost)
		}
		best, least, ok := impl.BestPacking(m, code)
		if !ok || least != c.least || fmt.Sprint(best) != fmt.Sprint(packing(c.best...)) {
			t.Errorf("BestPacking(%s) with %d lanes is %v, %d, %v, want %v, %d", c.text, c.lanes, best, least, ok, c.best, c.least)
		}
	}
}

// TestBestSizes has as many statements as BestPacking takes, and more.
func TestBestSizes(t *testing.T) {
	for _, m := range packMachines() {
		for _, code := range [][]impl.Stmt{apart(16), chain(16), repeated(16, func(i int64) impl.Stmt { return impl.Stmt{D: 8 + i, A: i, B: 4 + i} })} {
			for n := range len(code) + 1 {
				best, cost, ok := impl.BestPacking(m, code[:n])
				if n > bestSize(m) {
					if ok || len(best.Groups) > 0 || cost != 0 {
						t.Errorf("with %d lanes, BestPacking of %d statements is %v, %d, %v", m.Lanes, n, best, cost, ok)
					}
					continue
				}
				greedy, most, _ := impl.GreedyPacking(m, code[:n])
				if !ok || cost > most || n == 0 != (cost == 0) || !impl.IsPacking(m, code[:n], best) {
					t.Errorf("with %d lanes, BestPacking of %d statements is %v, %d, %v, the greedy one %v, %d", m.Lanes, n, best, cost, ok, greedy, most)
				}
			}
		}
	}
}

func TestPackingTexts(t *testing.T) {
	long, longText := longList(impl.MaxItems)
	cases := []struct {
		groups [][]int64
		want   string
	}{
		{nil, "-"}, {[][]int64{}, "-"}, {[][]int64{{0, 1}}, "0,1"}, {[][]int64{{3, 0}, {2, 1}}, "3,0/2,1"}, {[][]int64{{0, 2, 1, 3}}, "0,2,1,3"}, {[][]int64{{1, 0, 3, 2}, {4, 6, 5, 7}, {15, 14, 13, 12}}, "1,0,3,2/4,6,5,7/15,14,13,12"},
		// What has the text of a packing need not be one.
		{[][]int64{nil}, "none"}, {[][]int64{{}, {5}, {}}, "none/5/none"}, {[][]int64{{0}}, "0"}, {[][]int64{{7, 7}, {7, 7}}, "7,7/7,7"}, {[][]int64{{-1000000000, 1000000000}}, "-1000000000,1000000000"}, {[][]int64{{-1}, {99}}, "-1/99"},
		{[][]int64{long}, longText}, {[][]int64{{1}, long}, "1/" + longText}, {slices.Repeat([][]int64{{2, 3}}, 16), strings.Repeat("2,3/", 15) + "2,3"}, {slices.Repeat([][]int64{long}, 16), strings.Repeat(longText+"/", 15) + longText},
	}
	for _, c := range cases {
		if got, ok := impl.PackingText(packing(c.groups...)); !ok || got != c.want {
			t.Errorf("PackingText(%v) = %q, %v, want %q", c.groups, got, ok, c.want)
		}
	}
	tooLong := make([]int64, impl.MaxItems+1)
	wrong := [][][]int64{slices.Repeat([][]int64{{2, 3}}, 17), slices.Repeat([][]int64{nil}, 17), make([][]int64, 1000), {tooLong}, {{0, 1}, tooLong}, {tooLong, {0, 1}}, {make([]int64, 1000)}}
	for _, n := range noValues {
		wrong = append(wrong, [][]int64{{n}}, [][]int64{{0, n}}, [][]int64{{n, 0}}, [][]int64{{0, 1}, {n, 2}}, [][]int64{{2, n}, {0, 1}}, [][]int64{nil, nil, {n}})
	}
	for _, groups := range wrong {
		if got, ok := impl.PackingText(packing(groups...)); ok || got != "" {
			t.Errorf("PackingText(%v) = %q, %v", groups, got, ok)
		}
	}
}

// packArgs are arguments for all functions of the chapter, which take those that they have.
type packArgs struct {
	m     impl.Machine
	code  []impl.Stmt
	group []int64
	p     impl.Packing
	cells []int64
}

// packAnswer has all that a function can return.
type packAnswer struct {
	lists   [][]int64
	program []impl.Instr
	p       impl.Packing
	number  int64
	text    string
	ok      bool
}

// packCall is a function of the chapter with what it takes: of a machine and code, the group, the packing p and the cells, or the text of p alone.
type packCall struct {
	name, takes string
	run         func(x packArgs) packAnswer
}

func listsAnswer(lists [][]int64, ok bool) packAnswer { return packAnswer{lists: lists, ok: ok} }

func cellsAnswer(list []int64, ok bool) packAnswer {
	if len(list) == 0 {
		return packAnswer{ok: ok}
	}
	return packAnswer{lists: [][]int64{list}, ok: ok}
}

func programAnswer(program []impl.Instr, ok bool) packAnswer {
	return packAnswer{program: program, ok: ok}
}

func numberAnswer(number int64, ok bool) packAnswer { return packAnswer{number: number, ok: ok} }

func packingAnswer(p impl.Packing, cost int64, ok bool) packAnswer {
	return packAnswer{p: p, number: cost, ok: ok}
}

func textAnswer(text string, ok bool) packAnswer { return packAnswer{text: text, ok: ok} }

var packCalls = []packCall{
	{"IsGroup", "code group", func(x packArgs) packAnswer { return packAnswer{ok: impl.IsGroup(x.m, x.code, x.group)} }},
	{"IsPacking", "code p", func(x packArgs) packAnswer { return packAnswer{ok: impl.IsPacking(x.m, x.code, x.p)} }},
	{"UnitsOf", "code p", func(x packArgs) packAnswer { return listsAnswer(impl.UnitsOf(x.m, x.code, x.p)) }},
	{"PackCode", "code p", func(x packArgs) packAnswer { return programAnswer(impl.PackCode(x.m, x.code, x.p)) }},
	{"PackCost", "code p", func(x packArgs) packAnswer { return numberAnswer(impl.PackCost(x.m, x.code, x.p)) }},
	{"RunPacked", "code p cells", func(x packArgs) packAnswer { return cellsAnswer(impl.RunPacked(x.m, x.code, x.p, x.cells)) }},
	{"GreedyPacking", "code", func(x packArgs) packAnswer { return packingAnswer(impl.GreedyPacking(x.m, x.code)) }},
	{"BestPacking", "code", func(x packArgs) packAnswer { return packingAnswer(impl.BestPacking(x.m, x.code)) }},
	{"PackingText", "text", func(x packArgs) packAnswer { return textAnswer(impl.PackingText(x.p)) }},
}

// isZero reports whether an answer is that of a function that fails.
func (a packAnswer) isZero() bool {
	return !a.ok && len(a.lists)+len(a.program)+len(a.p.Groups)+len(a.text) == 0 && a.number == 0
}

// fittingPack has a group, a packing and cells for a machine.
func fittingPack(m impl.Machine) packArgs {
	code := codeOf("11=0 mul 4;8=1 mul 5;9=2 mul 6;10=2 mul 6;12=9 sub 8;13=10 sub 11")
	if m.Lanes == 4 {
		return packArgs{m, code, []int64{1, 3, 2, 0}, packing([]int64{1, 3, 2, 0}), someCells(m.Bits, 1)}
	}
	return packArgs{m, code, []int64{3, 2}, packing([]int64{3, 0}, []int64{1, 2}), someCells(m.Bits, 1)}
}

// noPackings are no packings for fitting arguments.
func noPackings(m impl.Machine) []impl.Packing {
	list := []impl.Packing{packing(nil), packing(nil, nil), packing([]int64{}), packing([]int64{3}), packing(identity(8)), packing(identity(6))}
	lanes := int(m.Lanes)
	for _, wrong := range append(noIndices(lanes, 6), identity(lanes-1), identity(lanes+1), make([]int64, lanes), lanesBy(lanes, func(int) int64 { return 5 })) {
		list = append(list, packing(wrong), packing(append(slices.Clone(fittingPack(m).p.Groups), wrong)...), packing(append([][]int64{wrong}, fittingPack(m).p.Groups...)...))
	}
	if m.Lanes == 4 {
		// Twice the same group, and one with a statement that follows another one.
		return append(list, packing([]int64{1, 3, 2, 0}, []int64{1, 3, 2, 0}), packing([]int64{1, 3, 2, 0}, []int64{0, 1, 2, 3}), packing([]int64{2, 3, 4, 5}))
	}
	return append(list,
		// A statement in two groups.
		packing([]int64{3, 0}, []int64{3, 0}), packing([]int64{3, 0}, []int64{0, 3}), packing([]int64{1, 2}, []int64{2, 3}), packing([]int64{0, 3}, []int64{3, 2}), packing([]int64{1, 2}, []int64{2, 1}), packing([]int64{0, 3}, []int64{1, 2}, []int64{2, 3}),
		// Groups in another order, also if their first statements ascend.
		packing([]int64{1, 2}, []int64{0, 3}), packing([]int64{1, 2}, []int64{3, 0}), packing([]int64{4, 5}, []int64{1, 2}), packing([]int64{0, 3}, []int64{4, 5}, []int64{1, 2}),
		// Statements that cannot be together.
		packing([]int64{0, 1}), packing([]int64{3, 5}), packing([]int64{0, 3}, []int64{2, 4}))
}

// noCellLists are no cells for words of some bits.
func noCellLists(bits int64) [][]int64 {
	list := [][]int64{nil, {}, make([]int64, impl.MaxCells-1), make([]int64, impl.MaxCells+1), make([]int64, impl.MaxMemory), make([]int64, 1000)}
	for _, wrong := range noWords(bits) {
		for _, place := range []int{0, impl.MaxCells / 2, impl.MaxCells - 1} {
			cells := make([]int64, impl.MaxCells)
			cells[place] = wrong
			list = append(list, cells)
		}
	}
	return list
}

// TestPackingFails changes one argument after another: other results must be zero values then.
func TestPackingFails(t *testing.T) {
	for _, m := range packMachines() {
		for _, c := range packCalls {
			fine := fittingPack(m)
			if a := c.run(fine); !a.ok {
				t.Fatalf("%s of fitting arguments %v is %v", c.name, fine, a)
			}
			refuse := func(x packArgs) {
				t.Helper()
				if a := c.run(x); !a.isZero() {
					t.Errorf("%s of %v is %v", c.name, x, a)
				}
			}
			if strings.Contains(c.takes, "code") {
				refuseMachines(fine, refuse)
			}
			x := fine
			switch strings.TrimPrefix(c.takes, "code ") {
			case "group":
				for _, p := range noPackings(m) {
					if x.group = p.Groups[0]; len(p.Groups) == 1 {
						refuse(x)
					}
				}
			case "p", "p cells":
				for _, x.p = range noPackings(m) {
					refuse(x)
				}
			}
			if x = fine; strings.HasSuffix(c.takes, "cells") {
				for _, x.cells = range noCellLists(m.Bits) {
					refuse(x)
				}
			}
		}
	}
}

// refuseMachines has all machines and codes that the functions of the chapter refuse, also with what is fitting without any statement.
func refuseMachines(fine packArgs, refuse func(x packArgs)) {
	x := fine
	for _, m := range append(noMachines(), impl.Machine{Lanes: 8, Bits: fine.m.Bits}, impl.Machine{Lanes: 16, Bits: fine.m.Bits}, impl.Machine{Lanes: 8, Bits: 4}, impl.Machine{Lanes: 16, Bits: 16}) {
		x.m = m
		refuse(x)
		refuse(packArgs{m: m, cells: make([]int64, impl.MaxCells)})
		if lanes := m.Lanes; lanes > 0 && lanes <= 16 {
			// There are enough statements for a group.
			code := repeated(int(lanes), func(i int64) impl.Stmt { return impl.Stmt{D: 10 + i} })
			refuse(packArgs{m, code, identity(len(code)), packing(identity(len(code))), x.cells})
		}
	}
	x = fine
	for _, x.code = range noCodes() {
		refuse(x)
		refuse(packArgs{fine.m, x.code, fine.group, impl.Packing{}, fine.cells})
	}
}

// TestPackingStaysEqual is promise 1 for this chapter: no call changes an argument, and no result shares memory with an argument or another result, or with another list of its answer.
func TestPackingStaysEqual(t *testing.T) {
	two, four := impl.Machine{Lanes: 2, Bits: 4}, impl.Machine{Lanes: 4, Bits: 16}
	shapes := []packArgs{
		fittingPack(two), fittingPack(four), {two, nil, nil, impl.Packing{}, someCells(4, 2)},
		{two, codeOf("8=0 add 4;9=1 add 5;10=9 sub 8;11=8 sub 9;13=0 or 3;12=3 or 0"), []int64{4, 5}, packing([]int64{0, 1}, []int64{3, 2}, []int64{4, 5}), someCells(4, 3)},
		{four, codeOf("8=0 add 4;9=1 add 5;10=2 add 6;11=3 add 7;20=0 and 1"), identity(4), packing(identity(4)), someCells(16, 4)},
	}
	for _, shape := range shapes {
		for _, c := range packCalls {
			x := shape
			var code []impl.Stmt
			var kept [2][]int64
			var table [2][][]int64
			x.code, code = roomyCode(x.code)
			x.group, kept[0] = roomy(x.group)
			x.cells, kept[1] = roomy(x.cells)
			x.p.Groups, table = roomyTable(x.p.Groups)
			before := fmt.Sprint(code, kept, table)
			first, second := c.run(x), c.run(x)
			want := fmt.Sprint(first)
			if first.ok != (c.name != "IsGroup" || len(shape.code) > 0) || fmt.Sprint(second) != want {
				t.Fatalf("%s of %v is %s and then %v", c.name, x, want, second)
			}
			checkApart(t, c.name, first.allLists())
			first.spoil()
			if third := c.run(x); fmt.Sprint(second) != want || fmt.Sprint(third) != want {
				t.Errorf("%s of %v: results share memory: %v and %v, want %s", c.name, x, second, third, want)
			}
			if after := fmt.Sprint(code, kept, table); after != before {
				t.Errorf("%s changes its arguments from %s to %s", c.name, before, after)
			}
		}
	}
}

// allLists are the lists of an answer that have numbers.
func (a packAnswer) allLists() [][]int64 {
	lists := slices.Concat(a.lists, a.p.Groups)
	for _, x := range a.program {
		lists = append(lists, x.Table)
	}
	return lists
}

// spoil changes all memory of an answer.
func (a packAnswer) spoil() {
	for _, list := range a.allLists() {
		overwrite(list)
	}
	spoil(a.lists)
	spoil(a.p.Groups)
	for i := range a.program[:cap(a.program)] {
		a.program[:cap(a.program)][i] = impl.Instr{Kind: -7}
	}
}

func TestPackingConstants(t *testing.T) {
	if impl.MaxBestTwo != 8 || impl.MaxBestFour != 6 {
		t.Errorf("MaxBestTwo and MaxBestFour are %d and %d", impl.MaxBestTwo, impl.MaxBestFour)
	}
}
