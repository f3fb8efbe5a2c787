package tests

import (
	"fmt"
	"math"
	"slices"
	"strings"
	"testing"

	"loop.example/g01139/impl"
)

var (
	noCells = []int64{math.MinInt64, -32, -1, impl.MaxCells, impl.MaxCells + 1, 64, powerOf(32), math.MaxInt64}
	// commutes has a true for each operation whose order of words does not matter.
	commutes = []bool{true, false, true, true, true, true, true, true, true, true, true, true, false, false, true, false, false, false}
)

// dice rolls numbers without any pattern, which are the same in each run.
type dice int64

func (d *dice) below(n int64) int64 {
	*d = (*d*1103515245 + 12345) % dice(powerOf(31))
	return int64(*d) / 1024 % n
}

// codeOf reads code by plain splitting, to be held against ReadCode.
func codeOf(text string) []impl.Stmt {
	var code []impl.Stmt
	for _, part := range strings.Split(text, ";") {
		var s impl.Stmt
		var name string
		if n, _ := fmt.Sscanf(part, "%d=%d %s %d", &s.D, &s.A, &name, &s.B); n == 4 {
			s.Op = int64(slices.Index(opNames, name))
			code = append(code, s)
		}
	}
	return code
}

// repeated is code of n statements, each of them made from its index.
func repeated(n int, statement func(i int64) impl.Stmt) []impl.Stmt {
	code := make([]impl.Stmt, n)
	for i := range code {
		code[i] = statement(int64(i))
	}
	return code
}

// chain is code in which each statement reads what the one before it has written.
func chain(n int) []impl.Stmt {
	return repeated(n, func(i int64) impl.Stmt { return impl.Stmt{Op: impl.OpAdd, D: i + 1, A: i, B: 31} })
}

// apart is code in which nothing must follow anything.
func apart(n int) []impl.Stmt {
	return repeated(n, func(i int64) impl.Stmt { return impl.Stmt{Op: impl.OpXor, D: i, A: 30, B: 31} })
}

// manyCodes are codes of all lengths up to most, about few cells and about all of them.
func manyCodes(most int) [][]impl.Stmt {
	list := [][]impl.Stmt{nil, {}}
	roll := dice(7)
	for n := 1; n <= most; n++ {
		for _, cells := range []int64{1, 2, 3, 5, 9, impl.MaxCells} {
			for range 5 {
				list = append(list, repeated(n, func(int64) impl.Stmt {
					return impl.Stmt{Op: roll.below(lastOp + 1), D: roll.below(cells), A: roll.below(cells), B: impl.MaxCells - 1 - roll.below(cells)}
				}), repeated(n, func(int64) impl.Stmt {
					return impl.Stmt{Op: roll.below(3), D: roll.below(cells), A: roll.below(cells), B: roll.below(cells)}
				}))
			}
		}
		list = append(list, chain(n), apart(n))
	}
	return list
}

// noCodes are lists that are no valid code, most of them for one field of one statement; without it, each statement must follow all before it.
func noCodes() [][]impl.Stmt {
	same := func(n int) []impl.Stmt {
		return repeated(n, func(int64) impl.Stmt { return impl.Stmt{Op: impl.OpAdd, D: 2, A: 2, B: 2} })
	}
	list := [][]impl.Stmt{same(impl.MaxStmts + 1), same(impl.MaxStmts + 2), same(100)}
	add := func(wrong impl.Stmt) {
		for _, n := range []int{1, 3, impl.MaxStmts} {
			for _, place := range []int{0, n / 2, n - 1} {
				code := same(n)
				code[place] = wrong
				list = append(list, code)
			}
		}
	}
	for _, op := range noOps {
		add(impl.Stmt{Op: op, D: 2, A: 2, B: 2})
	}
	for _, cell := range noCells {
		add(impl.Stmt{D: cell, A: 2, B: 2})
		add(impl.Stmt{D: 2, A: cell, B: 2})
		add(impl.Stmt{D: 2, A: 2, B: cell})
	}
	return list
}

// someCells are MaxCells words, edges among them, that differ with the seed.
func someCells(bits, seed int64) []int64 {
	roll, edges := dice(seed), edgeWords(bits)
	return lanesBy(impl.MaxCells, func(i int) int64 {
		if i%2 == 0 {
			return edges[roll.below(int64(len(edges)))]
		}
		return roll.below(powerOf(bits))
	})
}

func run(t *testing.T, bits int64, code []impl.Stmt, cells []int64) []int64 {
	t.Helper()
	end, ok := impl.RunCode(bits, code, cells)
	if !ok || len(end) != impl.MaxCells {
		t.Fatalf("RunCode(%d, %v, %v) = %v, %v", bits, code, cells, end, ok)
	}
	return end
}

func identity(n int) []int64 { return lanesBy(n, func(i int) int64 { return int64(i) }) }

func TestValidCode(t *testing.T) {
	for _, code := range manyCodes(impl.MaxStmts) {
		if !impl.ValidCode(code) {
			t.Errorf("ValidCode(%v) is false", code)
		}
	}
	for op := range int64(lastOp + 1) {
		for _, cell := range []int64{0, 1, impl.MaxCells - 1} {
			if code := []impl.Stmt{{Op: op, D: cell, A: impl.MaxCells - 1 - cell, B: cell}}; !impl.ValidCode(code) {
				t.Errorf("ValidCode(%v) is false", code)
			}
		}
	}
	for _, code := range noCodes() {
		if impl.ValidCode(code) {
			t.Errorf("ValidCode(%v) is true", code)
		}
	}
}

func TestRunCode(t *testing.T) {
	for seed, code := range manyCodes(impl.MaxStmts) {
		for _, bits := range allBits {
			cells := someCells(bits, int64(seed))
			want := slices.Clone(cells)
			for _, s := range code {
				a, b := want[s.A], want[s.B]
				want[s.D] = wantOp(s.Op, bits, a, b)
			}
			wantList(t, fmt.Sprintf("RunCode(%d, %v, %v)", bits, code, cells), run(t, bits, code, cells), true, want)
		}
	}
}

func TestRunCodeByHand(t *testing.T) {
	cases := []struct {
		bits        int64
		text        string
		first, want []int64
		// last is what is in the last cell in the end; like all cells behind the first ones, it holds 6 at first.
		last int64
	}{
		{8, "2=0 add 1;3=2 mul 2;2=0 sub 1", []int64{5, 2, 9}, []int64{5, 2, 3, 49}, 6},
		{8, "2=0 add 1;3=1 add 0", []int64{250, 10}, []int64{250, 10, 4, 4}, 6},
		{4, "", []int64{1, 2, 3}, []int64{1, 2, 3}, 6},
		// The cell that is written is read before.
		{8, "2=2 add 2", []int64{1, 2, 3}, []int64{1, 2, 6}, 6},
		{8, "2=2 sub 2", []int64{1, 2, 3}, []int64{1, 2, 0}, 6},
		{8, "0=0 sub 1;0=0 sub 1", []int64{1, 2}, []int64{253, 2}, 6},
		{16, "0=1 sub 0", []int64{1, 2}, []int64{1, 2}, 6},
		// One statement writes what another one has just read, or has just written.
		{8, "1=0 add 0;0=1 add 1", []int64{1, 9}, []int64{4, 2}, 6},
		{8, "0=1 add 1;0=1 mul 1", []int64{1, 9}, []int64{81, 9}, 6},
		{16, "0=1 xor 0;1=0 xor 1;0=1 xor 0", []int64{300, 20}, []int64{20, 300}, 6},
		{16, strings.Repeat("0=0 add 0;", 16), []int64{1}, []int64{0}, 6},
		{16, strings.Repeat("0=0 add 0;", 15), []int64{1}, []int64{32768}, 6},
		{8, "31=0 add 1", []int64{7, 8}, []int64{7, 8}, 15},
		{8, "0=31 add 31", []int64{7}, []int64{12}, 6},
	}
	for _, c := range cases {
		cells := lanesBy(impl.MaxCells, func(int) int64 { return 6 })
		copy(cells, c.first)
		want := slices.Clone(cells)
		copy(want, c.want)
		want[impl.MaxCells-1] = c.last
		wantList(t, "RunCode of "+c.text, run(t, c.bits, codeOf(c.text), cells), true, want)
	}
}

func TestRunCodeFails(t *testing.T) {
	refuse := func(bits int64, code []impl.Stmt, cells []int64) {
		t.Helper()
		if end, ok := impl.RunCode(bits, code, cells); ok || len(end) != 0 {
			t.Errorf("RunCode(%d, %v, %v) = %v, %v", bits, code, cells, end, ok)
		}
	}
	for _, code := range [][]impl.Stmt{nil, chain(3)} {
		for _, bits := range noBits {
			refuse(bits, code, make([]int64, impl.MaxCells))
		}
		for _, bits := range allBits {
			for _, n := range []int{0, 1, 16, impl.MaxCells - 1, impl.MaxCells + 1, 64} {
				refuse(bits, code, make([]int64, n))
			}
			for _, x := range noWords(bits) {
				for _, place := range []int{0, 15, impl.MaxCells - 1} {
					cells := make([]int64, impl.MaxCells)
					cells[place] = x
					refuse(bits, code, cells)
				}
			}
		}
	}
}

// follows is what the specification says of the statement j and a statement i, both of them in code.
func follows(code []impl.Stmt, i, j int64) bool {
	if i >= j {
		return false
	}
	x, y := code[i], code[j]
	return x.D == y.A || x.D == y.B || x.D == y.D || y.D == x.A || y.D == x.B
}

func TestMustFollow(t *testing.T) {
	for _, code := range manyCodes(impl.MaxStmts) {
		n := int64(len(code))
		for i := int64(-2); i < n+2; i++ {
			for j := int64(-2); j < n+2; j++ {
				want := i >= 0 && j >= 0 && i < n && j < n && follows(code, i, j)
				if impl.MustFollow(code, i, j) != want {
					t.Fatalf("MustFollow(%v, %d, %d) = %v", code, i, j, !want)
				}
			}
		}
	}
}

func TestMustFollowByHand(t *testing.T) {
	cases := []struct {
		text string
		want bool
	}{
		{"2=0 add 1;4=2 add 3", true}, {"2=0 add 1;4=3 add 2", true}, {"2=0 add 1;2=3 add 4", true},
		{"2=0 add 1;0=3 add 4", true}, {"2=0 add 1;1=3 add 4", true}, {"2=2 add 2;2=2 add 2", true},
		{"31=0 add 1;4=31 add 3", true}, {"0=1 add 2;3=4 add 0", true},
		{"2=0 add 1;3=0 add 1", false}, {"2=0 add 1;3=1 add 0", false}, {"2=0 add 0;3=4 add 4", false}, {"0=31 add 31;1=31 add 31", false},
	}
	for _, c := range cases {
		code := codeOf(c.text)
		if impl.MustFollow(code, 0, 1) != c.want {
			t.Errorf("MustFollow(%s, 0, 1) = %v", c.text, !c.want)
		}
		for _, pair := range [][2]int64{{1, 0}, {0, 0}, {1, 1}, {-1, 0}, {-1, 1}, {0, 2}, {1, 2}, {0, -1}, {math.MinInt64, 1}, {0, math.MaxInt64}, {powerOf(32), powerOf(32) + 1}} {
			if impl.MustFollow(code, pair[0], pair[1]) {
				t.Errorf("MustFollow(%s, %d, %d) is true", c.text, pair[0], pair[1])
			}
		}
	}
	for _, code := range noCodes() {
		for i := range min(4, int64(len(code))) {
			for _, j := range []int64{i, i + 1, int64(len(code)) - 1} {
				if impl.MustFollow(code, i, j) {
					t.Errorf("MustFollow(%v, %d, %d) is true", code, i, j)
				}
			}
		}
	}
}

func TestDependencesOf(t *testing.T) {
	for _, code := range manyCodes(impl.MaxStmts) {
		want := [][]int64{}
		for i := range int64(len(code)) {
			for j := range int64(len(code)) {
				if follows(code, i, j) {
					want = append(want, []int64{i, j})
				}
			}
		}
		got, ok := impl.DependencesOf(code)
		if !ok || fmt.Sprint(got) != fmt.Sprint(want) {
			t.Fatalf("DependencesOf(%v) = %v, %v, want %v", code, got, ok, want)
		}
	}
}

func TestDependencesByHand(t *testing.T) {
	cases := []struct{ text, want string }{
		{"", "[]"}, {"0=0 add 0", "[]"}, {"2=0 add 1;3=2 mul 2;2=0 sub 1", "[[0 1] [0 2] [1 2]]"},
		{"1=0 add 0;2=0 add 0;3=2 add 0;4=1 add 0", "[[0 3] [1 2]]"},
		{"1=0 add 0;2=0 add 0;3=0 add 0;4=1 add 2;5=1 add 3", "[[0 3] [0 4] [1 3] [2 4]]"},
	}
	for _, c := range cases {
		if got, ok := impl.DependencesOf(codeOf(c.text)); !ok || fmt.Sprint(got) != c.want {
			t.Errorf("DependencesOf(%s) = %v, %v, want %s", c.text, got, ok, c.want)
		}
	}
	if got, ok := impl.DependencesOf(repeated(16, func(int64) impl.Stmt { return impl.Stmt{} })); !ok || len(got) != 120 {
		t.Errorf("16 statements about one cell have %d dependences, %v", len(got), ok)
	}
}

// levelOf follows the statements that the statement j must follow as far back as they go.
func levelOf(code []impl.Stmt, j int64, known map[int64]int64) int64 {
	if level, ok := known[j]; ok {
		return level
	}
	level := int64(0)
	for i := range j {
		if follows(code, i, j) {
			level = max(level, 1+levelOf(code, i, known))
		}
	}
	known[j] = level
	return level
}

func TestLevelsOf(t *testing.T) {
	for _, code := range manyCodes(impl.MaxStmts) {
		known := map[int64]int64{}
		want := lanesBy(len(code), func(j int) int64 { return levelOf(code, int64(j), known) })
		got, ok := impl.LevelsOf(code)
		wantList(t, fmt.Sprintf("LevelsOf(%v)", code), got, ok, want)
	}
	cases := []struct {
		text string
		want []int64
	}{
		{"", nil}, {"0=0 add 0", []int64{0}}, {"2=0 add 1;3=2 mul 2;2=0 sub 1", []int64{0, 1, 2}}, {"2=0 add 1;3=1 add 0", []int64{0, 0}},
		{"2=0 add 1;3=2 add 2;4=0 add 1;5=4 add 3", []int64{0, 1, 0, 2}}, {"2=0 add 1;0=3 add 3;1=4 add 4;0=5 add 5", []int64{0, 1, 1, 2}},
	}
	for _, c := range cases {
		got, ok := impl.LevelsOf(codeOf(c.text))
		wantList(t, "LevelsOf "+c.text, got, ok, c.want)
	}
	got, ok := impl.LevelsOf(chain(impl.MaxStmts))
	wantList(t, "LevelsOf a chain", got, ok, identity(impl.MaxStmts))
	got, ok = impl.LevelsOf(apart(impl.MaxStmts))
	wantList(t, "LevelsOf statements apart", got, ok, make([]int64, impl.MaxStmts))
}

// permutations calls f with each list of the indices 0 to n - 1.
func permutations(n int, f func(order []int64)) {
	var extend func(order []int64)
	extend = func(order []int64) {
		if len(order) == n {
			f(slices.Clone(order))
			return
		}
		for i := range int64(n) {
			if !slices.Contains(order, i) {
				extend(append(slices.Clone(order), i))
			}
		}
	}
	extend(nil)
}

// keeps reports whether a list of all indices has each statement behind those that it must follow.
func keeps(code []impl.Stmt, order []int64) bool {
	for k, j := range order {
		for _, later := range order[k+1:] {
			if follows(code, later, j) {
				return false
			}
		}
	}
	return true
}

// TestOrders holds the functions with orders against all lists of indices: which of them are orders, how many, and that they do what code does.
func TestOrders(t *testing.T) {
	for seed, code := range manyCodes(5) {
		count := int64(0)
		cells := someCells(8, int64(seed))
		end := run(t, 8, code, cells)
		permutations(len(code), func(order []int64) {
			want := keeps(code, order)
			moved, ok := impl.ReorderCode(code, order)
			if impl.IsOrder(code, order) != want || ok != want {
				t.Fatalf("IsOrder(%v, %v) is not %v, or ReorderCode is %v", code, order, want, ok)
			}
			if !want {
				if len(moved) != 0 {
					t.Fatalf("ReorderCode(%v, %v) fails with %v", code, order, moved)
				}
				return
			}
			count++
			for k, i := range order {
				if moved[k] != code[i] {
					t.Fatalf("ReorderCode(%v, %v) = %v", code, order, moved)
				}
			}
			wantList(t, fmt.Sprintf("RunCode of %v in the order %v", code, order), run(t, 8, moved, cells), len(moved) == len(code), end)
		})
		if got, ok := impl.CountOrders(code); !ok || got != count {
			t.Fatalf("CountOrders(%v) = %d, %v, want %d", code, got, ok, count)
		}
	}
}

// TestLongOrders takes orders of longer code, each next statement chosen among all that can come.
func TestLongOrders(t *testing.T) {
	for seed, code := range manyCodes(impl.MaxStmts) {
		roll := dice(seed)
		var order []int64
		for len(order) < len(code) {
			var next []int64
			for j := range int64(len(code)) {
				waits := slices.Contains(order, j)
				for i := range j {
					waits = waits || follows(code, i, j) && !slices.Contains(order, i)
				}
				if !waits {
					next = append(next, j)
				}
			}
			order = append(order, next[roll.below(int64(len(next)))])
		}
		moved, ok := impl.ReorderCode(code, order)
		if !ok || !impl.IsOrder(code, order) || len(moved) != len(code) {
			t.Fatalf("ReorderCode(%v, %v) = %v, %v", code, order, moved, ok)
		}
		for _, bits := range allBits {
			cells := someCells(bits, int64(seed))
			wantList(t, fmt.Sprintf("RunCode of %v in the order %v", code, order), run(t, bits, moved, cells), true, run(t, bits, code, cells))
		}
		slices.Reverse(order)
		if want := keeps(code, order); impl.IsOrder(code, order) != want {
			t.Fatalf("IsOrder(%v, %v) = %v", code, order, !want)
		}
	}
}

func TestNoOrders(t *testing.T) {
	two, three := apart(2), codeOf("2=0 add 1;3=2 mul 2;5=0 sub 1")
	for _, order := range [][]int64{{0, 1}, {1, 0}} {
		if !impl.IsOrder(two, order) {
			t.Errorf("IsOrder(%v, %v) is false", two, order)
		}
	}
	if !impl.IsOrder(nil, nil) || !impl.IsOrder(nil, []int64{}) || !impl.IsOrder(three, []int64{2, 0, 1}) {
		t.Error("IsOrder is false for an order")
	}
	cases := []struct {
		code  []impl.Stmt
		order []int64
	}{
		{nil, []int64{0}}, {two, nil}, {two, []int64{0}}, {two, []int64{1}}, {two, []int64{0, 0}}, {two, []int64{1, 1}}, {two, []int64{0, 1, 1}}, {two, []int64{0, 1, 2}},
		{two, []int64{0, 2}}, {two, []int64{2, 1}}, {two, []int64{-1, 0}}, {two, []int64{0, -1}}, {two, []int64{0, math.MinInt64}}, {two, []int64{math.MaxInt64, 1}},
		{two, []int64{powerOf(32), 1}}, {two, []int64{64, 65}}, {two, make([]int64, 1000)},
		{three, []int64{1, 0, 2}}, {three, []int64{2, 1, 0}}, {three, []int64{0, 0, 1}}, {three, []int64{0, 1}}, {three, []int64{0, 1, 3}}, {three, []int64{0, 1, 1}},
		{chain(16), append(identity(15), 14)}, {chain(16), identity(15)}, {chain(16), identity(17)},
	}
	for _, c := range cases {
		moved, ok := impl.ReorderCode(c.code, c.order)
		if impl.IsOrder(c.code, c.order) || ok || len(moved) != 0 {
			t.Errorf("%v is an order of %v, or ReorderCode returns %v, %v", c.order, c.code, moved, ok)
		}
	}
	for _, code := range noCodes() {
		if impl.IsOrder(code, identity(len(code))) {
			t.Errorf("IsOrder is true for %v", code)
		}
	}
}

func TestCountOrders(t *testing.T) {
	twoChains := append(chain(5), repeated(5, func(i int64) impl.Stmt { return impl.Stmt{D: 11 + i, A: 10 + i, B: 31} })...)
	cases := []struct {
		code []impl.Stmt
		want int64
	}{
		{nil, 1}, {apart(1), 1}, {apart(2), 2}, {apart(9), 362880}, {apart(10), 3628800}, {chain(10), 1}, {twoChains, 252},
		{codeOf("2=0 add 1;3=2 mul 2;2=0 sub 1"), 1}, {codeOf("2=0 add 1;3=1 add 0"), 2}, {codeOf("2=0 add 1;3=2 mul 2;5=0 sub 1"), 3},
	}
	for _, c := range cases {
		if got, ok := impl.CountOrders(c.code); !ok || got != c.want {
			t.Errorf("CountOrders(%v) = %d, %v, want %d", c.code, got, ok, c.want)
		}
	}
	for n := 11; n <= impl.MaxStmts; n++ {
		for _, code := range [][]impl.Stmt{apart(n), chain(n)} {
			if got, ok := impl.CountOrders(code); ok || got != 0 {
				t.Errorf("CountOrders(%v) = %d, %v", code, got, ok)
			}
		}
	}
}

// cellsThat are the cells of which a property holds, in ascending order.
func cellsThat(holds func(cell int64) bool) []int64 {
	return slices.DeleteFunc(identity(impl.MaxCells), func(cell int64) bool { return !holds(cell) })
}

func TestInputsAndOutputs(t *testing.T) {
	for seed, code := range manyCodes(impl.MaxStmts) {
		writes := func(upTo int, cell int64) bool {
			return slices.ContainsFunc(code[:upTo], func(s impl.Stmt) bool { return s.D == cell })
		}
		inputs := cellsThat(func(cell int64) bool {
			for i, s := range code {
				if (s.A == cell || s.B == cell) && !writes(i, cell) {
					return true
				}
			}
			return false
		})
		outputs := cellsThat(func(cell int64) bool { return writes(len(code), cell) })
		got, ok := impl.InputsOf(code)
		wantList(t, fmt.Sprintf("InputsOf(%v)", code), got, ok, inputs)
		got, ok = impl.OutputsOf(code)
		wantList(t, fmt.Sprintf("OutputsOf(%v)", code), got, ok, outputs)
		checkUse(t, code, inputs, outputs, int64(seed))
	}
}

// checkUse runs code with two lists of cells that share the inputs alone: the outputs are the same then, and all other cells stay as they are.
func checkUse(t *testing.T, code []impl.Stmt, inputs, outputs []int64, seed int64) {
	cells, others := someCells(16, seed), someCells(16, seed+1)
	for _, cell := range inputs {
		others[cell] = cells[cell]
	}
	end, otherEnd := run(t, 16, code, cells), run(t, 16, code, others)
	for cell := range int64(impl.MaxCells) {
		same := end[cell] == otherEnd[cell]
		if !slices.Contains(outputs, cell) {
			same = end[cell] == cells[cell] && otherEnd[cell] == others[cell]
		}
		if !same {
			t.Fatalf("%v with the inputs %v and the outputs %v makes %v and %v", code, inputs, outputs, end, otherEnd)
		}
	}
}

func TestInputsAndOutputsByHand(t *testing.T) {
	cases := []struct {
		text    string
		in, out []int64
	}{
		{"", nil, nil}, {"2=0 add 1;3=2 mul 2;2=0 sub 1", []int64{0, 1}, []int64{2, 3}},
		{"2=2 add 2", []int64{2}, []int64{2}}, {"2=0 add 1;4=2 add 2", []int64{0, 1}, []int64{2, 4}}, {"4=2 add 2;2=0 add 1", []int64{0, 1, 2}, []int64{2, 4}},
		{"2=0 add 1;2=2 add 5", []int64{0, 1, 5}, []int64{2}}, {"31=30 add 31;0=0 add 1", []int64{0, 1, 30, 31}, []int64{0, 31}},
		{"9=8 add 7;3=9 add 1", []int64{1, 7, 8}, []int64{3, 9}},
	}
	for _, c := range cases {
		got, ok := impl.InputsOf(codeOf(c.text))
		wantList(t, "InputsOf "+c.text, got, ok, c.in)
		got, ok = impl.OutputsOf(codeOf(c.text))
		wantList(t, "OutputsOf "+c.text, got, ok, c.out)
	}
}

// neededBy adds the last writer before end of a cell, and those of what it reads, to a set of statements.
func neededBy(code []impl.Stmt, end int, cell int64, needed map[int64]bool) {
	for i := end - 1; i >= 0; i-- {
		if code[i].D == cell {
			if !needed[int64(i)] {
				needed[int64(i)] = true
				neededBy(code, i, code[i].A, needed)
				neededBy(code, i, code[i].B, needed)
			}
			return
		}
	}
}

func TestNeededFor(t *testing.T) {
	for seed, code := range manyCodes(impl.MaxStmts) {
		roll := dice(seed)
		chance := 1 + roll.below(8)
		sets := [][]int64{nil, {0}, {impl.MaxCells - 1}, {0, impl.MaxCells - 1}, identity(impl.MaxCells), cellsThat(func(int64) bool { return roll.below(8) < chance })}
		for _, set := range sets {
			needed := map[int64]bool{}
			for _, cell := range set {
				neededBy(code, len(code), cell, needed)
			}
			want := slices.DeleteFunc(identity(len(code)), func(i int64) bool { return !needed[i] })
			got, ok := impl.NeededFor(code, set)
			wantList(t, fmt.Sprintf("NeededFor(%v, %v)", code, set), got, ok, want)
			checkNeeded(t, code, set, got, int64(seed))
		}
	}
}

// checkNeeded runs the needed statements alone, which suffice for the cells.
func checkNeeded(t *testing.T, code []impl.Stmt, set, needed []int64, seed int64) {
	var kept []impl.Stmt
	for _, i := range needed {
		kept = append(kept, code[i])
	}
	for _, bits := range allBits {
		cells := someCells(bits, seed)
		end, short := run(t, bits, code, cells), run(t, bits, kept, cells)
		for _, cell := range set {
			if end[cell] != short[cell] {
				t.Fatalf("the statements %v of %v make %d in the cell %d, and not %d", needed, code, short[cell], cell, end[cell])
			}
		}
	}
}

func TestNeededByHand(t *testing.T) {
	cases := []struct {
		text      string
		set, want []int64
	}{
		{"2=0 add 1;3=2 mul 2;2=0 sub 1", []int64{3}, []int64{0, 1}}, {"2=0 add 1;3=2 mul 2;2=0 sub 1", []int64{2}, []int64{2}},
		{"2=0 add 1;3=2 mul 2;2=0 sub 1", []int64{2, 3}, []int64{0, 1, 2}}, {"2=0 add 1;3=2 mul 2;2=0 sub 1", nil, nil}, {"2=0 add 1;3=2 mul 2;2=0 sub 1", []int64{0, 1, 4, 31}, nil},
		// Of a cell that is written twice, the last write is needed, and the first one if somebody reads it.
		{"2=0 add 1;2=3 add 4", []int64{2}, []int64{1}}, {"2=0 add 1;2=2 add 4", []int64{2}, []int64{0, 1}}, {"2=0 add 1;2=4 add 2", []int64{2}, []int64{0, 1}},
		{"2=2 add 2;2=2 add 2;2=2 add 2", []int64{2}, []int64{0, 1, 2}}, {"2=0 add 1;2=3 add 3;4=2 add 2", []int64{4}, []int64{1, 2}},
		// What is written behind the reading statement is not what it reads.
		{"3=2 add 2;2=0 add 1", []int64{3}, []int64{0}}, {"3=2 add 2;2=0 add 1", []int64{2, 3}, []int64{0, 1}},
		{"", nil, nil}, {"", []int64{0, 31}, nil}, {"31=0 add 0;0=31 add 31", []int64{0}, []int64{0, 1}},
	}
	for _, c := range cases {
		got, ok := impl.NeededFor(codeOf(c.text), c.set)
		wantList(t, fmt.Sprintf("NeededFor(%s, %v)", c.text, c.set), got, ok, c.want)
	}
}

func TestNeededForFails(t *testing.T) {
	sets := [][]int64{{1, 0}, {2, 2}, {0, 1, 1}, {0, 2, 1}, {31, 30}, {0, 1, 2, 0}, append(identity(impl.MaxCells), 31), identity(impl.MaxCells + 1), make([]int64, 1000)}
	for _, cell := range noCells {
		sets = append(sets, []int64{cell}, []int64{cell, 3}, []int64{3, cell})
	}
	for _, code := range [][]impl.Stmt{nil, chain(4)} {
		for _, set := range sets {
			if needed, ok := impl.NeededFor(code, set); ok || len(needed) != 0 {
				t.Errorf("NeededFor(%v, %v) = %v, %v", code, set, needed, ok)
			}
		}
	}
}

// numbersOf looks for each statement through all of those before it.
func numbersOf(code []impl.Stmt) []int64 {
	values, next := identity(impl.MaxCells), int64(impl.MaxCells)
	var done [][3]int64
	var numbers []int64
	for _, s := range code {
		a, b := values[s.A], values[s.B]
		first := slices.IndexFunc(done, func(d [3]int64) bool {
			return d == [3]int64{s.Op, a, b} || commutes[s.Op] && d == [3]int64{s.Op, b, a}
		})
		number := next
		if first >= 0 {
			number = numbers[first]
		} else {
			next++
		}
		done, numbers, values[s.D] = append(done, [3]int64{s.Op, a, b}), append(numbers, number), number
	}
	return numbers
}

func TestValueNumbers(t *testing.T) {
	for seed, code := range manyCodes(impl.MaxStmts) {
		got, ok := impl.ValueNumbers(code)
		wantList(t, fmt.Sprintf("ValueNumbers(%v)", code), got, ok, numbersOf(code))
		// Statements with one number make one word, whatever the cells hold.
		cells, made := someCells(8, int64(seed)), map[int64]int64{}
		for i, s := range code {
			word := run(t, 8, code[:i+1], cells)[s.D]
			if before, known := made[got[i]]; known && before != word {
				t.Fatalf("the value number %d of %v is %d and %d", got[i], code, before, word)
			}
			made[got[i]] = word
		}
	}
}

func TestValueNumbersByHand(t *testing.T) {
	for code, name := range opNames {
		want := []int64{32, 33, 32}
		if commutes[code] {
			want = []int64{32, 32, 32}
		}
		text := "2=0 OP 1;3=1 OP 0;4=0 OP 1"
		got, ok := impl.ValueNumbers(codeOf(strings.ReplaceAll(text, "OP", name)))
		wantList(t, "ValueNumbers "+text+" with "+name, got, ok, want)
	}
	cases := []struct {
		text string
		want []int64
	}{
		{"", nil}, {"2=0 add 1;3=1 add 0", []int64{32, 32}}, {"2=0 add 1;3=0 sub 1;4=1 sub 0;5=0 add 1", []int64{32, 33, 34, 32}},
		// A cell is written anew between two statements that look the same.
		{"2=0 add 1;0=3 add 3;2=0 add 1", []int64{32, 33, 34}}, {"2=0 add 1;1=1 xor 1;2=0 add 1", []int64{32, 33, 34}},
		// The value stays known if its own cell is written anew, and is found in another cell.
		{"2=0 add 1;2=3 add 3;4=0 add 1", []int64{32, 33, 32}}, {"2=0 add 1;3=1 add 0;4=2 mul 5;6=5 mul 3", []int64{32, 32, 33, 33}},
		{"2=0 add 1;0=0 add 1;0=0 add 1", []int64{32, 32, 33}}, {"2=2 add 2;2=2 add 2;3=2 add 2", []int64{32, 33, 34}},
		{"2=0 sub 1;3=0 sub 1;4=2 sub 3;5=3 sub 2", []int64{32, 32, 33, 33}}, {"31=31 add 31;0=0 add 0", []int64{32, 33}},
	}
	for _, c := range cases {
		got, ok := impl.ValueNumbers(codeOf(c.text))
		wantList(t, "ValueNumbers "+c.text, got, ok, c.want)
	}
	got, ok := impl.ValueNumbers(chain(impl.MaxStmts))
	wantList(t, "ValueNumbers of a chain", got, ok, lanesBy(impl.MaxStmts, func(i int) int64 { return int64(32 + i) }))
}

func checkTexts(t *testing.T, code []impl.Stmt, want string) {
	t.Helper()
	text, ok := impl.CodeText(code)
	back, fine := impl.ReadCode(want)
	if !ok || text != want || !fine || !slices.Equal(back, code) {
		t.Fatalf("CodeText(%v) = %q, %v, ReadCode(%q) = %v, %v", code, text, ok, want, back, fine)
	}
}

func TestCodeTexts(t *testing.T) {
	for _, code := range manyCodes(impl.MaxStmts) {
		var texts []string
		for _, s := range code {
			texts = append(texts, fmt.Sprintf("%d=%d %s %d", s.D, s.A, opNames[s.Op], s.B))
		}
		checkTexts(t, code, strings.Join(texts, ";"))
	}
	checkTexts(t, nil, "")
	checkTexts(t, []impl.Stmt{{}}, "0=0 add 0")
	checkTexts(t, []impl.Stmt{{Op: impl.OpShrS, D: 31, A: 30, B: 29}}, "31=30 shrs 29")
	checkTexts(t, []impl.Stmt{{Op: 0, D: 2, A: 0, B: 1}, {Op: 2, D: 3, A: 2, B: 2}, {Op: 1, D: 2, A: 0, B: 1}}, "2=0 add 1;3=2 mul 2;2=0 sub 1")
	checkTexts(t, repeated(16, func(int64) impl.Stmt { return impl.Stmt{Op: impl.OpAddSatU, D: 31, A: 31, B: 31} }), longCodeText("31=31 addu 31", 16))
}

func longCodeText(statement string, n int) string {
	return strings.Repeat(statement+";", n-1) + statement
}

func TestReadCodeFails(t *testing.T) {
	none := []string{
		" ", ";", ";;", "=", "2=0 add 1;", ";2=0 add 1", "2=0 add 1;;2=0 add 1", "2=0 add 1,2=0 add 1", "2=0 add 1 2=0 add 1", "none", "2=0 add 1\n", "2=0 add 1;\n3=0 add 1",
		" 2=0 add 1", "2=0 add 1 ", "2 =0 add 1", "2= 0 add 1", "2=0  add 1", "2=0 add  1", "2=0\tadd 1", "2=0 add 1; 3=0 add 1", "2=0 add 1 ;3=0 add 1", "2 = 0 add 1",
		"+2=0 add 1", "2=+0 add 1", "2=0 add +1", "-2=0 add 1", "2=-0 add 1", "2=0 add -1", "-0=0 add 1", "02=0 add 1", "2=00 add 1", "2=0 add 01", "2=0 add 1.0", "0x2=0 add 1", "2=0 add ١",
		"2", "2=", "2=0", "2=0 ", "2=0 add", "2=0 add ", "=0 add 1", "2= add 1", "2=0 1", "2=0  1", "0 add 1", "2 0 add 1", "2==0 add 1", "2=0=0 add 1", "2=0 add 1=", "2=0 add 1 1", "2=0 add add 1", "2=0 add sub", "2=0 add x",
		"2=0 plus 1", "2=0 Add 1", "2=0 ADD 1", "2=0 ad 1", "2=0 addd 1", "2=0 + 1", "2=0 0 1", "2=0+1", "2=0 add1", "2=0add 1", "2=0 shr 1", "2=add 0 1",
		"32=0 add 1", "2=32 add 1", "2=0 add 32", "99=0 add 1", "2=0 add 4294967296", "2=0 add 18446744073709551617", "2=0 add 1;3=0 add 32", "2=0 add 1;3=0 plus 1;4=0 add 1",
		longCodeText("2=0 add 1", 17), longCodeText("2=0 add 1", 16) + ";", longCodeText("2=0 add 1", 10000), "2=" + strings.Repeat("0 ", 10000), "2=0 add 1\x00", "\xff",
	}
	for _, s := range none {
		if code, ok := impl.ReadCode(s); ok || len(code) != 0 {
			t.Errorf("ReadCode(%.60q) = %v, %v", s, code, ok)
		}
	}
}

// codeArgs are arguments for all functions of the chapter, which take those that they have.
type codeArgs struct {
	code              []impl.Stmt
	cells, order, set []int64
}

// codeCall is a function of the chapter with other results than one bool. Its result is a list, a list of lists, a number or a text.
type codeCall struct {
	name string
	run  func(x codeArgs) (any, bool)
}

func result[T any](value T, ok bool) (any, bool) { return value, ok }

var codeCalls = []codeCall{
	{"RunCode", func(x codeArgs) (any, bool) { return result(impl.RunCode(8, x.code, x.cells)) }},
	{"DependencesOf", func(x codeArgs) (any, bool) { return result(impl.DependencesOf(x.code)) }},
	{"LevelsOf", func(x codeArgs) (any, bool) { return result(impl.LevelsOf(x.code)) }},
	{"ReorderCode", func(x codeArgs) (any, bool) { return result(impl.ReorderCode(x.code, x.order)) }},
	{"CountOrders", func(x codeArgs) (any, bool) { return result(impl.CountOrders(x.code)) }},
	{"InputsOf", func(x codeArgs) (any, bool) { return result(impl.InputsOf(x.code)) }},
	{"OutputsOf", func(x codeArgs) (any, bool) { return result(impl.OutputsOf(x.code)) }},
	{"NeededFor", func(x codeArgs) (any, bool) { return result(impl.NeededFor(x.code, x.set)) }},
	{"ValueNumbers", func(x codeArgs) (any, bool) { return result(impl.ValueNumbers(x.code)) }},
	{"CodeText", func(x codeArgs) (any, bool) { return result(impl.CodeText(x.code)) }},
	{"ReadCode", func(x codeArgs) (any, bool) {
		text, ok := impl.CodeText(x.code)
		if !ok {
			text = "none"
		}
		return result(impl.ReadCode(text))
	}},
}

func argsFor(code []impl.Stmt) codeArgs {
	return codeArgs{code, make([]int64, impl.MaxCells), identity(len(code)), []int64{2, 3}}
}

func isZeroResult(value any) bool {
	switch v := value.(type) {
	case []int64:
		return len(v) == 0
	case [][]int64:
		return len(v) == 0
	case []impl.Stmt:
		return len(v) == 0
	}
	return value == int64(0) || value == ""
}

// TestCodeFails gives each function all code that is not valid, with other arguments that fit it.
func TestCodeFails(t *testing.T) {
	for _, c := range codeCalls {
		if value, ok := c.run(argsFor(codeOf("2=0 add 1;3=2 mul 2;2=0 sub 1"))); !ok || isZeroResult(value) {
			t.Fatalf("%s of valid code is %v, %v", c.name, value, ok)
		}
		for _, code := range noCodes() {
			if value, ok := c.run(argsFor(code)); ok || !isZeroResult(value) {
				t.Errorf("%s of %v is %v, %v", c.name, code, value, ok)
			}
		}
	}
}

// roomyCode returns code with unused capacity, and all of its memory.
func roomyCode(code []impl.Stmt) ([]impl.Stmt, []impl.Stmt) {
	all := append(append(make([]impl.Stmt, 0, len(code)+20), code...), slices.Repeat([]impl.Stmt{{Op: 1, D: 7, A: 8, B: 9}}, 20)...)
	return all[:len(code)], all
}

// spoil changes a result, with its unused capacity.
func spoil(value any) {
	switch v := value.(type) {
	case []int64:
		overwrite(v)
	case [][]int64:
		for _, list := range v {
			overwrite(list)
		}
		for i := range v[:cap(v)] {
			v[:cap(v)][i] = []int64{-7}
		}
	case []impl.Stmt:
		for i := range v[:cap(v)] {
			v[:cap(v)][i] = impl.Stmt{Op: -7}
		}
	}
}

// TestCodeStaysEqual is promise 1 for this chapter: no call changes an argument, and no result shares memory with an argument or another result.
func TestCodeStaysEqual(t *testing.T) {
	for _, code := range [][]impl.Stmt{nil, codeOf("2=2 add 2"), codeOf("2=0 add 1;3=2 mul 2;2=0 sub 1"), chain(10), apart(10), chain(16)} {
		for _, c := range codeCalls {
			if c.name == "CountOrders" && len(code) > 10 {
				continue
			}
			x := argsFor(code)
			var kept [3][]int64
			var keptCode []impl.Stmt
			x.code, keptCode = roomyCode(x.code)
			x.cells, kept[0] = roomy(x.cells)
			x.order, kept[1] = roomy(x.order)
			x.set, kept[2] = roomy(x.set)
			before := fmt.Sprint(kept, keptCode)
			first, ok := c.run(x)
			want := fmt.Sprint(first)
			second, fine := c.run(x)
			if !ok || !fine || fmt.Sprint(second) != want {
				t.Fatalf("%s of %v returns %v, %v and then %v, %v", c.name, code, want, ok, second, fine)
			}
			spoil(first)
			third, _ := c.run(x)
			if fmt.Sprint(second) != want || fmt.Sprint(third) != want {
				t.Errorf("%s of %v: results share memory: %v and %v, want %s", c.name, code, second, third, want)
			}
			if lists, has := second.([][]int64); has {
				checkApart(t, c.name, lists)
			}
			if after := fmt.Sprint(kept, keptCode); after != before {
				t.Errorf("%s changes its arguments from %s to %s", c.name, before, after)
			}
		}
	}
}

// TestCodeQuestionsStayEqual is promise 1 for the functions with one bool.
func TestCodeQuestionsStayEqual(t *testing.T) {
	code, keptCode := roomyCode(codeOf("2=0 add 1;3=2 mul 2;5=0 sub 1"))
	order, kept := roomy([]int64{2, 0, 1})
	before := fmt.Sprint(keptCode, kept)
	for range 2 {
		if !impl.ValidCode(code) || !impl.MustFollow(code, 0, 1) || impl.MustFollow(code, 0, 2) || !impl.IsOrder(code, order) || impl.IsOrder(code, identity(2)) {
			t.Error("ValidCode, MustFollow or IsOrder changes its answer")
		}
	}
	if after := fmt.Sprint(keptCode, kept); after != before {
		t.Errorf("the arguments change from %s to %s", before, after)
	}
}

func TestCodeConstants(t *testing.T) {
	if impl.MaxCells != 32 || impl.MaxStmts != 16 {
		t.Errorf("the constants are %d and %d", impl.MaxCells, impl.MaxStmts)
	}
}
