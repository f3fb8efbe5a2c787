package tests

import (
	"fmt"
	"math"
	"slices"
	"strings"
	"testing"

	"loop.example/g01139/impl"
)

const (
	lineKinds = impl.LineStop + 1
	lineMost  = 24
	nestMost  = 4
	roundMost = 64
	laneMost  = 16
)

var (
	lineNames = []string{"set", "const", "if", "else", "end", "loop", "stop"}
	cmpNames  = []string{"eq", "ne", "ltu", "leu", "lts", "les"}
)

// lineLimits has the least and the greatest number of the fields D, Op, A and B of each kind.
func lineLimits(bits int64) [lineKinds][4][2]int64 {
	none, variable, cmp := [2]int64{0, 0}, [2]int64{0, 7}, [2]int64{0, 5}
	return [lineKinds][4][2]int64{
		impl.LineSet:   {variable, {0, lastOp}, variable, variable},
		impl.LineConst: {variable, none, none, {0, powerOf(bits) - 1}},
		impl.LineIf:    {none, cmp, variable, variable},
		impl.LineElse:  {none, none, none, none},
		impl.LineEnd:   {none, none, none, none},
		impl.LineLoop:  {none, none, none, {1, 8}},
		impl.LineStop:  {none, cmp, variable, variable},
	}
}

func lineFields(x *impl.Line) [4]*int64 { return [4]*int64{&x.D, &x.Op, &x.A, &x.B} }

// nameIn is one of some names, also for a number that none of them has.
func nameIn(names []string, n int64) string {
	if n < 0 || n >= int64(len(names)) {
		return "x"
	}
	return names[n]
}

// plainLine is the text of a line, also of one that is not valid.
func plainLine(x impl.Line) string {
	name := nameIn(lineNames, x.Kind)
	switch x.Kind {
	case impl.LineSet:
		return fmt.Sprintf("%s %d %s %d %d", name, x.D, nameIn(opNames, x.Op), x.A, x.B)
	case impl.LineConst:
		return fmt.Sprintf("%s %d %d", name, x.D, x.B)
	case impl.LineIf, impl.LineStop:
		return fmt.Sprintf("%s %s %d %d", name, nameIn(cmpNames, x.Op), x.A, x.B)
	case impl.LineLoop:
		return fmt.Sprintf("%s %d", name, x.B)
	}
	return name
}

func plainLines(lines []impl.Line) string {
	text := ""
	for _, x := range lines {
		text += plainLine(x) + "\n"
	}
	return text
}

// lineOf reads a line by plain splitting, to be held against ReadLines.
func lineOf(text string) impl.Line {
	words, numbers := strings.Fields(text), [5]int64{}
	for k, word := range words {
		fmt.Sscan(word, &numbers[k])
	}
	x := impl.Line{Kind: int64(slices.Index(lineNames, words[0]))}
	switch x.Kind {
	case impl.LineSet:
		x.D, x.Op, x.A, x.B = numbers[1], int64(slices.Index(opNames, words[2])), numbers[3], numbers[4]
	case impl.LineConst:
		x.D, x.B = numbers[1], numbers[2]
	case impl.LineIf, impl.LineStop:
		x.Op, x.A, x.B = int64(slices.Index(cmpNames, words[1])), numbers[2], numbers[3]
	case impl.LineLoop:
		x.B = numbers[1]
	}
	return x
}

// linesOf reads lines with semicolons between them.
func linesOf(text string) []impl.Line {
	var lines []impl.Line
	for _, part := range strings.Split(text, ";") {
		if strings.TrimSpace(part) != "" {
			lines = append(lines, lineOf(part))
		}
	}
	return lines
}

// manyLines is a line, so many times.
func manyLines(text string, n int) []impl.Line { return slices.Repeat([]impl.Line{lineOf(text)}, n) }

// isLineBy holds each field of a line against the limits.
func isLineBy(bits int64, x impl.Line) bool {
	if x.Kind < 0 || x.Kind >= lineKinds {
		return false
	}
	for k, limit := range lineLimits(bits)[x.Kind] {
		if n := *lineFields(&x)[k]; n < limit[0] || n > limit[1] {
			return false
		}
	}
	return true
}

// ownerBy is the last LineIf or LineLoop before a line that has no LineEnd yet, or -1.
func ownerBy(lines []impl.Line, i int) int {
	ended := 0
	for k := i - 1; k >= 0; k-- {
		switch lines[k].Kind {
		case impl.LineEnd:
			ended++
		case impl.LineIf, impl.LineLoop:
			if ended == 0 {
				return k
			}
			ended--
		}
	}
	return -1
}

// aroundBy are all LineIf and LineLoop around a line, the innermost one first.
func aroundBy(lines []impl.Line, i int) []int {
	var list []int
	for k := ownerBy(lines, i); k >= 0; k = ownerBy(lines, k) {
		list = append(list, k)
	}
	return list
}

// belongingTo is the first line of a kind whose owner is a line, or -1.
func belongingTo(lines []impl.Line, owner int, kind int64) int {
	for i := owner + 1; i < len(lines); i++ {
		if lines[i].Kind == kind && ownerBy(lines, i) == owner {
			return i
		}
	}
	return -1
}

// loopBy is the innermost LineLoop around a line, or -1.
func loopBy(lines []impl.Line, i int) int {
	for _, k := range aroundBy(lines, i) {
		if lines[k].Kind == impl.LineLoop {
			return k
		}
	}
	return -1
}

// areLinesBy asks for what the document asks for, one after another.
func areLinesBy(bits int64, lines []impl.Line) bool {
	if !slices.Contains(allBits, bits) || len(lines) > lineMost {
		return false
	}
	for i, x := range lines {
		owner := ownerBy(lines, i)
		switch {
		case !isLineBy(bits, x), x.Kind == impl.LineEnd && owner < 0, x.Kind == impl.LineStop && loopBy(lines, i) < 0:
			return false
		case x.Kind == impl.LineElse && (owner < 0 || lines[owner].Kind != impl.LineIf || belongingTo(lines, owner, impl.LineElse) != i):
			return false
		case (x.Kind == impl.LineIf || x.Kind == impl.LineLoop) && (belongingTo(lines, i, impl.LineEnd) < 0 || 1+len(aroundBy(lines, i)) > nestMost):
			return false
		}
		if x.Kind == impl.LineLoop {
			rounds := x.B
			for _, k := range aroundBy(lines, i) {
				if lines[k].Kind == impl.LineLoop {
					rounds *= lines[k].B
				}
			}
			if rounds > roundMost {
				return false
			}
		}
	}
	return true
}

// pairBy is the line to which a line of valid code belongs.
func pairBy(lines []impl.Line, i int) int {
	switch lines[i].Kind {
	case impl.LineIf:
		if middle := belongingTo(lines, i, impl.LineElse); middle >= 0 {
			return middle
		}
		return belongingTo(lines, i, impl.LineEnd)
	case impl.LineElse:
		return belongingTo(lines, ownerBy(lines, i), impl.LineEnd)
	case impl.LineLoop:
		return belongingTo(lines, i, impl.LineEnd)
	case impl.LineEnd:
		return ownerBy(lines, i)
	case impl.LineStop:
		return belongingTo(lines, loopBy(lines, i), impl.LineEnd)
	}
	return i
}

func pairsBy(lines []impl.Line) []int64 {
	return lanesBy(len(lines), func(i int) int64 { return int64(pairBy(lines, i)) })
}

// setBy changes the variables of a lane as a LineSet or a LineConst does.
func setBy(bits int64, x impl.Line, vars []int64) {
	if x.Kind == impl.LineConst {
		vars[x.D] = x.B
		return
	}
	vars[x.D] = wantOp(x.Op, bits, vars[x.A], vars[x.B])
}

func holdsBy(bits int64, x impl.Line, vars []int64) bool {
	return wantCmp(x.Op, bits, vars[x.A], vars[x.B]) == 1
}

// aloneBy goes from line to line for one lane, and returns its variables and its path.
func aloneBy(bits int64, lines []impl.Line, vars []int64) ([]int64, []int64) {
	vars, path, turns := slices.Clone(vars), []int64{}, map[int]int64{}
	for i := 0; i < len(lines); i++ {
		x, pair := lines[i], pairBy(lines, i)
		switch x.Kind {
		case impl.LineSet, impl.LineConst:
			setBy(bits, x, vars)
			path = append(path, int64(i))
		case impl.LineIf:
			if !holdsBy(bits, x, vars) {
				i = pair
			}
		case impl.LineElse:
			// One comes here from the lines before it only.
			i = pair
		case impl.LineLoop:
			turns[i] = 1
		case impl.LineStop:
			if holdsBy(bits, x, vars) {
				i = pair
			}
		case impl.LineEnd:
			if lines[pair].Kind == impl.LineLoop && turns[pair] < lines[pair].B {
				turns[pair]++
				i = pair
			}
		}
	}
	return vars, path
}

// maskRun is the machine with masks as the document words it, line by line; what is kept for an if or a loop is kept under its line.
type maskRun struct {
	bits       int64
	lines      []impl.Line
	vars       [][]int64
	on         []bool
	opened     map[int]*openedBy
	steps, sum int64
	seen       map[string]int
}

type openedBy struct {
	before, held, stopped []bool
	turns                 int64
	stoppedIn             []int64
}

// lanesWhere are the lanes for which something is so.
func lanesWhere(n int, is func(k int) bool) []bool {
	list := make([]bool, n)
	for k := range list {
		list[k] = is(k)
	}
	return list
}

func countOn(on []bool) int64 {
	count := int64(0)
	for _, is := range on {
		if is {
			count++
		}
	}
	return count
}

// maskedBy runs the machine for all lanes, and notes which of the ways that the document tells it has gone.
func maskedBy(bits int64, lines []impl.Line, vars [][]int64, seen map[string]int) *maskRun {
	r := &maskRun{bits: bits, lines: lines, opened: map[int]*openedBy{}, seen: seen}
	for _, list := range vars {
		r.vars, r.on = append(r.vars, slices.Clone(list)), append(r.on, true)
	}
	for i := 0; i < len(lines); {
		i = r.line(i)
	}
	return r
}

// line does a line, and returns the next one.
func (r *maskRun) line(i int) int {
	x, n := r.lines[i], len(r.on)
	held := lanesWhere(n, func(k int) bool {
		return (x.Kind == impl.LineIf || x.Kind == impl.LineStop) && holdsBy(r.bits, x, r.vars[k])
	})
	switch x.Kind {
	case impl.LineSet, impl.LineConst:
		for k, on := range r.on {
			if on {
				setBy(r.bits, x, r.vars[k])
			}
		}
		if count := countOn(r.on); count > 0 {
			r.steps, r.sum = r.steps+1, r.sum+count
		}
	case impl.LineIf:
		before := slices.Clone(r.on)
		r.opened[i] = &openedBy{before: before, held: held}
		r.on = lanesWhere(n, func(k int) bool { return before[k] && held[k] })
		return r.goOn(i, "if")
	case impl.LineElse:
		o := r.opened[ownerBy(r.lines, i)]
		r.on = lanesWhere(n, func(k int) bool { return o.before[k] && !o.held[k] })
		return r.goOn(i, "else")
	case impl.LineLoop:
		r.opened[i] = &openedBy{before: slices.Clone(r.on), stopped: make([]bool, n), turns: 1, stoppedIn: make([]int64, n)}
	case impl.LineStop:
		r.stop(r.lines[loopBy(r.lines, i)], r.opened[loopBy(r.lines, i)], held)
	case impl.LineEnd:
		return r.end(i)
	}
	return i + 1
}

// goOn is the line behind a LineIf or LineElse, or the one to which it belongs if no lane is on.
func (r *maskRun) goOn(i int, what string) int {
	if countOn(r.on) == 0 {
		r.seen["no lane behind an "+what]++
		return pairBy(r.lines, i)
	}
	return i + 1
}

func (r *maskRun) stop(loop impl.Line, o *openedBy, held []bool) {
	was, all := countOn(r.on), countOn(o.before)
	for k, on := range r.on {
		if on && held[k] {
			r.on[k], o.stopped[k], o.stoppedIn[k] = false, true, o.turns
		}
	}
	left := countOn(r.on)
	switch {
	case was == 0:
		r.seen["a stop without lanes"]++
	case left == was:
		r.seen["a stop of no lane"]++
	case left > 0:
		r.seen["a stop of some lanes"]++
	case was < all && countOn(o.stopped) < all:
		r.seen["a stop of all lanes but those that are off"]++
	default:
		r.seen["a stop of all lanes"]++
	}
	if left < was && loop.B > 1 && o.turns == loop.B {
		r.seen["a stop in the last turn"]++
	}
}

func (r *maskRun) end(i int) int {
	owner, n := ownerBy(r.lines, i), len(r.on)
	o, x := r.opened[owner], r.lines[owner]
	if x.Kind == impl.LineIf {
		loop := loopBy(r.lines, owner)
		r.on = lanesWhere(n, func(k int) bool { return o.before[k] && (loop < 0 || !r.opened[loop].stopped[k]) })
		return i + 1
	}
	isLeft := slices.ContainsFunc(identity(n), func(k int64) bool { return o.before[k] && !o.stopped[k] })
	if o.turns < x.B && isLeft {
		o.turns++
		return owner + 1
	}
	if o.turns < x.B && countOn(o.before) > 0 {
		r.seen["a loop that is over early"]++
	}
	if countOn(o.stopped) > 0 && loopBy(r.lines, owner) >= 0 {
		r.seen["a stop in an inner loop"]++
	}
	turns := slices.DeleteFunc(slices.Clone(o.stoppedIn), func(turn int64) bool { return turn == 0 })
	if slices.Sort(turns); len(slices.Compact(turns)) > 1 {
		r.seen["stops in different turns"]++
	}
	r.on = slices.Clone(o.before)
	return i + 1
}

// checkLines holds all that is told of valid code against the document, for lists of variables alone and as lanes of a machine.
func checkLines(t *testing.T, bits int64, lines []impl.Line, vars [][]int64, seen map[string]int) {
	t.Helper()
	checkLineTexts(t, bits, lines)
	sum, first, isUniform := int64(0), []int64(nil), true
	for k, list := range vars {
		end, path := aloneBy(bits, lines, list)
		checkAlone(t, bits, lines, list, end, path)
		if k == 0 {
			first = path
		}
		sum, isUniform = sum+int64(len(path)), isUniform && slices.Equal(path, first)
	}
	want := maskedBy(bits, lines, vars, seen)
	ends := checkMasked(t, bits, lines, vars, want.vars, want.steps, sum, isUniform)
	for k, list := range vars {
		if end, _ := impl.RunAlone(bits, lines, list); !slices.Equal(end, ends[k]) {
			t.Fatalf("%d, %q: alone, %v becomes %v, and %v in the machine", bits, plainLines(lines), list, end, ends[k])
		}
	}
	if want.sum != sum {
		t.Fatalf("%d, %q: the lanes of %v do %d lines, and the machine %d", bits, plainLines(lines), vars, sum, want.sum)
	}
	if len(vars) > 1 {
		seen[map[bool]string{true: "one path", false: "different paths"}[isUniform]]++
	}
}

// checkLineTexts holds that code is valid, which of its lines belong together, and its text.
func checkLineTexts(t *testing.T, bits int64, lines []impl.Line) {
	t.Helper()
	plain := plainLines(lines)
	pairs, paired := impl.PairedLines(bits, lines)
	if !impl.ValidLines(bits, lines) || !paired || !slices.Equal(pairs, pairsBy(lines)) {
		t.Fatalf("%d: PairedLines of %q is %v, %v, want %v", bits, plain, pairs, paired, pairsBy(lines))
	}
	text, ok := impl.LinesText(bits, lines)
	back, fine := impl.ReadLines(bits, plain)
	if !ok || text != plain || !fine || !slices.Equal(back, lines) {
		t.Fatalf("%d: LinesText of %q is %q, %v, and ReadLines of it %v, %v", bits, plain, text, ok, back, fine)
	}
}

func checkAlone(t *testing.T, bits int64, lines []impl.Line, vars, end, path []int64) {
	t.Helper()
	got, one := impl.RunAlone(bits, lines, vars)
	count, two := impl.CountAlone(bits, lines, vars)
	way, three := impl.PathOf(bits, lines, vars)
	if !one || !two || !three || !slices.Equal(got, end) || count != int64(len(path)) || !slices.Equal(way, path) {
		t.Fatalf("%d, %q: %v becomes %v, %v by %d lines, %v, and PathOf is %v, %v, want %v and %v", bits, plainLines(lines), vars, got, one, count, two, way, three, end, path)
	}
}

// checkMasked returns what RunMasked returns, which is to be ends.
func checkMasked(t *testing.T, bits int64, lines []impl.Line, vars, ends [][]int64, steps, sum int64, isUniform bool) [][]int64 {
	t.Helper()
	got, one := impl.RunMasked(bits, lines, vars)
	done, all, two := impl.CountMasked(bits, lines, vars)
	if !one || !two || fmt.Sprint(got) != fmt.Sprint(ends) || done != steps || all != sum {
		t.Fatalf("%d, %q: %v becomes %v, %v by %d and %d lines, %v, want %v by %d and %d", bits, plainLines(lines), vars, got, one, done, all, two, ends, steps, sum)
	}
	if is := impl.IsUniform(bits, lines, vars); is != isUniform {
		t.Fatalf("%d, %q: IsUniform of %v is %v", bits, plainLines(lines), vars, is)
	}
	return got
}

// fewVars are lists of variables, most of which have words near to one another, so that comparisons differ and change; the last one is 1, to count with.
func fewVars(roll *dice, bits int64, lanes int) [][]int64 {
	edges, list := edgeWords(bits), [][]int64{}
	for range lanes {
		list = append(list, lanesBy(impl.MaxVars, func(i int) int64 {
			switch {
			case i == 7:
				return 1
			case roll.below(8) == 0:
				return edges[roll.below(int64(len(edges)))]
			}
			return roll.below(4)
		}))
	}
	return list
}

// lineRoll rolls valid code about the first variables and the last one.
type lineRoll struct {
	roll  *dice
	vars  int64
	lines []impl.Line
}

func (w *lineRoll) add(x impl.Line) { w.lines = append(w.lines, x) }

func (w *lineRoll) variable() int64 {
	if w.roll.below(5) == 0 {
		return 7
	}
	return w.roll.below(w.vars)
}

func (w *lineRoll) compare(kind int64) {
	w.add(impl.Line{Kind: kind, Op: w.roll.below(6), A: w.variable(), B: w.variable()})
}

// body adds at most so many lines, inside of so many ifs and loops with so many rounds, of which there are none outside of loops.
func (w *lineRoll) body(most, nested int, rounds int64) {
	for most > 0 && w.roll.below(14) > 0 {
		before := len(w.lines)
		w.some(most, nested, rounds)
		most -= len(w.lines) - before
	}
}

// some adds a line, an if or a loop.
func (w *lineRoll) some(most, nested int, rounds int64) {
	before, canNest := len(w.lines), most >= 2 && nested < nestMost
	kind := []int64{impl.LineSet, impl.LineSet, impl.LineConst, impl.LineIf, impl.LineIf, impl.LineLoop, impl.LineLoop, impl.LineStop}[w.roll.below(8)]
	switch {
	case kind == impl.LineIf && canNest:
		w.compare(kind)
		w.body(int(w.roll.below(int64(most-1))), nested+1, rounds)
		if left := most - 1 - (len(w.lines) - before); left > 0 && w.roll.below(2) == 0 {
			w.add(impl.Line{Kind: impl.LineElse})
			w.body(left-1, nested+1, rounds)
		}
		w.add(impl.Line{Kind: impl.LineEnd})
	case kind == impl.LineLoop && canNest:
		count := 1 + w.roll.below(min(impl.MaxRepeat, roundMost/max(rounds, 1)))
		w.add(impl.Line{Kind: kind, B: count})
		w.body(most-2, nested+1, max(rounds, 1)*count)
		w.add(impl.Line{Kind: impl.LineEnd})
	case kind == impl.LineStop && rounds > 0:
		w.compare(kind)
	case kind == impl.LineConst:
		w.add(impl.Line{Kind: kind, D: w.roll.below(w.vars), B: w.roll.below(4)})
	default:
		op := []int64{impl.OpAdd, impl.OpSub, w.roll.below(lastOp + 1)}[w.roll.below(3)]
		w.add(impl.Line{Kind: impl.LineSet, D: w.roll.below(w.vars), Op: op, A: w.variable(), B: w.variable()})
	}
}

// someLines is valid code.
func someLines(roll *dice) []impl.Line {
	w := lineRoll{roll: roll, vars: 2 + roll.below(4)}
	w.body(2+int(roll.below(lineMost-1)), 0, 0)
	return w.lines
}

// TestBranches is promise 9 for codes without any pattern, of all bits and numbers of lanes.
func TestBranches(t *testing.T) {
	roll, seen := dice(8), map[string]int{}
	for _, bits := range allBits {
		for round := range 1500 {
			checkLines(t, bits, someLines(&roll), fewVars(&roll, bits, 1+round%laneMost), seen)
		}
	}
	wantSeen(t, seen, "no lane behind an if", "no lane behind an else", "a stop without lanes", "a stop of no lane", "a stop of some lanes", "a stop of all lanes", "a stop of all lanes but those that are off",
		"a stop in the last turn", "a loop that is over early", "a stop in an inner loop", "stops in different turns", "one path", "different paths")
}

// TestShortLines has all code of up to 6 lines of these: valid code is run, and other code is refused.
func TestShortLines(t *testing.T) {
	kinds, seen, count := linesOf("set 0 add 0 7; if ltu 0 1; else; end; loop 3; stop eq 0 2"), map[string]int{}, map[bool]int{}
	vars := [][]int64{{0, 2, 3, 0, 0, 0, 0, 1}, {1, 2, 2, 0, 0, 0, 0, 1}, {3, 2, 4, 0, 0, 0, 0, 1}, {2, 2, 2, 0, 0, 0, 0, 1}}
	for length := range 7 {
		for _, list := range allLists(length, int64(len(kinds))) {
			lines := make([]impl.Line, length)
			for i, k := range list {
				lines[i] = kinds[k]
			}
			is := areLinesBy(8, lines)
			if count[is]++; is {
				checkLines(t, 8, lines, vars, seen)
			} else {
				refuseLines(t, 8, lines)
			}
		}
	}
	if count[true] < 500 {
		t.Errorf("of all code, %v is valid", count)
	}
}

// refuseLines holds that no function takes lines, nor their text if this tells them.
func refuseLines(t *testing.T, bits int64, lines []impl.Line) {
	t.Helper()
	vars := make([]int64, impl.MaxVars)
	x := branchArgs{bits, lines, vars, [][]int64{vars}, plainLines(lines)}
	isTold := slices.Equal(linesOf(strings.ReplaceAll(x.text, "\n", ";")), lines)
	for _, c := range branchCalls {
		if c.takes == "text" && !isTold {
			continue
		}
		if a := c.run(x); !a.isZero() {
			t.Errorf("%s of %v with %d bits is %v", c.name, lines, bits, a)
		}
	}
}

// TestNearLines changes lines of valid code, or their places.
func TestNearLines(t *testing.T) {
	roll, count := dice(9), map[bool]int{}
	for _, bits := range allBits {
		for range 4000 {
			lines := someLines(&roll)
			for range 1 + roll.below(3) {
				lines = nearLines(&roll, bits, lines)
			}
			is := areLinesBy(bits, lines)
			if count[is]++; is {
				checkLineTexts(t, bits, lines)
			} else {
				refuseLines(t, bits, lines)
			}
		}
	}
	if count[true] < 2000 || count[false] < 2000 {
		t.Errorf("of all code, %d is valid and %d is not", count[true], count[false])
	}
}

// nearLines is code in which one line has been taken out, put in, moved or given another field.
func nearLines(roll *dice, bits int64, lines []impl.Line) []impl.Line {
	lines = slices.Clone(lines)
	n := int64(len(lines))
	kind, place := roll.below(lineKinds), int(roll.below(n+1))
	if way := roll.below(4); way == 0 || place == len(lines) {
		x := impl.Line{Kind: kind}
		for k, limit := range lineLimits(bits)[kind] {
			*lineFields(&x)[k] = limit[0] + roll.below(limit[1]-limit[0]+1)
		}
		return slices.Insert(lines, place, x)
	} else if way == 1 {
		return slices.Delete(lines, place, place+1)
	} else if way == 2 {
		other := roll.below(n)
		lines[place], lines[other] = lines[other], lines[place]
		return lines
	}
	limits := lineLimits(bits)[lines[place].Kind]
	k := roll.below(4)
	*lineFields(&lines[place])[k] = limits[k][0] - 1 + roll.below(limits[k][1]-limits[k][0]+3)
	return lines
}

// TestWordsInLines does each operation and each comparison, for edge words of all bits.
func TestWordsInLines(t *testing.T) {
	for _, bits := range allBits {
		words := edgeWords(bits)
		var vars [][]int64
		for k := range laneMost {
			vars = append(vars, lanesBy(impl.MaxVars, func(i int) int64 { return words[(3*k+i*i)%len(words)] }))
		}
		seen := map[string]int{}
		for op := range int64(lastOp + 1) {
			for d := range int64(impl.MaxVars) {
				checkLines(t, bits, []impl.Line{{Kind: impl.LineSet, D: d, Op: op, A: 7 - d, B: (d + 3) % 8}, {Kind: impl.LineSet, D: d, Op: op, A: d, B: d}}, vars, seen)
			}
		}
		for cmp := range int64(6) {
			for a := range int64(impl.MaxVars) {
				for _, b := range []int64{a, 7 - a, (a + 3) % 8} {
					checkLines(t, bits, []impl.Line{{Kind: impl.LineIf, Op: cmp, A: a, B: b}, lineOf("const 0 1"), lineOf("else"), lineOf("const 0 2"), lineOf("end")}, vars, seen)
					checkLines(t, bits, []impl.Line{lineOf("loop 2"), {Kind: impl.LineStop, Op: cmp, A: a, B: b}, lineOf("set 0 add 0 1"), lineOf("end")}, vars, seen)
				}
			}
		}
		for _, word := range words {
			for d := range int64(impl.MaxVars) {
				checkLines(t, bits, []impl.Line{{Kind: impl.LineConst, D: d, B: word}, {Kind: impl.LineSet, D: 7 - d, A: d, B: d}}, vars, seen)
			}
		}
	}
}

// branchCase has code, the first variables of lanes before and behind it, their paths, and how many lines the machine does.
type branchCase struct {
	text       string
	vars, ends [][]int64
	paths      [][]int64
	steps      int64
	pairs      []int64
	isUniform  bool
}

var branchCases = []branchCase{
	{"", [][]int64{{1, 2}, {3}}, [][]int64{{1, 2}, {3}}, [][]int64{{}, {}}, 0, nil, true},
	{"set 0 add 0 1", [][]int64{{3, 4}, {250, 6}}, [][]int64{{7, 4}, {0, 6}}, [][]int64{{0}, {0}}, 1, []int64{0}, true},
	{"const 7 255", [][]int64{{}}, [][]int64{{0, 0, 0, 0, 0, 0, 0, 255}}, [][]int64{{0}}, 1, []int64{0}, true},
	// Ifs: the document's example, without an else, with nothing between, and with lines that change what has been compared.
	{"if eq 0 1; const 2 5; else; const 2 6; end", [][]int64{{1, 1}, {1, 2}}, [][]int64{{1, 1, 5}, {1, 2, 6}}, [][]int64{{1}, {3}}, 2, []int64{2, 1, 4, 3, 0}, false},
	{"if eq 0 1; const 2 5; else; const 2 6; end", [][]int64{{1, 1}, {2, 2}}, [][]int64{{1, 1, 5}, {2, 2, 5}}, [][]int64{{1}, {1}}, 1, []int64{2, 1, 4, 3, 0}, true},
	{"if eq 0 1; const 2 5; else; const 2 6; end", [][]int64{{1, 0}, {2, 0}}, [][]int64{{1, 0, 6}, {2, 0, 6}}, [][]int64{{3}, {3}}, 1, []int64{2, 1, 4, 3, 0}, true},
	{"if eq 0 1; const 2 5; end; const 3 1", [][]int64{{1, 1}, {1, 0}}, [][]int64{{1, 1, 5, 1}, {1, 0, 0, 1}}, [][]int64{{1, 3}, {3}}, 2, []int64{2, 1, 0, 3}, false},
	{"if eq 0 1; const 2 5; end; const 3 1", [][]int64{{0, 1}, {1, 0}}, [][]int64{{0, 1, 0, 1}, {1, 0, 0, 1}}, [][]int64{{3}, {3}}, 1, []int64{2, 1, 0, 3}, true},
	{"if eq 0 1; end; if eq 0 1; else; end", [][]int64{{1, 1}, {0, 1}}, [][]int64{{1, 1}, {0, 1}}, [][]int64{{}, {}}, 0, []int64{1, 0, 3, 4, 2}, true},
	{"if eq 0 1; else; const 2 9; end", [][]int64{{1, 1}, {0, 1}}, [][]int64{{1, 1}, {0, 1, 9}}, [][]int64{{}, {2}}, 1, []int64{1, 3, 2, 0}, false},
	{"if eq 0 1; const 2 9; else; end", [][]int64{{1, 1}, {0, 1}}, [][]int64{{1, 1, 9}, {0, 1}}, [][]int64{{1}, {}}, 1, []int64{2, 1, 3, 0}, false},
	{"if eq 0 1; const 0 9; else; const 0 1; end", [][]int64{{1, 1}, {0, 1}}, [][]int64{{9, 1}, {1, 1}}, [][]int64{{1}, {3}}, 2, []int64{2, 1, 4, 3, 0}, false},
	{"if lts 0 1; const 2 1; end", [][]int64{{250, 1}, {1, 250}}, [][]int64{{250, 1, 1}, {1, 250}}, [][]int64{{1}, {}}, 1, []int64{2, 1, 0}, false},
	// Ifs in both ways of an if.
	{"if ltu 0 1; if ltu 0 2; const 3 1; else; const 3 2; end; else; if ltu 0 2; const 3 3; else; const 3 4; end; end", [][]int64{{0, 1, 1}, {0, 1, 0}, {1, 0, 2}, {1, 0, 0}},
		[][]int64{{0, 1, 1, 1}, {0, 1, 0, 2}, {1, 0, 2, 3}, {1, 0, 0, 4}}, [][]int64{{2}, {4}, {8}, {10}}, 4, []int64{6, 3, 2, 5, 4, 1, 12, 9, 8, 11, 10, 7, 0}, false},
	// Loops: done once, and as often as they can be.
	{"loop 1; set 0 add 0 1; end", [][]int64{{0, 1}}, [][]int64{{1, 1}}, [][]int64{{1}}, 1, []int64{2, 1, 0}, true},
	{"loop 8; set 0 add 0 1; end", [][]int64{{0, 1}, {1, 2}}, [][]int64{{8, 1}, {17, 2}}, [][]int64{{1, 1, 1, 1, 1, 1, 1, 1}, {1, 1, 1, 1, 1, 1, 1, 1}}, 8, []int64{2, 1, 0}, true},
	{"loop 8; end; loop 8; loop 8; end; end; const 0 1", [][]int64{{}}, [][]int64{{1}}, [][]int64{{6}}, 1, []int64{1, 0, 5, 4, 3, 2, 6}, true},
	{"if eq 0 1; loop 2; set 2 add 2 1; end; else; loop 3; set 3 add 3 1; end; end", [][]int64{{1, 1}, {0, 1}}, [][]int64{{1, 1, 2}, {0, 1, 0, 3}}, [][]int64{{2, 2}, {6, 6, 6}}, 5, []int64{4, 3, 2, 1, 8, 7, 6, 5, 0}, false},
	{"loop 3; set 0 add 0 1; if eq 0 2; const 3 7; else; set 4 add 4 1; end; end", [][]int64{{0, 1, 2}, {5, 1, 2}}, [][]int64{{3, 1, 2, 7, 2}, {8, 1, 2, 0, 3}},
		[][]int64{{1, 5, 1, 3, 1, 5}, {1, 5, 1, 5, 1, 5}}, 7, []int64{7, 1, 4, 3, 6, 5, 2, 0}, false},
	{"if eq 0 0; loop 2; if eq 1 1; loop 2; set 0 add 0 7; end; end; end; end", [][]int64{{0, 0, 0, 0, 0, 0, 0, 1}}, [][]int64{{4, 0, 0, 0, 0, 0, 0, 1}}, [][]int64{{4, 4, 4, 4}}, 4, []int64{8, 7, 6, 5, 4, 3, 2, 1, 0}, true},
	{"if ne 0 0; loop 8; loop 8; const 1 1; end; end; end; const 2 1", [][]int64{{}, {5}}, [][]int64{{0, 0, 1}, {5, 0, 1}}, [][]int64{{7}, {7}}, 1, []int64{6, 5, 4, 3, 2, 1, 0, 7}, true},
	// Stops of all lanes, in the first and in the last line of a loop, and of none.
	{"loop 3; stop eq 0 0; set 1 add 1 2; end; const 3 1", [][]int64{{0, 0, 1}, {9, 0, 1}}, [][]int64{{0, 0, 1, 1}, {9, 0, 1, 1}}, [][]int64{{4}, {4}}, 1, []int64{3, 3, 2, 0, 4}, true},
	{"loop 3; set 1 add 1 2; stop eq 0 0; end", [][]int64{{0, 0, 1}}, [][]int64{{0, 1, 1}}, [][]int64{{1}}, 1, []int64{3, 1, 3, 0}, true},
	{"loop 3; stop ne 0 0; set 1 add 1 2; end", [][]int64{{0, 0, 1}}, [][]int64{{0, 3, 1}}, [][]int64{{2, 2, 2}}, 3, []int64{3, 3, 2, 0}, true},
	// In different turns, and in the last one.
	{"loop 4; stop eq 0 1; set 0 add 0 2; end; set 3 add 3 2", [][]int64{{0, 2, 1}, {1, 2, 1}, {2, 2, 1}, {9, 2, 1}}, [][]int64{{2, 2, 1, 1}, {2, 2, 1, 1}, {2, 2, 1, 1}, {13, 2, 1, 1}},
		[][]int64{{2, 2, 4}, {2, 4}, {4}, {2, 2, 2, 2, 4}}, 5, []int64{3, 3, 2, 0, 4}, false},
	{"loop 2; set 0 add 0 2; stop eq 0 1; set 3 add 3 2; end; const 4 1", [][]int64{{0, 2, 1}, {5, 2, 1}}, [][]int64{{2, 2, 1, 1, 1}, {7, 2, 1, 2, 1}},
		[][]int64{{1, 3, 1, 5}, {1, 3, 1, 3, 5}}, 5, []int64{4, 1, 4, 3, 0, 5}, false},
	// In an if, in an else, in both, and in an if in an if; what is behind them in the turn is not done.
	{"loop 3; if eq 0 1; set 3 add 3 2; stop eq 4 4; const 5 9; end; set 0 add 0 2; end; const 6 1", [][]int64{{0, 1, 1}, {5, 1, 1}}, [][]int64{{1, 1, 1, 1, 0, 0, 1}, {8, 1, 1, 0, 0, 0, 1}},
		[][]int64{{6, 2, 8}, {6, 6, 6, 8}}, 5, []int64{7, 5, 2, 7, 4, 1, 6, 0, 8}, false},
	{"loop 2; if eq 0 1; const 3 1; else; stop ltu 0 1; const 4 1; end; const 5 1; end", [][]int64{{2, 2}, {1, 2}, {3, 2}}, [][]int64{{2, 2, 0, 1, 0, 1}, {1, 2}, {3, 2, 0, 0, 1, 1}},
		[][]int64{{2, 7, 2, 7}, {}, {5, 7, 5, 7}}, 6, []int64{8, 3, 2, 6, 8, 5, 1, 7, 0}, false},
	{"loop 2; if eq 0 1; const 3 1; else; stop ltu 0 1; const 4 1; end; const 5 1; end", [][]int64{{2, 2}, {1, 2}}, [][]int64{{2, 2, 0, 1, 0, 1}, {1, 2}}, [][]int64{{2, 7, 2, 7}, {}}, 4, []int64{8, 3, 2, 6, 8, 5, 1, 7, 0}, false},
	{"loop 5; if eq 0 1; stop eq 7 7; else; stop eq 7 7; end; const 2 1; end; const 3 1", [][]int64{{1, 1}, {0, 1}}, [][]int64{{1, 1, 0, 1}, {0, 1, 0, 1}}, [][]int64{{8}, {8}}, 1, []int64{7, 3, 7, 5, 7, 1, 6, 0, 8}, true},
	{"loop 2; if eq 0 0; if eq 0 1; stop eq 0 0; else; const 3 1; end; const 4 1; end; const 5 1; end", [][]int64{{1, 1}, {0, 1}}, [][]int64{{1, 1}, {0, 1, 0, 1, 1, 1}},
		[][]int64{{}, {5, 7, 9, 5, 7, 9}}, 6, []int64{10, 8, 4, 10, 6, 5, 2, 7, 1, 9, 0}, false},
	// In the inner one of two loops: the lanes are on again behind it, and in the next turn of the outer one.
	{"loop 2; loop 3; stop eq 0 1; set 0 add 0 2; end; set 3 add 3 2; end", [][]int64{{0, 2, 1}, {5, 2, 1}}, [][]int64{{2, 2, 1, 2}, {11, 2, 1, 2}},
		[][]int64{{3, 3, 5, 5}, {3, 3, 3, 5, 3, 3, 3, 5}}, 8, []int64{6, 4, 4, 3, 1, 5, 0}, false},
	{"loop 3; const 0 0; loop 4; stop eq 0 1; set 0 add 0 2; end; set 3 add 3 0; end", [][]int64{{0, 1, 1}, {0, 3, 1}}, [][]int64{{1, 1, 1, 3}, {3, 3, 1, 9}},
		[][]int64{{1, 4, 6, 1, 4, 6, 1, 4, 6}, {1, 4, 4, 4, 6, 1, 4, 4, 4, 6, 1, 4, 4, 4, 6}}, 15, []int64{7, 1, 5, 5, 4, 2, 6, 0}, false},
	{"loop 2; if eq 0 1; loop 2; set 3 add 3 2; stop eq 7 7; end; set 4 add 4 2; end; set 5 add 5 2; end", [][]int64{{1, 1, 1}, {0, 1, 1}}, [][]int64{{1, 1, 1, 2, 2, 2}, {0, 1, 1, 0, 0, 2}},
		[][]int64{{3, 6, 8, 3, 6, 8}, {8, 8}}, 6, []int64{9, 7, 5, 3, 5, 2, 6, 1, 8, 0}, false},
	{"loop 3; loop 2; stop eq 7 7; end; set 3 add 3 2; stop eq 3 2; const 4 1; end", [][]int64{{0, 0, 1}, {0, 0, 2, 1}}, [][]int64{{0, 0, 1, 1}, {0, 0, 2, 7, 1}},
		[][]int64{{4}, {4, 6, 4, 6, 4, 6}}, 6, []int64{7, 3, 3, 1, 4, 7, 6, 0}, false},
	// Lanes whose paths are the same although they do a line at different times, as one of them is stopped before it in the first turn.
	{"loop 2; loop 1; if eq 0 7; const 0 1; stop eq 1 7; end; if eq 2 7; const 2 1; end; end; end", [][]int64{{0, 0}, {0, 1}}, [][]int64{{1, 0, 1}, {1, 1, 1}},
		[][]int64{{3, 7}, {3, 7}}, 3, []int64{10, 9, 5, 3, 9, 2, 8, 7, 6, 1, 0}, true},
}

// filled are lists of variables whose last ones are 0.
func filled(lists [][]int64) [][]int64 {
	var vars [][]int64
	for _, list := range lists {
		vars = append(vars, append(slices.Clone(list), make([]int64, impl.MaxVars-len(list))...))
	}
	return vars
}

func TestBranchesByHand(t *testing.T) {
	for _, c := range branchCases {
		lines, vars, ends, sum := linesOf(c.text), filled(c.vars), filled(c.ends), int64(0)
		for k, path := range c.paths {
			checkAlone(t, 8, lines, vars[k], ends[k], path)
			sum += int64(len(path))
		}
		checkMasked(t, 8, lines, vars, ends, c.steps, sum, c.isUniform)
		pairs, ok := impl.PairedLines(8, lines)
		wantList(t, "PairedLines "+c.text, pairs, ok, c.pairs)
		checkLines(t, 8, lines, vars, map[string]int{})
	}
}

// TestSixteenLanes stops each lane in its own turn, if at all.
func TestSixteenLanes(t *testing.T) {
	lines := linesOf("loop 8; set 2 add 2 1; stop eq 2 0; end")
	var vars, ends [][]int64
	sum := int64(0)
	for k := range int64(laneMost) {
		turns := k
		if k < 1 || k > 8 {
			turns = 8
		}
		vars, ends, sum = append(vars, []int64{k, 1}), append(ends, []int64{k, 1, turns}), sum+turns
	}
	checkMasked(t, 4, lines, filled(vars), filled(ends), 8, sum, false)
	checkLines(t, 4, lines, filled(vars), map[string]int{})
	checkMasked(t, 4, lines, filled(vars[9:]), filled(ends[9:]), 8, 7*8, true)
}

// TestLongBranches has code with as many lines, ifs, loops and rounds as there can be, and with one more.
func TestLongBranches(t *testing.T) {
	roll, seen := dice(4), map[string]int{}
	full := slices.Concat(manyLines("loop 8", 2), manyLines("set 0 add 0 7", 20), manyLines("end", 2))
	for _, vars := range [][][]int64{fewVars(&roll, 16, 1), fewVars(&roll, 16, laneMost)} {
		checkLines(t, 16, full, vars, seen)
		checkLines(t, 16, manyLines("set 0 add 0 7", lineMost), vars, seen)
		checkLines(t, 16, slices.Concat(manyLines("loop 8", 2), manyLines("loop 1", 2), manyLines("end", 4)), vars, seen)
		if steps, sum, ok := impl.CountMasked(16, full, vars); !ok || steps != 1280 || sum != 1280*int64(len(vars)) {
			t.Errorf("64 rounds of 20 lines are %d, %d, %v", steps, sum, ok)
		}
	}
	for n := range 40 {
		lines := manyLines("const 0 1", n)
		if got := impl.ValidLines(8, lines); got != (n <= lineMost) {
			t.Errorf("ValidLines of %d lines is %v", n, got)
		}
		if n > lineMost {
			refuseLines(t, 8, lines)
			refuseLines(t, 8, slices.Concat(manyLines("if eq 0 0", 1), manyLines("else", 1), manyLines("const 0 1", n-3), manyLines("end", 1)))
		}
	}
	refuseLines(t, 8, manyLines("const 0 1", 10000))
	for _, kinds := range allLists(5, 2) {
		// All ways to put ifs and loops inside of one another, and beside what is inside of as many.
		opening := func(count int64) []impl.Line {
			var lines []impl.Line
			for _, kind := range kinds[:count] {
				lines = append(lines, linesOf("if eq 0 0; loop 2")[kind])
			}
			return lines
		}
		four := slices.Concat(opening(4), manyLines("end", 1), manyLines("if eq 0 0", 1), manyLines("end", 4))
		checkLines(t, 8, four, fewVars(&roll, 8, 2), seen)
		refuseLines(t, 8, slices.Concat(opening(5), manyLines("end", 5)))
	}
}

// TestRounds multiplies the counts of loops inside of one another, with ifs between them and without.
func TestRounds(t *testing.T) {
	vars, seen := filled([][]int64{{0, 1}, {5, 3}}), map[string]int{}
	for _, counts := range allLists(3, 8) {
		rounds := (counts[0] + 1) * (counts[1] + 1) * (counts[2] + 1)
		for _, form := range []string{"loop %d; loop %d; loop %d; end; end; end", "loop %d; set 0 add 0 1; loop %d; if ltu 0 1; else; loop %d; set 2 add 2 1; end; end; end; end"} {
			lines := linesOf(fmt.Sprintf(form, counts[0]+1, counts[1]+1, counts[2]+1))
			if rounds <= roundMost {
				checkLines(t, 8, lines, vars, seen)
			} else {
				refuseLines(t, 8, lines)
			}
		}
	}
	// Loops beside each other do not count together, nor those that are over.
	checkLines(t, 8, linesOf("loop 8; loop 8; end; loop 8; end; end; loop 8; loop 1; loop 8; loop 1; end; end; end; end"), vars, seen)
	checkLines(t, 8, linesOf("loop 8; if eq 0 1; loop 8; set 2 add 2 1; end; else; loop 8; set 3 add 3 1; end; end; end"), vars, seen)
}

// placed is code that is valid if a line of a kind is.
func placed(x impl.Line) []impl.Line {
	before, behind := "loop 2", "end"
	switch x.Kind {
	case impl.LineElse:
		before = "if eq 0 0"
	case impl.LineEnd:
		before, behind = "if eq 0 0", ""
	case impl.LineIf, impl.LineLoop:
		before, behind = "loop 8", "end; end"
	}
	return slices.Concat(linesOf(before), []impl.Line{x}, linesOf(behind))
}

// TestLineFields gives each field of each kind all numbers around its limits, and others far from them.
func TestLineFields(t *testing.T) {
	far := []int64{math.MinInt64, -impl.MaxValue, -64, 64, 255, 256, powerOf(32), powerOf(32) + 1, math.MaxInt64}
	for _, bits := range allBits {
		for kind, limits := range lineLimits(bits) {
			fine := impl.Line{Kind: int64(kind)}
			for k, limit := range limits {
				*lineFields(&fine)[k] = limit[1]
			}
			for k, limit := range limits {
				for _, n := range append(slices.Clone(far), limit[0]-2, limit[0]-1, limit[0], limit[0]+1, limit[1]-1, limit[1], limit[1]+1, limit[1]+2, powerOf(bits)) {
					x := fine
					*lineFields(&x)[k] = n
					if n < limit[0] || n > limit[1] {
						refuseLines(t, bits, placed(x))
					} else {
						checkLineTexts(t, bits, placed(x))
					}
				}
			}
		}
		for _, kind := range []int64{math.MinInt64, -7, -1, lineKinds, lineKinds + 1, 64, powerOf(32), powerOf(32) + 4, math.MaxInt64} {
			for _, x := range []impl.Line{{Kind: kind}, {Kind: kind, B: 1}, {Kind: kind, D: 1, Op: 1, A: 1, B: 1}} {
				refuseLines(t, bits, []impl.Line{x})
				refuseLines(t, bits, placed(x))
				refuseLines(t, bits, slices.Concat(manyLines("const 0 1", 3), []impl.Line{x}))
			}
		}
	}
}

// noLines is code whose lines do not belong to each other as they must.
var noLines = []string{
	"end", "else", "stop eq 0 0", "if eq 0 0", "loop 2", "else; end", "end; end", "end; if eq 0 0", "end; loop 2", "set 0 add 0 0; end", "const 0 1; else", "const 0 1; stop eq 0 0",
	// An end too many or too few.
	"if eq 0 0; end; end", "loop 2; end; end", "if eq 0 0; if eq 0 0; end", "loop 2; loop 2; end", "if eq 0 0; loop 2; end", "if eq 0 0; else", "if eq 0 0; const 0 1", "loop 2; const 0 1", "if eq 0 0; end; loop 2", "loop 2; end; else; end",
	// An else of what is over, of a loop, and a second one.
	"if eq 0 0; end; else", "if eq 0 0; end; else; end", "loop 2; else; end", "if eq 0 0; loop 2; else; end; end", "if eq 0 0; else; loop 2; else; end; end", "loop 2; if eq 0 0; end; else; end",
	"if eq 0 0; else; else; end", "if eq 0 0; const 0 1; else; const 0 2; else; const 0 3; end", "if eq 0 0; else; if eq 0 0; end; else; end", "if eq 0 0; else; if eq 0 0; else; end; else; end",
	// A stop outside of all loops.
	"if eq 0 0; stop eq 0 0; end", "if eq 0 0; else; stop eq 0 0; end", "loop 2; end; stop eq 0 0", "stop eq 0 0; loop 2; end", "loop 2; stop eq 0 0; end; stop eq 0 0", "if eq 0 0; loop 2; end; stop eq 0 0; end",
}

func TestNoLines(t *testing.T) {
	for _, text := range noLines {
		for _, bits := range allBits {
			refuseLines(t, bits, linesOf(text))
			refuseLines(t, bits, slices.Concat(linesOf("loop 2; end; if eq 0 0; else; end"), linesOf(text)))
		}
	}
	for _, bits := range noBits {
		for _, text := range []string{"", "set 0 add 0 1", "const 0 0", "if eq 0 0; else; end", "loop 2; stop eq 0 0; end"} {
			refuseLines(t, bits, linesOf(text))
		}
	}
}

func TestReadLinesFails(t *testing.T) {
	none := []string{
		"\n", " ", " \n", "\n\n", "none", "none\n", "-\n", "set 0 add 1 2", "end\n", "set 0 add 1 2\n\n", "\nset 0 add 1 2\n", "set 0 add 1 2\n\nset 0 add 1 2\n", "set 0 add 1 2\nset 0 add 1 2", "set 0 add 1 2;set 0 add 1 2\n", "set 0 add 1 2\r\n", "set 0 add 1 2\r", "set 0 add 1 2\n ",
		// Blanks too many, or others than blanks.
		" set 0 add 1 2\n", "set 0 add 1 2 \n", "set  0 add 1 2\n", "set 0  add 1 2\n", "set 0 add  1 2\n", "set 0 add 1  2\n", "set\t0 add 1 2\n", "set 0 add 1\n2\n", "const 0  1\n", "const 0 1 \n", " loop 2\nend\n", "loop  2\nend\n", "loop 2 \nend\n", "loop 2\n end\n", "loop 2\nend \n",
		"if  eq 0 1\nend\n", "if eq  0 1\nend\n", "if eq 0  1\nend\n", "if eq 0 1 \nend\n", "if eq 0 1\nelse \nend\n", "if eq 0 1\n else\nend\n", "loop 2\nstop eq 0 1 \nend\n", "loop 2\nstop  eq 0 1\nend\n",
		// Fields too few or too many.
		"set\n", "set 0\n", "set 0 add\n", "set 0 add 1\n", "set 0 add 1 2 3\n", "set 0 add 1 2 3 4\n", "set 0 1 2\n", "set add 1 2\n", "const\n", "const 0\n", "const 0 1 2\n", "const 0 add 1 2\n", "const 0 0 0 1\n", "loop\nend\n", "loop \nend\n", "loop 2 2\nend\n", "loop 2\nend 0\n", "loop 2\nend 2\n", "loop 0 0 0 2\nend\n",
		"if\nend\n", "if eq\nend\n", "if eq 0\nend\n", "if eq 0 1 2\nend\n", "if 0 1\nend\n", "if 0 eq 0 1\nend\n", "if eq 0 1\nelse 0\nend\n", "if eq 0 1\nelse if\nend\n", "loop 2\nstop\nend\n", "loop 2\nstop eq\nend\n", "loop 2\nstop eq 0\nend\n", "loop 2\nstop eq 0 1 2\nend\n", "loop 2\nstop 0 1\nend\n",
		// Numbers in another form.
		"set 00 add 1 2\n", "set 0 add 01 2\n", "set 0 add 1 02\n", "set +0 add 1 2\n", "set -0 add 1 2\n", "set 0 add +1 2\n", "set 0 add -1 2\n", "set 0 add 1 2.0\n", "set 0x0 add 1 2\n", "set 0 add ١ 2\n", "set d add 1 2\n", "const 0 01\n", "const 0 +1\n", "const 0 -1\n", "const 0 1e1\n", "const 0 0x1\n", "const 01 1\n", "const 0 one\n",
		"loop 02\nend\n", "loop +2\nend\n", "loop -2\nend\n", "loop 2.\nend\n", "if eq 00 1\nend\n", "if eq 0 +1\nend\n", "if eq 0 -0\nend\n", "loop 2\nstop eq 0 01\nend\n", "loop 2\nstop eq -0 1\nend\n",
		// Unknown names, and known ones at other places.
		"Set 0 add 1 2\n", "SET 0 add 1 2\n", "sets 0 add 1 2\n", "se 0 add 1 2\n", "0 0 add 1 2\n", "set 0 Add 1 2\n", "set 0 plus 1 2\n", "set 0 0 1 2\n", "set 0 eq 1 2\n", "set 0 addd 1 2\n", "set 0 shr 1 2\n", "set 0 and or 2\n", "constant 0 1\n", "let 0 1\n", "if add 0 1\nend\n", "if == 0 1\nend\n", "if lt 0 1\nend\n", "if gtu 0 1\nend\n", "if EQ 0 1\nend\n", "if 0 0 1\nend\n",
		"if eqs 0 1\nend\n", "if eq 0 1\nelseif\nend\n", "if eq 0 1\nElse\nend\n", "if eq 0 1\nEnd\n", "if eq 0 1\nfi\n", "loop two\nend\n", "for 2\nend\n", "loop 2\nbreak eq 0 1\nend\n", "loop 2\nstop add 0 1\nend\n", "loop 2\nstop ge 0 1\nend\n", "loop 2\nstop\x00 eq 0 1\nend\n", "\xff\n", "\x00\n",
		// Lines that are not valid.
		"set 8 add 1 2\n", "set 0 add 8 2\n", "set 0 add 1 8\n", "const 8 1\n", "const 0 256\n", "loop 0\nend\n", "loop 9\nend\n", "if eq 8 1\nend\n", "if eq 0 8\nend\n", "loop 2\nstop eq 8 1\nend\n", "loop 2\nstop eq 0 8\nend\n", "set 4294967296 add 1 2\n", "const 0 18446744073709551617\n", "loop 4294967297\nend\n", "const 0 1000000001\n",
		strings.Repeat("const 0 1\n", 25), strings.Repeat("const 0 1\n", 24) + "\n", strings.Repeat("const 0 1\n", 24) + "const 0 1", strings.Repeat("const 0 1\n", 10000), "set" + strings.Repeat(" 0", 10000) + "\n", strings.Repeat("\n", 10000), strings.Repeat(" ", 10000) + "\n",
	}
	for _, s := range none {
		if lines, ok := impl.ReadLines(8, s); ok || len(lines) != 0 {
			t.Errorf("ReadLines(8, %.60q) = %v, %v", s, lines, ok)
		}
	}
	for _, text := range noLines {
		s := plainLines(linesOf(text))
		if lines, ok := impl.ReadLines(8, s); ok || len(lines) != 0 {
			t.Errorf("ReadLines(8, %q) = %v, %v", s, lines, ok)
		}
	}
	// What is a word depends on the bits.
	for _, c := range []struct {
		bits, word int64
		ok         bool
	}{{4, 15, true}, {4, 16, false}, {8, 16, true}, {8, 255, true}, {8, 256, false}, {16, 256, true}, {16, 65535, true}, {16, 65536, false}, {5, 1, false}, {0, 0, false}} {
		s := fmt.Sprintf("const 0 %d\n", c.word)
		var want []impl.Line
		if c.ok {
			want = manyLines(s, 1)
		}
		if lines, ok := impl.ReadLines(c.bits, s); ok != c.ok || !slices.Equal(lines, want) {
			t.Errorf("ReadLines(%d, %q) = %v, %v", c.bits, s, lines, ok)
		}
	}
}

// branchArgs are arguments for all functions of the chapter, which take those that they have.
type branchArgs struct {
	bits  int64
	lines []impl.Line
	vars  []int64
	lanes [][]int64
	text  string
}

// branchAnswer has all that a function can return.
type branchAnswer struct {
	list        []int64
	lists       [][]int64
	lines       []impl.Line
	number, sum int64
	text        string
	ok          bool
}

// branchCall is a function of the chapter with what it takes besides the bits.
type branchCall struct {
	name, takes string
	run         func(x branchArgs) branchAnswer
}

func varsAnswer(list []int64, ok bool) branchAnswer { return branchAnswer{list: list, ok: ok} }

func lanesAnswer(lists [][]int64, ok bool) branchAnswer { return branchAnswer{lists: lists, ok: ok} }

func countAnswer(n int64, ok bool) branchAnswer { return branchAnswer{number: n, ok: ok} }

func countsAnswer(n, sum int64, ok bool) branchAnswer {
	return branchAnswer{number: n, sum: sum, ok: ok}
}

func lineTextAnswer(text string, ok bool) branchAnswer { return branchAnswer{text: text, ok: ok} }

func linesAnswer(lines []impl.Line, ok bool) branchAnswer {
	return branchAnswer{lines: lines, ok: ok}
}

var branchCalls = []branchCall{
	{"ValidLines", "lines", func(x branchArgs) branchAnswer { return branchAnswer{ok: impl.ValidLines(x.bits, x.lines)} }},
	{"PairedLines", "lines", func(x branchArgs) branchAnswer { return varsAnswer(impl.PairedLines(x.bits, x.lines)) }},
	{"RunAlone", "lines vars", func(x branchArgs) branchAnswer { return varsAnswer(impl.RunAlone(x.bits, x.lines, x.vars)) }},
	{"CountAlone", "lines vars", func(x branchArgs) branchAnswer { return countAnswer(impl.CountAlone(x.bits, x.lines, x.vars)) }},
	{"RunMasked", "lines lanes", func(x branchArgs) branchAnswer { return lanesAnswer(impl.RunMasked(x.bits, x.lines, x.lanes)) }},
	{"CountMasked", "lines lanes", func(x branchArgs) branchAnswer { return countsAnswer(impl.CountMasked(x.bits, x.lines, x.lanes)) }},
	{"PathOf", "lines vars", func(x branchArgs) branchAnswer { return varsAnswer(impl.PathOf(x.bits, x.lines, x.vars)) }},
	{"IsUniform", "lines lanes", func(x branchArgs) branchAnswer { return branchAnswer{ok: impl.IsUniform(x.bits, x.lines, x.lanes)} }},
	{"LinesText", "lines", func(x branchArgs) branchAnswer { return lineTextAnswer(impl.LinesText(x.bits, x.lines)) }},
	{"ReadLines", "text", func(x branchArgs) branchAnswer { return linesAnswer(impl.ReadLines(x.bits, x.text)) }},
}

// isZero reports whether an answer is that of a function that fails.
func (a branchAnswer) isZero() bool {
	return !a.ok && len(a.list)+len(a.lists)+len(a.lines)+len(a.text) == 0 && a.number == 0 && a.sum == 0
}

func noVars(bits int64) [][]int64 {
	list := [][]int64{nil, {}, {1}, make([]int64, impl.MaxVars-1), make([]int64, impl.MaxVars+1), make([]int64, 2*impl.MaxVars), make([]int64, 1000)}
	for _, wrong := range noWords(bits) {
		for place := range impl.MaxVars {
			vars := make([]int64, impl.MaxVars)
			vars[place] = wrong
			list = append(list, vars)
		}
	}
	return list
}

// TestBranchesFail changes one argument after another: other results must be zero values then.
func TestBranchesFail(t *testing.T) {
	roll := dice(6)
	for _, text := range []string{"", "const 0 1", "loop 2; set 0 add 1 2; stop eq 0 1; end", "if eq 0 0; const 1 2; else; const 1 3; end"} {
		for _, bits := range allBits {
			same := fewVars(&roll, bits, 1)
			fine := branchArgs{bits, linesOf(text), same[0], slices.Repeat(same, 3), plainLines(linesOf(text))}
			for _, c := range branchCalls {
				if a := c.run(fine); !a.ok {
					t.Fatalf("%s of fitting arguments %v is %v", c.name, fine, a)
				}
				refuse := func(x branchArgs) {
					t.Helper()
					if a := c.run(x); !a.isZero() {
						t.Errorf("%s of %v is %v", c.name, x, a)
					}
				}
				x := fine
				for _, x.bits = range noBits {
					refuse(x)
				}
				if x = fine; strings.HasSuffix(c.takes, "vars") {
					for _, x.vars = range noVars(bits) {
						refuse(x)
					}
				}
				if strings.HasSuffix(c.takes, "lanes") {
					refuseLanes(fine, refuse)
				}
			}
		}
	}
}

// refuseLanes has lists of variables that are too few or too many, or have a wrong one among them.
func refuseLanes(fine branchArgs, refuse func(x branchArgs)) {
	x := fine
	for _, x.lanes = range [][][]int64{nil, {}, slices.Repeat([][]int64{fine.vars}, laneMost+1), slices.Repeat([][]int64{fine.vars}, 32), slices.Repeat([][]int64{fine.vars}, 1000), slices.Repeat([][]int64{nil}, 5)} {
		refuse(x)
	}
	for _, wrong := range noVars(fine.bits) {
		for _, n := range []int{1, 2, laneMost} {
			for _, place := range []int{0, n / 2, n - 1} {
				x.lanes = slices.Repeat([][]int64{fine.vars}, n)
				x.lanes[place] = wrong
				refuse(x)
			}
		}
	}
}

// roomyLines returns lines with unused capacity, and all of its memory.
func roomyLines(lines []impl.Line) ([]impl.Line, []impl.Line) {
	all := append(append(make([]impl.Line, 0, len(lines)+30), lines...), slices.Repeat([]impl.Line{{Kind: 9, D: 8, Op: 7, A: 6, B: 5}}, 30)...)
	return all[:len(lines)], all
}

// TestBranchesStayEqual is promise 1 for this chapter: no call changes an argument, and no result shares memory with an argument or another result, or with another list of its answer.
func TestBranchesStayEqual(t *testing.T) {
	roll := dice(2)
	for _, text := range []string{"", "const 0 1", "loop 3; if eq 0 1; set 2 add 2 7; stop eq 2 1; else; set 0 add 0 7; end; end", "if ltu 0 1; loop 2; loop 2; set 3 add 3 7; stop ltu 2 3; end; end; end; const 5 1"} {
		for _, c := range branchCalls {
			x := branchArgs{bits: 8, lines: linesOf(text), text: plainLines(linesOf(text))}
			var lines []impl.Line
			var kept []int64
			var table [2][][]int64
			x.lines, lines = roomyLines(x.lines)
			x.vars, kept = roomy(fewVars(&roll, 8, 1)[0])
			// With the same lanes, they are uniform.
			x.lanes, table = roomyTable(slices.Repeat([][]int64{x.vars}, 3))
			before := fmt.Sprint(lines, kept, table)
			first, second := c.run(x), c.run(x)
			want := fmt.Sprint(first)
			if !first.ok || fmt.Sprint(second) != want {
				t.Fatalf("%s of %v is %s and then %v", c.name, x, want, second)
			}
			checkApart(t, c.name, first.lists)
			spoil(first.list)
			spoil(first.lists)
			for i := range first.lines[:cap(first.lines)] {
				first.lines[:cap(first.lines)][i] = impl.Line{Kind: -7}
			}
			if third := c.run(x); fmt.Sprint(second) != want || fmt.Sprint(third) != want {
				t.Errorf("%s of %v: results share memory: %v and %v, want %s", c.name, x, second, third, want)
			}
			if after := fmt.Sprint(lines, kept, table); after != before {
				t.Errorf("%s changes its arguments from %s to %s", c.name, before, after)
			}
		}
	}
}

func TestBranchConstants(t *testing.T) {
	got := []int64{impl.MaxVars, impl.MaxLines, impl.MaxNested, impl.MaxRepeat, impl.MaxRounds, impl.LineSet, impl.LineConst, impl.LineIf, impl.LineElse, impl.LineEnd, impl.LineLoop, impl.LineStop}
	wantList(t, "the constants", got, true, []int64{8, 24, 4, 8, 64, 0, 1, 2, 3, 4, 5, 6})
}
