package tests

import (
	"math"
	"slices"
	"strings"
	"testing"

	"loop.example/g01139/impl"
)

const lastOp = impl.OpShrS

var (
	allBits = []int64{4, 8, 16}
	noBits  = []int64{math.MinInt64, -8, -1, 0, 1, 2, 3, 5, 6, 7, 9, 12, 15, 17, 32, 63, 64, 65, math.MaxInt64}
	noOps   = []int64{math.MinInt64, -1, lastOp + 1, 99, math.MaxInt64}
	opNames = []string{"add", "sub", "mul", "and", "or", "xor", "minu", "maxu", "mins", "maxs", "addu", "adds", "subu", "subs", "avg", "shl", "shru", "shrs"}
)

// powerOf and the other functions without impl in them compute as the specification words it, with plain numbers, to be held against impl.
func powerOf(k int64) int64 {
	p := int64(1)
	for range k {
		p *= 2
	}
	return p
}

func floorDiv(n, d int64) int64 {
	q := n / d
	if n%d < 0 {
		q--
	}
	return q
}

func wrapped(bits, n int64) int64 { return n - floorDiv(n, powerOf(bits))*powerOf(bits) }

func signedValue(bits, x int64) int64 {
	if 2*x < powerOf(bits) {
		return x
	}
	return x - powerOf(bits)
}

func bounded(n, low, high int64) int64 {
	if n < low {
		return low
	}
	if n > high {
		return high
	}
	return n
}

// bitwise adds up the bits of which the number of words that have them, 0 to 2, is kept.
func bitwise(bits, a, b int64, keep [3]bool) int64 {
	sum := int64(0)
	for k := range bits {
		if keep[a/powerOf(k)%2+b/powerOf(k)%2] {
			sum += powerOf(k)
		}
	}
	return sum
}

func wantOp(op, bits, a, b int64) int64 {
	greatest, most := powerOf(bits)-1, powerOf(bits-1)-1
	sa, sb := signedValue(bits, a), signedValue(bits, b)
	k := powerOf(b % bits)
	switch op {
	case impl.OpAdd:
		return wrapped(bits, a+b)
	case impl.OpSub:
		return wrapped(bits, a-b)
	case impl.OpMul:
		return wrapped(bits, a*b)
	case impl.OpAnd:
		return bitwise(bits, a, b, [3]bool{2: true})
	case impl.OpOr:
		return bitwise(bits, a, b, [3]bool{1: true, 2: true})
	case impl.OpXor:
		return bitwise(bits, a, b, [3]bool{1: true})
	case impl.OpMinU:
		return min(a, b)
	case impl.OpMaxU:
		return max(a, b)
	case impl.OpMinS:
		return wrapped(bits, min(sa, sb))
	case impl.OpMaxS:
		return wrapped(bits, max(sa, sb))
	case impl.OpAddSatU:
		return bounded(a+b, 0, greatest)
	case impl.OpAddSatS:
		return wrapped(bits, bounded(sa+sb, -most-1, most))
	case impl.OpSubSatU:
		return bounded(a-b, 0, greatest)
	case impl.OpSubSatS:
		return wrapped(bits, bounded(sa-sb, -most-1, most))
	case impl.OpAvg:
		return (a + b + 1) / 2
	case impl.OpShl:
		return wrapped(bits, a*k)
	case impl.OpShrU:
		return a / k
	}
	return wrapped(bits, floorDiv(sa, k))
}

// edgeWords are the words around the ends of all words and of the signed values, around the bits, and some between.
func edgeWords(bits int64) []int64 {
	half, all := powerOf(bits-1), powerOf(bits)
	set := []int64{0, 1, 2, 3, 5, bits - 1, bits, bits + 1, 2*bits - 1, half / 3, half - 2, half - 1, half, half + 1, all - half/3, all - 2, all - 1}
	for i, x := range set {
		set[i] = wrapped(bits, x)
	}
	slices.Sort(set)
	return slices.Compact(set)
}

// testedWords are all words of 4 and of 8 bits, and of 16 bits the edges and one in 199.
func testedWords(bits int64) []int64 {
	step, words := int64(1), []int64{}
	if bits == 16 {
		step, words = 199, edgeWords(bits)
	}
	for x := int64(0); x < powerOf(bits); x += step {
		words = append(words, x)
	}
	return words
}

func op(t *testing.T, code, bits, a, b int64) int64 {
	t.Helper()
	got, ok := impl.DoOp(code, bits, a, b)
	if !ok {
		t.Fatalf("DoOp(%d, %d, %d, %d) fails", code, bits, a, b)
	}
	return got
}

func TestDoOpOfManyWords(t *testing.T) {
	for _, bits := range allBits {
		words := testedWords(bits)
		for code := range int64(lastOp + 1) {
			for _, a := range words {
				for _, b := range words {
					if got, want := op(t, code, bits, a, b), wantOp(code, bits, a, b); got != want {
						t.Fatalf("DoOp(%s, %d, %d, %d) = %d, want %d", opNames[code], bits, a, b, got, want)
					}
				}
			}
		}
	}
}

func TestDoOpByHand(t *testing.T) {
	cases := []struct{ op, bits, a, b, want int64 }{
		{impl.OpAdd, 8, 250, 10, 4}, {impl.OpAdd, 4, 15, 15, 14}, {impl.OpAdd, 16, 65535, 1, 0},
		{impl.OpSub, 4, 0, 1, 15}, {impl.OpSub, 8, 3, 4, 255}, {impl.OpSub, 16, 0, 65535, 1},
		{impl.OpMul, 4, 15, 15, 1}, {impl.OpMul, 8, 16, 16, 0}, {impl.OpMul, 16, 65535, 65535, 1}, {impl.OpMul, 16, 300, 300, 24464},
		{impl.OpAnd, 8, 0xcc, 0xaa, 0x88}, {impl.OpOr, 8, 0xcc, 0xaa, 0xee}, {impl.OpXor, 8, 0xcc, 0xaa, 0x66},
		{impl.OpMinU, 8, 127, 128, 127}, {impl.OpMaxU, 8, 127, 128, 128}, {impl.OpMinS, 8, 127, 128, 128}, {impl.OpMaxS, 8, 127, 128, 127},
		{impl.OpMinS, 4, 7, 8, 8}, {impl.OpMaxS, 16, 32767, 32768, 32767}, {impl.OpMinS, 16, 65535, 32768, 32768},
		{impl.OpAddSatU, 8, 250, 10, 255}, {impl.OpAddSatU, 4, 8, 7, 15}, {impl.OpAddSatU, 16, 65535, 65535, 65535},
		{impl.OpAddSatS, 8, 250, 10, 4}, {impl.OpAddSatS, 8, 127, 1, 127}, {impl.OpAddSatS, 8, 128, 255, 128}, {impl.OpAddSatS, 4, 8, 8, 8}, {impl.OpAddSatS, 16, 32767, 32767, 32767},
		{impl.OpSubSatU, 8, 10, 250, 0}, {impl.OpSubSatU, 16, 65535, 65535, 0}, {impl.OpSubSatU, 4, 15, 1, 14},
		{impl.OpSubSatS, 4, 8, 1, 8}, {impl.OpSubSatS, 4, 7, 8, 7}, {impl.OpSubSatS, 8, 0, 128, 127}, {impl.OpSubSatS, 16, 32768, 32767, 32768},
		{impl.OpAvg, 8, 250, 11, 131}, {impl.OpAvg, 4, 15, 15, 15}, {impl.OpAvg, 16, 65535, 65534, 65535}, {impl.OpAvg, 8, 0, 1, 1},
		{impl.OpShl, 8, 1, 7, 128}, {impl.OpShl, 8, 1, 8, 1}, {impl.OpShl, 8, 3, 9, 6}, {impl.OpShl, 8, 255, 255, 128}, {impl.OpShl, 4, 5, 15, 8}, {impl.OpShl, 16, 1, 31, 32768},
		{impl.OpShrU, 8, 128, 7, 1}, {impl.OpShrU, 8, 128, 8, 128}, {impl.OpShrU, 4, 15, 5, 7}, {impl.OpShrU, 16, 65535, 65535, 1}, {impl.OpShrU, 16, 65535, 16, 65535},
		{impl.OpShrS, 8, 250, 9, 253}, {impl.OpShrS, 8, 128, 7, 255}, {impl.OpShrS, 8, 127, 7, 0}, {impl.OpShrS, 4, 8, 4, 8}, {impl.OpShrS, 16, 65535, 65535, 65535}, {impl.OpShrS, 16, 32768, 1, 49152},
	}
	for _, c := range cases {
		if got := op(t, c.op, c.bits, c.a, c.b); got != c.want {
			t.Errorf("DoOp(%s, %d, %d, %d) = %d, want %d", opNames[c.op], c.bits, c.a, c.b, got, c.want)
		}
	}
}

func TestDoOpFails(t *testing.T) {
	refuse := func(op, bits, a, b int64) {
		t.Helper()
		if got, ok := impl.DoOp(op, bits, a, b); ok || got != 0 {
			t.Errorf("DoOp(%d, %d, %d, %d) = %d, %v, want 0, false", op, bits, a, b, got, ok)
		}
	}
	for _, op := range noOps {
		refuse(op, 8, 3, 5)
	}
	for op := range int64(lastOp + 1) {
		for _, bits := range noBits {
			refuse(op, bits, 1, 1)
		}
		for _, bits := range allBits {
			for _, x := range noWords(bits) {
				refuse(op, bits, x, 1)
				refuse(op, bits, 1, x)
			}
		}
	}
}

// noWords are numbers that are no words of some bits, among them those whose low bits are a word.
func noWords(bits int64) []int64 {
	return []int64{math.MinInt64, -powerOf(bits), -1, powerOf(bits), powerOf(bits) + 1, powerOf(32) + 1, math.MaxInt64}
}

func TestIsWord(t *testing.T) {
	for _, bits := range allBits {
		for _, x := range edgeWords(bits) {
			if !impl.IsWord(bits, x) {
				t.Errorf("IsWord(%d, %d) is false", bits, x)
			}
		}
		for _, x := range noWords(bits) {
			if impl.IsWord(bits, x) {
				t.Errorf("IsWord(%d, %d) is true", bits, x)
			}
		}
	}
	for _, bits := range noBits {
		for _, x := range []int64{-1, 0, 1, math.MaxInt64} {
			if impl.IsWord(bits, x) {
				t.Errorf("IsWord(%d, %d) is true", bits, x)
			}
		}
	}
}

func TestSignedOf(t *testing.T) {
	cases := [][3]int64{{8, 250, -6}, {4, 7, 7}, {4, 8, -8}, {4, 15, -1}, {8, 0, 0}, {8, 127, 127}, {8, 128, -128}, {8, 255, -1}, {16, 32767, 32767}, {16, 32768, -32768}, {16, 65535, -1}}
	for _, c := range cases {
		if got, ok := impl.SignedOf(c[0], c[1]); !ok || got != c[2] {
			t.Errorf("SignedOf(%d, %d) = %d, %v, want %d", c[0], c[1], got, ok, c[2])
		}
	}
	for _, bits := range allBits {
		for x := range powerOf(bits) {
			n, ok := impl.SignedOf(bits, x)
			back, fine := impl.WordOf(bits, n)
			if !ok || !fine || n != signedValue(bits, x) || back != x {
				t.Fatalf("SignedOf(%d, %d) = %d, %v, and WordOf leads back to %d, %v", bits, x, n, ok, back, fine)
			}
		}
		for _, x := range noWords(bits) {
			if got, ok := impl.SignedOf(bits, x); ok || got != 0 {
				t.Errorf("SignedOf(%d, %d) = %d, %v, want 0, false", bits, x, got, ok)
			}
		}
	}
	for _, bits := range noBits {
		if got, ok := impl.SignedOf(bits, 1); ok || got != 0 {
			t.Errorf("SignedOf(%d, 1) = %d, %v, want 0, false", bits, got, ok)
		}
	}
}

func TestWordOf(t *testing.T) {
	cases := [][3]int64{{8, -6, 250}, {8, 256, 0}, {8, -256, 0}, {8, -257, 255}, {4, 16, 0}, {4, -1, 15}, {16, 65536, 0}, {16, -1, 65535}, {16, -65537, 65535}}
	for _, c := range cases {
		if got, ok := impl.WordOf(c[0], c[1]); !ok || got != c[2] {
			t.Errorf("WordOf(%d, %d) = %d, %v, want %d", c[0], c[1], got, ok, c[2])
		}
	}
	for _, bits := range allBits {
		for _, n := range []int64{-impl.MaxValue, -impl.MaxValue + 1, -12345678, 0, 12345678, impl.MaxValue - 1, impl.MaxValue} {
			if got, ok := impl.WordOf(bits, n); !ok || got != wrapped(bits, n) {
				t.Errorf("WordOf(%d, %d) = %d, %v, want %d", bits, n, got, ok, wrapped(bits, n))
			}
		}
		for _, n := range noValues {
			if got, ok := impl.WordOf(bits, n); ok || got != 0 {
				t.Errorf("WordOf(%d, %d) = %d, %v, want 0, false", bits, n, got, ok)
			}
		}
	}
	for _, bits := range noBits {
		if got, ok := impl.WordOf(bits, 1); ok || got != 0 {
			t.Errorf("WordOf(%d, 1) = %d, %v, want 0, false", bits, got, ok)
		}
	}
}

var noValues = []int64{math.MinInt64, -impl.MaxValue - 1, impl.MaxValue + 1, math.MaxInt64}

func TestCompare(t *testing.T) {
	for _, bits := range allBits {
		words := testedWords(bits)
		for _, a := range words {
			for _, b := range words {
				sa, sb := signedValue(bits, a), signedValue(bits, b)
				want := []bool{a == b, a != b, a < b, a <= b, sa < sb, sa <= sb}
				for cmp, holds := range want {
					if got, ok := impl.TestCmp(int64(cmp), bits, a, b); !ok || got != holds {
						t.Fatalf("TestCmp(%d, %d, %d, %d) = %v, %v, want %v", cmp, bits, a, b, got, ok, holds)
					}
				}
			}
		}
	}
}

func TestCompareFails(t *testing.T) {
	refuse := func(cmp, bits, a, b int64) {
		t.Helper()
		if got, ok := impl.TestCmp(cmp, bits, a, b); ok || got {
			t.Errorf("TestCmp(%d, %d, %d, %d) = %v, %v, want false, false", cmp, bits, a, b, got, ok)
		}
	}
	for _, cmp := range []int64{math.MinInt64, -1, impl.CmpLeS + 1, math.MaxInt64} {
		refuse(cmp, 8, 1, 1)
	}
	for cmp := range int64(impl.CmpLeS + 1) {
		for _, bits := range noBits {
			refuse(cmp, bits, 1, 1)
			refuse(cmp, bits, 0, 1)
		}
		for _, bits := range allBits {
			for _, x := range noWords(bits) {
				refuse(cmp, bits, x, x)
				refuse(cmp, bits, x, 1)
				refuse(cmp, bits, 1, x)
			}
		}
	}
}

// TestOrderMatters looks for words whose order makes a difference, and IsCommutative must tell whether there are any.
func TestOrderMatters(t *testing.T) {
	for code := range int64(lastOp + 1) {
		same := true
		for _, bits := range allBits {
			words := testedWords(bits)
			for _, a := range words {
				for _, b := range words {
					same = same && op(t, code, bits, a, b) == op(t, code, bits, b, a)
				}
			}
		}
		if impl.IsCommutative(code) != same {
			t.Errorf("IsCommutative(%s) = %v", opNames[code], !same)
		}
	}
	for _, code := range noOps {
		if impl.IsCommutative(code) {
			t.Errorf("IsCommutative(%d) is true", code)
		}
	}
}

// TestBracketsMatter does the same for IsAssociative, with all words of 4 bits and the edges of more.
func TestBracketsMatter(t *testing.T) {
	for code := range int64(lastOp + 1) {
		same := true
		for _, bits := range allBits {
			words := edgeWords(bits)
			if bits == 4 {
				words = testedWords(bits)
			}
			for _, a := range words {
				for _, b := range words {
					for _, c := range words {
						right := op(t, code, bits, a, op(t, code, bits, b, c))
						same = same && right == op(t, code, bits, op(t, code, bits, a, b), c)
					}
				}
			}
		}
		if impl.IsAssociative(code) != same {
			t.Errorf("IsAssociative(%s) = %v", opNames[code], !same)
		}
	}
	for _, code := range noOps {
		if impl.IsAssociative(code) {
			t.Errorf("IsAssociative(%d) is true", code)
		}
	}
}

func TestNames(t *testing.T) {
	for _, s := range []string{"a", "z", "lane", "abcdefgh", "zzzzzzzz"} {
		if !impl.IsName(s) {
			t.Errorf("IsName(%q) is false", s)
		}
	}
	for _, s := range []string{"", "abcdefghi", "A", "Lane", "lanE", "a1", "a b", " a", "a ", "a\n", "`", "{", "é", "aé", "\xff", "a\x00", strings.Repeat("a", 100)} {
		if impl.IsName(s) {
			t.Errorf("IsName(%q) is true", s)
		}
	}
}

func TestOpTexts(t *testing.T) {
	for code, name := range opNames {
		text, ok := impl.OpText(int64(code))
		back, fine := impl.ReadOp(name)
		if !ok || text != name || !fine || back != int64(code) {
			t.Errorf("operation %d: OpText %q, %v, ReadOp(%q) %d, %v", code, text, ok, name, back, fine)
		}
	}
	for _, code := range noOps {
		if text, ok := impl.OpText(code); ok || text != "" {
			t.Errorf("OpText(%d) = %q, %v, want an empty text and false", code, text, ok)
		}
	}
	for _, s := range []string{"", "plus", "Add", "ADD", "add ", " add", "ad", "addd", "shr", "min", "0", "none", "add\x00"} {
		if code, ok := impl.ReadOp(s); ok || code != 0 {
			t.Errorf("ReadOp(%q) = %d, %v, want 0, false", s, code, ok)
		}
	}
}

func TestDecimals(t *testing.T) {
	read := []struct {
		n    int64
		text string
	}{{0, "0"}, {7, "7"}, {-7, "-7"}, {10, "10"}, {-100, "-100"}, {impl.MaxValue, "1000000000"}, {-impl.MaxValue, "-1000000000"}, {999999999, "999999999"}}
	for _, c := range read {
		text := impl.Decimal(c.n)
		back, ok := impl.ReadDecimal(c.text)
		if text != c.text || !ok || back != c.n {
			t.Errorf("Decimal(%d) = %q, ReadDecimal(%q) = %d, %v", c.n, text, c.text, back, ok)
		}
	}
	// Decimal takes all numbers: the limit is that of ReadDecimal alone.
	written := []struct {
		n    int64
		text string
	}{{impl.MaxValue + 1, "1000000001"}, {-impl.MaxValue - 1, "-1000000001"}, {math.MaxInt64, "9223372036854775807"}, {math.MinInt64, "-9223372036854775808"}}
	for _, c := range written {
		if text := impl.Decimal(c.n); text != c.text {
			t.Errorf("Decimal(%d) = %q, want %q", c.n, text, c.text)
		}
		refuseDecimal(t, c.text)
	}
	none := []string{"", "-", "+", "+7", "+0", "-0", "00", "07", "-07", "--7", "7-", " 7", "7 ", "7\n", "1_000", "0x1", "1e3", "1.0", "a", "١", "７",
		"01000000000", "18446744073709551616", "18446744073709551617", strings.Repeat("0", 1000), strings.Repeat("9", 1000)}
	for _, s := range none {
		refuseDecimal(t, s)
	}
}

func refuseDecimal(t *testing.T, s string) {
	t.Helper()
	if n, ok := impl.ReadDecimal(s); ok || n != 0 {
		t.Errorf("ReadDecimal(%q) = %d, %v, want 0, false", s, n, ok)
	}
}

// longList has n of the longest numbers.
func longList(n int) ([]int64, string) {
	list, texts := make([]int64, n), make([]string, n)
	for i := range list {
		list[i], texts[i] = -impl.MaxValue, "-1000000000"
	}
	return list, strings.Join(texts, ",")
}

func TestLists(t *testing.T) {
	long, longText := longList(impl.MaxItems)
	cases := []struct {
		list []int64
		text string
	}{{nil, "none"}, {[]int64{}, "none"}, {[]int64{0}, "0"}, {[]int64{1, -2}, "1,-2"}, {[]int64{impl.MaxValue, 0, -impl.MaxValue}, "1000000000,0,-1000000000"}, {long, longText}}
	for _, c := range cases {
		text, ok := impl.ListText(c.list)
		back, fine := impl.ReadList(c.text)
		if !ok || text != c.text || !fine || !slices.Equal(back, c.list) {
			t.Errorf("ListText(%v) = %q, %v, ReadList(%q) = %v, %v", c.list, text, ok, c.text, back, fine)
		}
	}
}

func TestListsFail(t *testing.T) {
	tooLong, tooLongText := longList(impl.MaxItems + 1)
	refused := [][]int64{tooLong, make([]int64, 1000)}
	for _, n := range noValues {
		refused = append(refused, []int64{n}, []int64{1, n}, []int64{n, 1})
	}
	for _, list := range refused {
		if text, ok := impl.ListText(list); ok || text != "" {
			t.Errorf("ListText(%v) = %q, %v, want an empty text and false", list, text, ok)
		}
	}
	none := []string{"", ",", "1,", ",1", "1,,2", "1, 2", " 1", "1 ", "1;2", "None", "none,1", "1,none", "none,none", "nonee", " none", "01", "1,02", "1,-0", "+1", "1000000001", "1,-1000000001",
		tooLongText, longTextOf("1", impl.MaxItems+1), longTextOf("1", impl.MaxItems) + ",", longTextOf("1", 100000)}
	for _, s := range none {
		if list, ok := impl.ReadList(s); ok || len(list) != 0 {
			t.Errorf("ReadList(%.40q) = %v, %v, want no list and false", s, list, ok)
		}
	}
}

func longTextOf(item string, n int) string { return strings.Repeat(item+",", n-1) + item }

func TestCheckOf(t *testing.T) {
	cases := []struct {
		start int64
		text  string
		want  int64
	}{
		{0, "", 0}, {17, "", 17}, {impl.CheckSize - 1, "", impl.CheckSize - 1}, {0, "a", 100}, {100, "b", 17401}, {0, "ab", 17401},
		{0, "\x00", 3}, {0, "\xff", 258}, {0, "\xc3\xa9", 34426}, {impl.CheckSize - 1, "\x00", impl.CheckSize - 170}, {370, "\xff", 261},
		// 173 times 369, plus 167, plus 3, is just CheckSize.
		{369, "\xa7", 0}, {369, "\xa6", impl.CheckSize - 1},
	}
	for _, c := range cases {
		if got, ok := impl.CheckOf(c.start, c.text); !ok || got != c.want {
			t.Errorf("CheckOf(%d, %q) = %d, %v, want %d", c.start, c.text, got, ok, c.want)
		}
	}
	for _, start := range []int64{math.MinInt64, -1, impl.CheckSize, impl.CheckSize + 1, math.MaxInt64} {
		if got, ok := impl.CheckOf(start, "a"); ok || got != 0 {
			t.Errorf("CheckOf(%d, \"a\") = %d, %v, want 0, false", start, got, ok)
		}
	}
}

// TestCheckOfParts uses that the check number of a text is that of its end, begun with that of its beginning.
func TestCheckOfParts(t *testing.T) {
	text := strings.Repeat("lanes \x00\x80\xff\n", 50)
	whole, ok := impl.CheckOf(5, text)
	if !ok {
		t.Fatal("CheckOf fails")
	}
	for i := range text {
		first, _ := impl.CheckOf(5, text[:i])
		last, fine := impl.CheckOf(first, text[i:])
		if !fine || last != whole || first < 0 || first >= impl.CheckSize {
			t.Fatalf("parted at %d, the check number is %d, %v, want %d", i, last, fine, whole)
		}
	}
}

// TestWordsStayEqual is promise 1 for this chapter: the same arguments give the same results, and no argument or earlier result changes.
func TestWordsStayEqual(t *testing.T) {
	room := []int64{4, -5, 6, 77, 88}
	list := room[1:3]
	text, ok := impl.ListText(list)
	again, fine := impl.ListText(list)
	if !ok || !fine || text != "-5,6" || again != text {
		t.Errorf("ListText of the same list is %q and then %q", text, again)
	}
	if !slices.Equal(room, []int64{4, -5, 6, 77, 88}) {
		t.Errorf("ListText leaves %v", room)
	}
	first, _ := impl.ReadList("1,2,3")
	second, _ := impl.ReadList("1,2,3")
	if len(first) != 3 || len(second) != 3 {
		t.Fatalf("ReadList returns %v and %v", first, second)
	}
	first[0] = 9
	_ = append(first[:1], 9, 9)
	third, _ := impl.ReadList("1,2,3")
	if !slices.Equal(second, []int64{1, 2, 3}) || !slices.Equal(third, []int64{1, 2, 3}) {
		t.Errorf("lists that were read share memory: %v, %v", second, third)
	}
}

func TestWordConstants(t *testing.T) {
	got := []int64{impl.MaxValue, impl.MaxItems, impl.CheckSize,
		impl.OpAdd, impl.OpSub, impl.OpMul, impl.OpAnd, impl.OpOr, impl.OpXor, impl.OpMinU, impl.OpMaxU, impl.OpMinS, impl.OpMaxS,
		impl.OpAddSatU, impl.OpAddSatS, impl.OpSubSatU, impl.OpSubSatS, impl.OpAvg, impl.OpShl, impl.OpShrU, impl.OpShrS,
		impl.CmpEq, impl.CmpNe, impl.CmpLtU, impl.CmpLeU, impl.CmpLtS, impl.CmpLeS}
	want := []int64{1000000000, 70, 64007, 0, 1, 2, 3, 4, 5, 6, 7, 8, 9, 10, 11, 12, 13, 14, 15, 16, 17, 0, 1, 2, 3, 4, 5}
	if !slices.Equal(got, want) {
		t.Errorf("the constants are %v, want %v", got, want)
	}
}
