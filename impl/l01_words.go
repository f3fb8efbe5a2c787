package impl

import (
	"errors"
	"slices"
	"strconv"
	"strings"
)

// Limits of chapter 1.
const (
	MaxValue  = 1000000000
	MaxItems  = 70
	CheckSize = 64007
)

// Operations.
const (
	OpAdd     = 0
	OpSub     = 1
	OpMul     = 2
	OpAnd     = 3
	OpOr      = 4
	OpXor     = 5
	OpMinU    = 6
	OpMaxU    = 7
	OpMinS    = 8
	OpMaxS    = 9
	OpAddSatU = 10
	OpAddSatS = 11
	OpSubSatU = 12
	OpSubSatS = 13
	OpAvg     = 14
	OpShl     = 15
	OpShrU    = 16
	OpShrS    = 17
)

// Comparisons.
const (
	CmpEq  = 0
	CmpNe  = 1
	CmpLtU = 2
	CmpLeU = 3
	CmpLtS = 4
	CmpLeS = 5
)

// opTexts has the texts of the operations, in their order.
var opTexts = [...]string{
	"add", "sub", "mul", "and", "or", "xor", "minu", "maxu", "mins", "maxs",
	"addu", "adds", "subu", "subs", "avg", "shl", "shru", "shrs",
}

// emptyText stands for the empty list, which would otherwise have the text of nothing at all.
const emptyText = "none"

// lane is a Go type that holds a word: uint8 those of 4 and 8 bits, uint16 those of 16.
type lane interface{ uint8 | uint16 }

// wordSize is the number of bits of the words that W holds: W alone does not tell it, as uint8 holds two sizes.
type wordSize[W lane] struct{ bits int64 }

// rangeError tells that a number is outside a range, and which number of the range is nearest to it.
type rangeError struct{ nearest int64 }

func (e *rangeError) Error() string {
	return "outside the range, whose nearest number is " + Decimal(e.nearest)
}

// IsName reports whether s is a name.
func IsName(s string) bool {
	if len(s) < 1 || len(s) > 8 {
		return false
	}
	for _, letter := range s {
		if letter < 'a' || letter > 'z' {
			return false
		}
	}
	return true
}

// Decimal returns n in decimal.
func Decimal(n int64) string { return strconv.FormatInt(n, 10) }

// ReadDecimal returns the number with the given decimal text.
func ReadDecimal(s string) (int64, bool) {
	n, err := strconv.ParseInt(s, 10, 64)
	// strconv also reads numbers with a plus sign or with leading zeros, which Decimal never writes.
	if err != nil || !isValue(n) || Decimal(n) != s {
		return 0, false
	}
	return n, true
}

// IsWord reports whether x is a word of some bits.
func IsWord(bits, x int64) bool { return isBits(bits) && within(x, 0, greatestWord(bits)) == nil }

// SignedOf returns the signed value of a word.
func SignedOf(bits, x int64) (int64, bool) {
	if !IsWord(bits, x) {
		return 0, false
	}
	return signed(bits, x), true
}

// WordOf returns the word to which a number wraps.
func WordOf(bits, n int64) (int64, bool) {
	if !isBits(bits) || !isValue(n) {
		return 0, false
	}
	return wrap(bits, n), true
}

// DoOp returns the result of an operation.
func DoOp(op, bits, a, b int64) (int64, bool) {
	if !isOp(op) || !IsWord(bits, a) || !IsWord(bits, b) {
		return 0, false
	}
	if bits == 16 {
		return int64(operate(op, wordSize[uint16]{bits}, uint16(a), uint16(b))), true
	}
	return int64(operate(op, wordSize[uint8]{bits}, uint8(a), uint8(b))), true
}

// TestCmp returns the result of a comparison.
func TestCmp(cmp, bits, a, b int64) (bool, bool) {
	if !IsWord(bits, a) || !IsWord(bits, b) {
		return false, false
	}
	switch cmp {
	case CmpEq:
		return a == b, true
	case CmpNe:
		return a != b, true
	case CmpLtU:
		return a < b, true
	case CmpLeU:
		return a <= b, true
	case CmpLtS:
		return signed(bits, a) < signed(bits, b), true
	case CmpLeS:
		return signed(bits, a) <= signed(bits, b), true
	}
	return false, false
}

// OpText returns the text of an operation.
func OpText(op int64) (string, bool) {
	if !isOp(op) {
		return "", false
	}
	return opTexts[op], true
}

// ReadOp returns the operation with the given text.
func ReadOp(s string) (int64, bool) {
	for op, text := range opTexts {
		if text == s {
			return int64(op), true
		}
	}
	return 0, false
}

// IsCommutative reports whether the order of words does not matter.
func IsCommutative(op int64) bool {
	switch op {
	case OpSub, OpSubSatU, OpSubSatS, OpShl, OpShrU, OpShrS:
		return false
	}
	return isOp(op)
}

// IsAssociative reports whether brackets do not matter.
func IsAssociative(op int64) bool {
	switch op {
	case OpAddSatS, OpAvg:
		// A signed sum that has met one end can come back from it, and a mean weighs its last word most.
		return false
	}
	return IsCommutative(op)
}

// ListText returns the text of a list.
func ListText(list []int64) (string, bool) {
	if len(list) > MaxItems {
		return "", false
	}
	if len(list) == 0 {
		return emptyText, true
	}
	texts := make([]string, len(list))
	for i, n := range list {
		if !isValue(n) {
			return "", false
		}
		texts[i] = Decimal(n)
	}
	return strings.Join(texts, ","), true
}

// ReadList returns the list with the given text.
func ReadList(s string) ([]int64, bool) {
	if s == emptyText {
		return []int64{}, true
	}
	return readParts(s, ",", MaxItems, ReadDecimal)
}

// CheckOf returns the check number of a text.
func CheckOf(start int64, s string) (int64, bool) {
	if within(start, 0, CheckSize-1) != nil {
		return 0, false
	}
	check := start
	for i := range len(s) {
		check = (173*check + int64(s[i]) + 3) % CheckSize
	}
	return check, true
}

// readParts returns what read returns for each of at most limit parts of a text, which have a mark between them; it fails if read does.
func readParts[T any](s, mark string, limit int, read func(text string) (T, bool)) ([]T, bool) {
	// One part more than there may be suffices to refuse a text, however long it is.
	texts := strings.SplitN(s, mark, limit+1)
	if len(texts) > limit {
		return nil, false
	}
	parts := make([]T, len(texts))
	for i, text := range texts {
		part, ok := read(text)
		if !ok {
			return nil, false
		}
		parts[i] = part
	}
	return parts, true
}

func isBits(bits int64) bool { return bits == 4 || bits == 8 || bits == 16 }

// areWords reports whether all numbers of a list are words.
func areWords(bits int64, list []int64) bool {
	return !slices.ContainsFunc(list, func(x int64) bool { return !IsWord(bits, x) })
}

func isOp(op int64) bool { return within(op, OpAdd, OpShrS) == nil }

func isValue(n int64) bool { return within(n, -MaxValue, MaxValue) == nil }

// within returns no error if n is one of low to high, and otherwise a rangeError.
func within(n, low, high int64) error {
	if n < low {
		return &rangeError{low}
	}
	if n > high {
		return &rangeError{high}
	}
	return nil
}

// saturate returns the number from low to high that is nearest to n.
func saturate(n, low, high int64) int64 {
	var outside *rangeError
	if errors.As(within(n, low, high), &outside) {
		return outside.nearest
	}
	return n
}

func greatestWord(bits int64) int64 { return 1<<bits - 1 }

// half is both the number of words that are not negative and the first word that is.
func half(bits int64) int64 { return 1 << (bits - 1) }

// wrap relies on two's complement: the low bits of a negative number are those of its word too.
func wrap(bits, n int64) int64 { return n & greatestWord(bits) }

func signed(bits, x int64) int64 {
	if x < half(bits) {
		return x
	}
	return x - 1<<bits
}

// cut returns the word in the low bits of x, as the sum of two words of 4 bits can fill more of a uint8.
func (s wordSize[W]) cut(x W) W { return x & W(greatestWord(s.bits)) }

// flip changes the highest bit: flipped words are in the order of the signed values, and flipping leads back.
func (s wordSize[W]) flip(x W) W { return x ^ W(half(s.bits)) }

func (s wordSize[W]) signed(x W) int64 { return signed(s.bits, int64(x)) }

func (s wordSize[W]) shift(x W) int64 { return int64(x) % s.bits }

func (s wordSize[W]) saturateU(n int64) W { return W(saturate(n, 0, greatestWord(s.bits))) }

func (s wordSize[W]) saturateS(n int64) W {
	return s.cut(W(saturate(n, -half(s.bits), half(s.bits)-1)))
}

// operate returns the result of an operation that exists, by a table of all of them.
func operate[W lane](op int64, s wordSize[W], a, b W) W {
	table := [...]func(a, b W) W{
		OpAdd:     func(a, b W) W { return s.cut(a + b) },
		OpSub:     func(a, b W) W { return s.cut(a - b) },
		OpMul:     func(a, b W) W { return s.cut(a * b) },
		OpAnd:     func(a, b W) W { return a & b },
		OpOr:      func(a, b W) W { return a | b },
		OpXor:     func(a, b W) W { return a ^ b },
		OpMinU:    func(a, b W) W { return min(a, b) },
		OpMaxU:    func(a, b W) W { return max(a, b) },
		OpMinS:    func(a, b W) W { return s.flip(min(s.flip(a), s.flip(b))) },
		OpMaxS:    func(a, b W) W { return s.flip(max(s.flip(a), s.flip(b))) },
		OpAddSatU: func(a, b W) W { return s.saturateU(int64(a) + int64(b)) },
		OpAddSatS: func(a, b W) W { return s.saturateS(s.signed(a) + s.signed(b)) },
		OpSubSatU: func(a, b W) W { return s.saturateU(int64(a) - int64(b)) },
		OpSubSatS: func(a, b W) W { return s.saturateS(s.signed(a) - s.signed(b)) },
		// The sum has one bit more than W holds, so the mean is taken without it.
		OpAvg:  func(a, b W) W { return (a | b) - (a^b)>>1 },
		OpShl:  func(a, b W) W { return s.cut(a << s.shift(b)) },
		OpShrU: func(a, b W) W { return a >> s.shift(b) },
		OpShrS: func(a, b W) W { return s.cut(W(s.signed(a) >> s.shift(b))) },
	}
	return table[op](a, b)
}
