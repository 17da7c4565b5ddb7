package alu

import (
	"fmt"
	"math"
	"math/big"
	"slices"
	"strconv"
	"testing"

	"curtilage/api"
)

// The edges of words: all bits, which is -1 as a number, and what is the least and what the greatest as a number.
const (
	top    = math.MaxUint64
	lowest = 1 << 63
	high   = 1<<63 - 1
)

// operation is one that Do knows, with what the chapter says of it, by numbers without bounds and by digits.
type operation struct {
	op   int
	name string
	want func(b, c uint64) uint64
}

// operations are all that Do knows.
func operations() []operation {
	return []operation{
		{api.OpAdd, "add", func(b, c uint64) uint64 { return wrapped(new(big.Int).Add(of(b), of(c))) }},
		{api.OpSub, "sub", func(b, c uint64) uint64 { return wrapped(new(big.Int).Sub(of(b), of(c))) }},
		{api.OpMul, "mul", func(b, c uint64) uint64 { return wrapped(new(big.Int).Mul(of(b), of(c))) }},
		{api.OpDiv, "div", divided},
		{api.OpRem, "rem", left},
		{api.OpAnd, "and", func(b, c uint64) uint64 { return byBits(b, c, "0001") }},
		{api.OpOr, "or", func(b, c uint64) uint64 { return byBits(b, c, "0111") }},
		{api.OpXor, "xor", func(b, c uint64) uint64 { return byBits(b, c, "0110") }},
		{api.OpShl, "shl", func(b, c uint64) uint64 { return wrapped(new(big.Int).Mul(of(b), power(c))) }},
		{api.OpShr, "shr", func(b, c uint64) uint64 { return wrapped(new(big.Int).Quo(of(b), power(c))) }},
		{api.OpEq, "eq", func(b, c uint64) uint64 { return truth(of(b).Cmp(of(c)) == 0) }},
		{api.OpLtu, "ltu", func(b, c uint64) uint64 { return truth(of(b).Cmp(of(c)) < 0) }},
		{api.OpLts, "lts", func(b, c uint64) uint64 { return truth(number(b).Cmp(number(c)) < 0) }},
	}
}

// of is a word as a number without bounds, as it stands; number is the chapter's: less 2^64, if it is 2^63 at least.
func of(w uint64) *big.Int { return new(big.Int).SetUint64(w) }

func number(w uint64) *big.Int {
	n := of(w)
	if n.Cmp(of(lowest)) >= 0 {
		n.Sub(n, new(big.Int).Lsh(big.NewInt(1), 64))
	}
	return n
}

// wrapped is a number modulo 2^64.
func wrapped(n *big.Int) uint64 {
	return new(big.Int).Mod(n, new(big.Int).Lsh(big.NewInt(1), 64)).Uint64()
}

// power is 2 by what is left of a word by 64.
func power(c uint64) *big.Int {
	by := new(big.Int).Mod(of(c), big.NewInt(64))
	return new(big.Int).Exp(big.NewInt(2), by, nil)
}

func divided(b, c uint64) uint64 {
	if c == 0 {
		return top
	}
	return wrapped(new(big.Int).Quo(of(b), of(c)))
}

func left(b, c uint64) uint64 {
	if c == 0 {
		return b
	}
	return wrapped(new(big.Int).Rem(of(b), of(c)))
}

// byBits is made bit by bit by a row that says what becomes of 0 and 0, 0 and 1, 1 and 0, 1 and 1.
func byBits(b, c uint64, row string) uint64 {
	x, y := fmt.Sprintf("%064b", b), fmt.Sprintf("%064b", c)
	out := make([]byte, 64)
	for i := range out {
		out[i] = row[2*(x[i]-'0')+(y[i]-'0')]
	}
	w, err := strconv.ParseUint(string(out), 2, 64)
	if err != nil {
		panic(err)
	}
	return w
}

func truth(is bool) uint64 {
	if is {
		return 1
	}
	return 0
}

// words are the edges, each bit alone, all bits but one, and all bits up to one.
func words() []uint64 {
	out := []uint64{0, 1, 2, 3, 5, 7, 10, 62, 63, 64, 65, 66, 127, 128, 129, 1<<31 - 1, 1 << 31, 1<<31 + 1, 1<<32 - 1, 1 << 32, 1<<32 + 1, 1<<32 + 63, 1<<32 + 64, high - 1, high, lowest, lowest + 1, lowest + 65, top - 64, top - 63, top - 2, top - 1, top, 0x0123456789abcdef, 0xfedcba9876543210, 0x5555555555555555, 0xaaaaaaaaaaaaaaaa}
	for bit := range 64 {
		out = append(out, 1<<bit, top^1<<bit, 1<<bit-1)
	}
	slices.Sort(out)
	return slices.Compact(out)
}

// numbers are an instruction's numbers: their edges, and some between.
func numbers() []int32 {
	out := []int32{0, -1, 1, 2, -2, 7, -7, 1000, -1000, 0x12345678, -0x12345678, math.MaxInt32, math.MaxInt32 - 1, math.MinInt32, math.MinInt32 + 1}
	for bit := range 31 {
		out = append(out, 1<<bit, -1<<bit, 1<<bit-1, -1<<bit-1)
	}
	return out
}

// pairs hands two words of all sorts to a test: all of words by all, and stirred ones, as they are, small, and near each other.
func pairs(held func(b, c uint64)) {
	for _, b := range words() {
		for _, c := range words() {
			held(b, c)
		}
	}
	x := uint64(1)
	for range 1 << 14 {
		x = x*6364136223846793005 + 1442695040888963407
		y := x ^ x>>29
		x = x*6364136223846793005 + 1442695040888963407
		held(y, x)
		held(y, x>>(y%64))
		held(y>>(x%64), x)
		held(y, y+x%5-2)
	}
}

// done is what Do makes of two words by an operation that it knows.
func done(t *testing.T, op int, b, c uint64) uint64 {
	t.Helper()
	got, ok := Do(op, b, c)
	if !ok {
		t.Fatalf("Do(%d, %#x, %#x) is none", op, b, c)
	}
	return got
}

// P9.1: sums, differences and products, written out: those that pass 2^64 or fall below 0, and those that do not.
func TestSumRows(t *testing.T) {
	rows(t, []row{
		{api.OpAdd, 0, 0, 0},
		{api.OpAdd, 2, 3, 5},
		{api.OpAdd, top, 1, 0},
		{api.OpAdd, 1, top, 0},
		{api.OpAdd, top, top, top - 1},
		{api.OpAdd, lowest, lowest, 0},
		{api.OpAdd, high, 1, lowest},
		{api.OpAdd, 1<<32 - 1, 1, 1 << 32},
		{api.OpSub, 5, 3, 2},
		{api.OpSub, 3, 5, top - 1},
		{api.OpSub, 0, 0, 0},
		{api.OpSub, 7, 0, 7},
		{api.OpSub, 0, 1, top},
		{api.OpSub, 0, top, 1},
		{api.OpSub, 0, lowest, lowest},
		{api.OpSub, lowest, 1, high},
		{api.OpSub, top, top, 0},
		{api.OpSub, 1, top, 2},
		{api.OpMul, 6, 7, 42},
		{api.OpMul, 0, top, 0},
		{api.OpMul, 1, top, top},
		{api.OpMul, top, top, 1},
		{api.OpMul, 2, lowest, 0},
		{api.OpMul, 3, lowest, lowest},
		{api.OpMul, 1 << 32, 1 << 32, 0},
		{api.OpMul, 1<<32 - 1, 1<<32 + 1, top},
		{api.OpMul, 1<<32 + 1, 1<<32 + 1, 1<<33 + 1},
	})
}

// P9.1: quotients and what is left, written out: by 0, by 1, by the number itself, by all bits, as words and not as numbers.
func TestQuotientRows(t *testing.T) {
	rows(t, []row{
		{api.OpDiv, 7, 0, top},
		{api.OpDiv, 0, 0, top},
		{api.OpDiv, top, 0, top},
		{api.OpDiv, lowest, 0, top},
		{api.OpDiv, 7, 2, 3},
		{api.OpDiv, 2, 7, 0},
		{api.OpDiv, 0, 7, 0},
		{api.OpDiv, top, 1, top},
		{api.OpDiv, 7, 7, 1},
		{api.OpDiv, 6, 7, 0},
		{api.OpDiv, top, top, 1},
		{api.OpDiv, top - 1, top, 0},
		{api.OpDiv, lowest, top, 0},
		{api.OpDiv, top, 2, high},
		{api.OpDiv, top, lowest, 1},
		{api.OpDiv, top - 6, 2, high - 3},
		{api.OpRem, 7, 0, 7},
		{api.OpRem, 0, 0, 0},
		{api.OpRem, top, 0, top},
		{api.OpRem, lowest, 0, lowest},
		{api.OpRem, 7, 2, 1},
		{api.OpRem, 2, 7, 2},
		{api.OpRem, 0, 7, 0},
		{api.OpRem, top, 1, 0},
		{api.OpRem, 7, 7, 0},
		{api.OpRem, 6, 7, 6},
		{api.OpRem, top, top, 0},
		{api.OpRem, top - 1, top, top - 1},
		{api.OpRem, lowest, top, lowest},
		{api.OpRem, top, 10, 5},
		{api.OpRem, top, lowest, high},
	})
}

// P9.1: bits, written out, and shifts by 0, 63, 64, 65 and by words far above; only what is left of these by 64 counts, and 0 comes in.
func TestBitRows(t *testing.T) {
	rows(t, []row{
		{api.OpAnd, 0b1100, 0b1010, 0b1000},
		{api.OpOr, 0b1100, 0b1010, 0b1110},
		{api.OpXor, 0b1100, 0b1010, 0b0110},
		{api.OpAnd, top, lowest, lowest},
		{api.OpOr, 0, lowest, lowest},
		{api.OpXor, top, top, 0},
		{api.OpXor, top, 1, top - 1},
		{api.OpAnd, 0, top, 0},
		{api.OpOr, 0, 0, 0},
		{api.OpShl, top, 0, top},
		{api.OpShl, 1, 1, 2},
		{api.OpShl, 1, 63, lowest},
		{api.OpShl, 3, 63, lowest},
		{api.OpShl, 3, 64, 3},
		{api.OpShl, 3, 65, 6},
		{api.OpShl, top, 32, 0xffffffff00000000},
		{api.OpShl, lowest, 1, 0},
		{api.OpShl, 1, top, lowest},
		{api.OpShl, 3, lowest, 3},
		{api.OpShl, 3, 1 << 32, 3},
		{api.OpShl, 3, 1<<32 + 1, 6},
		{api.OpShr, top, 0, top},
		{api.OpShr, 2, 1, 1},
		{api.OpShr, top, 63, 1},
		{api.OpShr, lowest, 63, 1},
		{api.OpShr, high, 63, 0},
		{api.OpShr, lowest, 64, lowest},
		{api.OpShr, lowest, 65, 1 << 62},
		{api.OpShr, top, 32, 0xffffffff},
		{api.OpShr, top, top, 1},
		{api.OpShr, top, lowest, top},
		{api.OpShr, 6, 1 << 32, 6},
		{api.OpShr, 6, 1<<32 + 1, 3},
	})
}

// P9.1: equal, and less as words and as numbers, of 0, 1, 2^63-1, 2^63 and all bits, all by all, written out as rows of the first, columns of the second.
func TestLessRows(t *testing.T) {
	edges := []uint64{0, 1, high, lowest, top}
	for _, r := range []struct {
		op   int
		want []string
	}{
		{api.OpEq, []string{"10000", "01000", "00100", "00010", "00001"}},
		{api.OpLtu, []string{"01111", "00111", "00011", "00001", "00000"}},
		{api.OpLts, []string{"01100", "00100", "00000", "11101", "11100"}},
	} {
		for i, b := range edges {
			for j, c := range edges {
				if got := done(t, r.op, b, c); got != uint64(r.want[i][j]-'0') {
					t.Errorf("Do(%d, %#x, %#x) is %d", r.op, b, c, got)
				}
			}
		}
	}
	rows(t, []row{
		{api.OpEq, 1<<32 + 5, 5, 0},
		{api.OpEq, 1<<32 + 5, 1<<32 + 5, 1},
		{api.OpLtu, 1 << 32, 5, 0},
		{api.OpLtu, 5, 1 << 32, 1},
		{api.OpLts, 5, 1 << 32, 1},
		{api.OpLts, 1 << 32, 5, 0},
		{api.OpLts, top - 1, top, 1},
		{api.OpLts, top, top - 1, 0},
		{api.OpLts, lowest, lowest + 1, 1},
	})
}

// row is what Do has to make of two words.
type row struct {
	op         int
	b, c, want uint64
}

func rows(t *testing.T, all []row) {
	t.Helper()
	for _, r := range all {
		if got, ok := Do(r.op, r.b, r.c); got != r.want || !ok {
			t.Errorf("Do(%d, %#x, %#x) is %#x, %v, not %#x", r.op, r.b, r.c, got, ok, r.want)
		}
	}
}

// P9.1: every operation that Do knows, of words of all sorts; the first that is wrong ends the operation's test, for there would be very many.
func TestDoByWords(t *testing.T) {
	for _, o := range operations() {
		t.Run(o.name, func(t *testing.T) {
			pairs(func(b, c uint64) {
				if got, want := done(t, o.op, b, c), o.want(b, c); got != want {
					t.Fatalf("Do(%d, %#x, %#x) is %#x, not %#x", o.op, b, c, got, want)
				}
			})
		})
	}
}

// P9.1: of any other op nothing comes, whatever the words: those of the machine that are none of two words, those below 0, 26 and above, and those that have a known one's lowest bits.
func TestOtherOps(t *testing.T) {
	known := map[int]bool{}
	for _, o := range operations() {
		known[o.op] = true
	}
	if len(known) != 13 {
		t.Errorf("Do knows %d operations", len(known))
	}
	others := []int{api.OpHalt, api.OpMovi, api.OpMovh, api.OpMov, api.OpAddi, api.OpJmp, api.OpJz, api.OpJnz, api.OpCall, api.OpJr, api.OpLoad, api.OpStore, api.OpTrap, api.NumOps, -1, math.MinInt, math.MinInt + 1, math.MaxInt, math.MaxInt - 1}
	for _, o := range operations() {
		others = append(others, -o.op, o.op-1<<8, o.op+1<<8, o.op+1<<32, o.op-1<<32, o.op+math.MinInt)
	}
	for op := range 1 << 12 {
		if !known[op] {
			others = append(others, op)
		}
		others = append(others, -1-op)
	}
	for _, op := range others {
		for _, b := range []uint64{0, 1, 7, high, lowest, top} {
			for _, c := range []uint64{0, 1, 7, high, lowest, top} {
				if got, ok := Do(op, b, c); got != 0 || ok {
					t.Errorf("Do(%d, %#x, %#x) is %#x, %v", op, b, c, got, ok)
				}
			}
		}
	}
}

// P9.2: Movh, written out: of 0, -1, the least and the greatest number; the word's own upper half is gone.
func TestMovhRows(t *testing.T) {
	for _, r := range []struct {
		a    uint64
		imm  int32
		want uint64
	}{
		{0, 0, 0},
		{top, 0, 0xffffffff},
		{0, -1, 0xffffffff00000000},
		{top, -1, top},
		{0, math.MinInt32, lowest},
		{top, math.MinInt32, 0x80000000ffffffff},
		{0, math.MaxInt32, 0x7fffffff00000000},
		{top, math.MaxInt32, high},
		{0x0123456789abcdef, 0x12345678, 0x1234567889abcdef},
		{0x0123456789abcdef, 1, 0x0000000189abcdef},
		{0x0123456789abcdef, -2, 0xfffffffe89abcdef},
		{1 << 32, 0, 0},
		{1 << 31, 0, 1 << 31},
		{lowest, 1, 1 << 32},
		{5, 7, 0x700000005},
	} {
		if got := Movh(r.a, r.imm); got != r.want {
			t.Errorf("Movh(%#x, %d) is %#x, not %#x", r.a, r.imm, got, r.want)
		}
	}
}

// P9.2: Extend, written out: of 0, -1, the least and the greatest number.
func TestExtendRows(t *testing.T) {
	for _, r := range []struct {
		imm  int32
		want uint64
	}{
		{0, 0},
		{1, 1},
		{-1, top},
		{-2, top - 1},
		{7, 7},
		{math.MaxInt32, 0x7fffffff},
		{math.MinInt32, 0xffffffff80000000},
		{math.MinInt32 + 1, 0xffffffff80000001},
		{0x12345678, 0x12345678},
		{-0x12345678, 0xffffffffedcba988},
	} {
		if got := Extend(r.imm); got != r.want {
			t.Errorf("Extend(%d) is %#x, not %#x", r.imm, got, r.want)
		}
	}
}

// P9.2: Movh by the words' digits, and Extend modulo 2^64, of numbers and words of all sorts.
func TestHalvesByWords(t *testing.T) {
	for _, n := range numbers() {
		if got, want := Extend(n), wrapped(big.NewInt(int64(n))); got != want {
			t.Errorf("Extend(%d) is %#x, not %#x", n, got, want)
		}
		upper := new(big.Int).Mod(big.NewInt(int64(n)), big.NewInt(1<<32))
		for _, a := range words() {
			digits := fmt.Sprintf("%08x%s", upper, fmt.Sprintf("%016x", a)[8:])
			if got := fmt.Sprintf("%016x", Movh(a, n)); got != digits {
				t.Errorf("Movh(%#x, %d) is %s, not %s", a, n, got, digits)
			}
		}
	}
}

// P9.3: Sub undoes Add, from either side, and Add undoes Sub.
func TestSubUndoesAdd(t *testing.T) {
	pairs(func(b, c uint64) {
		sum := done(t, api.OpAdd, b, c)
		if done(t, api.OpSub, sum, c) != b || done(t, api.OpSub, sum, b) != c {
			t.Fatalf("Sub does not undo Add of %#x and %#x", b, c)
		}
		if done(t, api.OpAdd, done(t, api.OpSub, b, c), c) != b {
			t.Fatalf("Add does not undo Sub of %#x and %#x", b, c)
		}
	})
}

// P9.3: the quotient times the divisor and what is left are the number, by 0 too; and what is left is less than the divisor, so that nothing else would do.
func TestPutTogether(t *testing.T) {
	pairs(func(b, c uint64) {
		rest := done(t, api.OpRem, b, c)
		taken := done(t, api.OpMul, done(t, api.OpDiv, b, c), c)
		if done(t, api.OpAdd, taken, rest) != b {
			t.Fatalf("%#x by %#x takes %#x and leaves %#x", b, c, taken, rest)
		}
		if c != 0 && (done(t, api.OpLtu, rest, c) != 1 || done(t, api.OpLtu, b, taken) != 0) {
			t.Fatalf("%#x by %#x leaves %#x", b, c, rest)
		}
	})
}

// P9.4: of two words just one is less, or they are equal, as words and as numbers.
func TestJustOne(t *testing.T) {
	pairs(func(b, c uint64) {
		for _, op := range []int{api.OpLtu, api.OpLts} {
			one, other, equal := done(t, op, b, c), done(t, op, c, b), done(t, api.OpEq, b, c)
			if one > 1 || other > 1 || equal > 1 || one+other+equal != 1 {
				t.Fatalf("of %#x and %#x by %d: %d, %d, equal %d", b, c, op, one, other, equal)
			}
			if equal != done(t, api.OpEq, c, b) {
				t.Fatalf("%#x and %#x are equal one way alone", b, c)
			}
		}
	})
}

// P9.4: less as numbers is the other one of less as words just where one of the two is 2^63 at least, the other not.
func TestWhereTheyDiffer(t *testing.T) {
	pairs(func(b, c uint64) {
		differ := done(t, api.OpLtu, b, c) != done(t, api.OpLts, b, c)
		if differ != ((b >= lowest) != (c >= lowest)) {
			t.Fatalf("of %#x and %#x less as words and as numbers differ: %v", b, c, differ)
		}
	})
}

// P9.4: a word is Movh of Extend of its lower half and its upper half.
func TestOutOfHalves(t *testing.T) {
	pairs(func(b, c uint64) {
		for _, w := range []uint64{b, c, b ^ c} {
			if got := Movh(Extend(int32(uint32(w))), int32(uint32(w>>32))); got != w {
				t.Fatalf("%#x out of its halves is %#x", w, got)
			}
		}
	})
}

// either has two kinds: the same bits are less or not by which of them they are.
func TestLess(t *testing.T) {
	if less[uint64](top, 0) != 0 || less[int64](-1, 0) != 1 || less[uint64](0, top) != 1 || less[int64](0, -1) != 0 {
		t.Error("less does not hang on the kind")
	}
}
