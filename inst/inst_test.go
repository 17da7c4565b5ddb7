package inst

import (
	"fmt"
	"math"
	"strconv"
	"strings"
	"testing"

	"curtilage/api"
)

// kind is an Op as the chapter writes it out.
type kind struct {
	op          int
	name, shape string
}

// kinds are all Ops, by their names in api, with the chapter's names and shapes.
func kinds() []kind {
	return []kind{
		{api.OpHalt, "halt", ""},
		{api.OpMovi, "movi", "ai"},
		{api.OpMovh, "movh", "ai"},
		{api.OpMov, "mov", "ab"},
		{api.OpAdd, "add", "abc"},
		{api.OpSub, "sub", "abc"},
		{api.OpMul, "mul", "abc"},
		{api.OpDiv, "div", "abc"},
		{api.OpRem, "rem", "abc"},
		{api.OpAnd, "and", "abc"},
		{api.OpOr, "or", "abc"},
		{api.OpXor, "xor", "abc"},
		{api.OpShl, "shl", "abc"},
		{api.OpShr, "shr", "abc"},
		{api.OpAddi, "addi", "abi"},
		{api.OpEq, "eq", "abc"},
		{api.OpLtu, "ltu", "abc"},
		{api.OpLts, "lts", "abc"},
		{api.OpJmp, "jmp", "i"},
		{api.OpJz, "jz", "ai"},
		{api.OpJnz, "jnz", "ai"},
		{api.OpCall, "call", "ai"},
		{api.OpJr, "jr", "a"},
		{api.OpLoad, "load", "abi"},
		{api.OpStore, "store", "abi"},
		{api.OpTrap, "trap", "i"},
	}
}

// noOps are numbers that are no Op; some have an Op's lowest bits.
func noOps() []int {
	return []int{-1, -2, -25, -26, -255, -256, 26, 27, 31, 32, 255, 256, 257, 256 + 25, 1 << 16, 1<<31 + 1, 1<<32 + 1, 1<<32 + 25, math.MinInt, math.MinInt + 1, math.MaxInt, math.MaxInt - 1}
}

// noRegisters are numbers that are no register; some have a register's lowest bits.
func noRegisters() []int {
	return []int{-1, -2, -15, -16, 16, 17, 31, 32, 256, 1<<32 + 1, 1 << 56, math.MinInt, math.MinInt + 1, math.MaxInt}
}

// numbers are the edges of numbers, and some between.
func numbers() []int32 {
	return []int32{0, -1, 1, 7, -16, 16, 255, 256, 1 << 16, -1 << 16, 1<<31 - 2, -1<<31 + 1, math.MaxInt32, math.MinInt32}
}

// fits are fit instructions: of each Op with registers and numbers that are told, where it uses them.
func fits(registers []int, numbers []int32) []api.Inst {
	var out []api.Inst
	for _, k := range kinds() {
		row := []api.Inst{{Op: k.op}}
		for _, letter := range k.shape {
			var more []api.Inst
			for _, i := range row {
				for _, r := range registers {
					switch letter {
					case 'a':
						i.A = r
					case 'b':
						i.B = r
					case 'c':
						i.C = r
					}
					if letter != 'i' {
						more = append(more, i)
					}
				}
				for _, n := range numbers {
					if i.Imm = n; letter == 'i' {
						more = append(more, i)
					}
				}
			}
			row = more
		}
		out = append(out, row...)
	}
	return out
}

// upTo are the numbers below n.
func upTo(n int) []int {
	var out []int
	for i := range n {
		out = append(out, i)
	}
	return out
}

// used is how often a shape has a letter, as a factor: 0 or 1.
func used(shape, letter string) int { return strings.Count(shape, letter) }

// isFit tells whether an instruction is fit, by the chapter's words.
func isFit(i api.Inst) bool {
	if i.Op < 0 || i.Op > 25 || min(i.A, i.B, i.C) < 0 || max(i.A, i.B, i.C) > 15 {
		return false
	}
	shape := kinds()[i.Op].shape
	return i.A*used(shape, "a") == i.A && i.B*used(shape, "b") == i.B && i.C*used(shape, "c") == i.C && int(i.Imm)*used(shape, "i") == int(i.Imm)
}

// wordOf is a fit instruction's word, put together out of its digits.
func wordOf(i api.Inst) uint64 {
	w, err := strconv.ParseUint(fmt.Sprintf("%08x000%x%x%x%02x", uint32(i.Imm), i.C, i.B, i.A, i.Op), 16, 64)
	if err != nil {
		panic(err)
	}
	return w
}

// textOf is a fit instruction's text, by its shape.
func textOf(i api.Inst) string {
	k := kinds()[i.Op]
	switch k.shape {
	case "a":
		return fmt.Sprintf("%s r%d", k.name, i.A)
	case "i":
		return fmt.Sprintf("%s %d", k.name, i.Imm)
	case "ai":
		return fmt.Sprintf("%s r%d %d", k.name, i.A, i.Imm)
	case "ab":
		return fmt.Sprintf("%s r%d r%d", k.name, i.A, i.B)
	case "abc":
		return fmt.Sprintf("%s r%d r%d r%d", k.name, i.A, i.B, i.C)
	case "abi":
		return fmt.Sprintf("%s r%d r%d %d", k.name, i.A, i.B, i.Imm)
	}
	return k.name
}

// of is the instruction of a word, by the word's digits; false: it is none.
func of(w uint64) (api.Inst, bool) {
	digits := fmt.Sprintf("%016x", w)
	part := func(from, to int) int {
		n, _ := strconv.ParseUint(digits[from:to], 16, 32)
		return int(n)
	}
	n := part(0, 8)
	if n > math.MaxInt32 {
		n -= 1 << 32
	}
	i := api.Inst{Op: part(14, 16), A: part(13, 14), B: part(12, 13), C: part(11, 12), Imm: int32(n)}
	if digits[8:11] != "000" || !isFit(i) {
		return api.Inst{}, false
	}
	return i, true
}

// held holds Fit, Encode and Text of an instruction against the chapter's words; the first that is wrong ends the test, for there would be very many.
func held(t *testing.T, i api.Inst) {
	t.Helper()
	fit, word, text := isFit(i), uint64(0), ""
	if fit {
		word, text = wordOf(i), textOf(i)
	}
	if got := Fit(i); got != fit {
		t.Fatalf("Fit(%+v) is %v", i, got)
	}
	if got := Encode(i); got != word {
		t.Fatalf("Encode(%+v) is %#x, not %#x", i, got, word)
	}
	if got := Text(i); got != text {
		t.Fatalf("Text(%+v) is %q, not %q", i, got, text)
	}
}

// P8.1: the Ops are those from 0 to 25, in the chapter's order.
func TestOps(t *testing.T) {
	if len(kinds()) != 26 || api.NumOps != 26 || api.NumRegs != 16 {
		t.Errorf("there are %d Ops, NumOps is %d, NumRegs %d", len(kinds()), api.NumOps, api.NumRegs)
	}
	for at, k := range kinds() {
		if k.op != at {
			t.Errorf("%s is %d, not %d", k.name, k.op, at)
		}
	}
}

// P8.1: the shape of each Op, and of what is none.
func TestShape(t *testing.T) {
	for _, k := range kinds() {
		if got := Shape(k.op); got != k.shape {
			t.Errorf("Shape of %s is %q, not %q", k.name, got, k.shape)
		}
	}
	for _, op := range noOps() {
		if got := Shape(op); got != "" {
			t.Errorf("Shape(%d) is %q", op, got)
		}
	}
	for op := 26; op < 1<<16; op++ {
		if Shape(op) != "" || Shape(-op) != "" {
			t.Errorf("Shape of %d or of it below 0 is something", op)
		}
	}
}

// P8.1: Fit that is written out: what is used at its edges, and what is not used.
func TestFitRows(t *testing.T) {
	rows := []struct {
		i    api.Inst
		want bool
	}{
		{api.Inst{}, true},
		{api.Inst{Op: -1}, false},
		{api.Inst{Op: 26}, false},
		{api.Inst{Op: 25}, true},
		{api.Inst{Op: 256}, false},
		{api.Inst{A: 1}, false},
		{api.Inst{B: 1}, false},
		{api.Inst{C: 1}, false},
		{api.Inst{Imm: 1}, false},
		{api.Inst{Imm: -1}, false},
		{api.Inst{Op: api.OpMovi, A: 15, Imm: math.MinInt32}, true},
		{api.Inst{Op: api.OpMovi, A: 0, Imm: math.MaxInt32}, true},
		{api.Inst{Op: api.OpMovi, A: 16}, false},
		{api.Inst{Op: api.OpMovi, A: -1}, false},
		{api.Inst{Op: api.OpMovi, B: 1}, false},
		{api.Inst{Op: api.OpMov, A: 15, B: 15}, true},
		{api.Inst{Op: api.OpMov, A: 15, B: 16}, false},
		{api.Inst{Op: api.OpMov, A: 15, B: 15, C: 1}, false},
		{api.Inst{Op: api.OpMov, A: 15, B: 15, Imm: 1}, false},
		{api.Inst{Op: api.OpAdd, A: 15, B: 15, C: 15}, true},
		{api.Inst{Op: api.OpAdd, A: 15, B: 15, C: 16}, false},
		{api.Inst{Op: api.OpAdd, A: 15, B: 15, C: -1}, false},
		{api.Inst{Op: api.OpAdd, Imm: 1}, false},
		{api.Inst{Op: api.OpAddi, A: 15, B: 15, Imm: -1}, true},
		{api.Inst{Op: api.OpAddi, C: 1}, false},
		{api.Inst{Op: api.OpJmp, Imm: -1}, true},
		{api.Inst{Op: api.OpJmp, A: 1}, false},
		{api.Inst{Op: api.OpJr, A: 15}, true},
		{api.Inst{Op: api.OpJr, A: 15, Imm: 1}, false},
		{api.Inst{Op: api.OpTrap, Imm: math.MinInt32}, true},
		{api.Inst{Op: api.OpTrap, B: 15}, false},
	}
	for _, r := range rows {
		if got := Fit(r.i); got != r.want {
			t.Errorf("Fit(%+v) is %v", r.i, got)
		}
	}
}

// P8.1, P8.3: Fit, Encode and Text of each Op, and of what is none, with each register's part and the number at and beyond their edges, used and unused, all by all.
func TestByWords(t *testing.T) {
	ops := append(upTo(26), noOps()...)
	registers := append([]int{0, 1, 14, 15}, noRegisters()...)
	for _, op := range ops {
		for _, a := range registers {
			for _, b := range registers {
				for _, c := range registers {
					for _, n := range []int32{0, -1, 1, math.MinInt32, math.MaxInt32} {
						held(t, api.Inst{Op: op, A: a, B: b, C: c, Imm: n})
					}
				}
			}
		}
	}
}

// P8.1, P8.3: Fit, Encode and Text of each fit instruction, with all registers and with numbers at their edges.
func TestFitsByWords(t *testing.T) {
	for _, i := range fits(upTo(16), numbers()) {
		if !isFit(i) {
			t.Errorf("%+v is not fit", i)
		}
		held(t, i)
	}
}

// P8.1: words that are written out: one of each Op, parts at their edges, and of what is not fit.
func TestEncodeRows(t *testing.T) {
	rows := []struct {
		i    api.Inst
		want uint64
	}{
		{api.Inst{}, 0},
		{api.Inst{Op: api.OpMovi, A: 1, Imm: 7}, 0x700000101},
		{api.Inst{Op: api.OpMovi, A: 15, Imm: -1}, 0xffffffff00000f01},
		{api.Inst{Op: api.OpMovi, A: 15, Imm: math.MinInt32}, 0x8000000000000f01},
		{api.Inst{Op: api.OpMovi, A: 15, Imm: math.MaxInt32}, 0x7fffffff00000f01},
		{api.Inst{Op: api.OpMovh, A: 2, Imm: 0x1234}, 0x0000123400000202},
		{api.Inst{Op: api.OpMov, A: 3, B: 4}, 0x4303},
		{api.Inst{Op: api.OpAdd, A: 1, B: 2, C: 3}, 0x32104},
		{api.Inst{Op: api.OpSub, A: 15, B: 15, C: 15}, 0xfff05},
		{api.Inst{Op: api.OpMul, C: 15}, 0xf0006},
		{api.Inst{Op: api.OpDiv, B: 15}, 0xf007},
		{api.Inst{Op: api.OpRem, A: 15}, 0xf08},
		{api.Inst{Op: api.OpAnd, A: 8, B: 9, C: 10}, 0xa9809},
		{api.Inst{Op: api.OpOr}, 0xa},
		{api.Inst{Op: api.OpXor, A: 1}, 0x10b},
		{api.Inst{Op: api.OpShl, B: 1}, 0x100c},
		{api.Inst{Op: api.OpShr, C: 1}, 0x1000d},
		{api.Inst{Op: api.OpAddi, A: 14, B: 13, Imm: -2}, 0xfffffffe0000de0e},
		{api.Inst{Op: api.OpEq, A: 5, B: 6, C: 7}, 0x7650f},
		{api.Inst{Op: api.OpLtu, A: 5, B: 6, C: 7}, 0x76510},
		{api.Inst{Op: api.OpLts, A: 5, B: 6, C: 7}, 0x76511},
		{api.Inst{Op: api.OpJmp, Imm: -1}, 0xffffffff00000012},
		{api.Inst{Op: api.OpJz, A: 9, Imm: 3}, 0x300000913},
		{api.Inst{Op: api.OpJnz, A: 9, Imm: -3}, 0xfffffffd00000914},
		{api.Inst{Op: api.OpCall, A: 13, Imm: 100}, 0x6400000d15},
		{api.Inst{Op: api.OpJr, A: 13}, 0xd16},
		{api.Inst{Op: api.OpLoad, A: 2, B: 3, Imm: -1}, 0xffffffff00003217},
		{api.Inst{Op: api.OpStore, A: 2, B: 3, Imm: 1}, 0x100003218},
		{api.Inst{Op: api.OpTrap, Imm: 31}, 0x1f00000019},
		{api.Inst{Op: 26}, 0},
		{api.Inst{Op: 26, A: 1, B: 2, C: 3, Imm: 4}, 0},
		{api.Inst{Op: -1}, 0},
		{api.Inst{Op: api.OpMovi, A: 16, Imm: 7}, 0},
		{api.Inst{Op: api.OpMovi, A: -1, Imm: 7}, 0},
		{api.Inst{Op: api.OpMovi, A: 1, B: 1, Imm: 7}, 0},
		{api.Inst{Op: api.OpHalt, Imm: 7}, 0},
	}
	for _, r := range rows {
		if got := Encode(r.i); got != r.want {
			t.Errorf("Encode(%+v) is %#x, not %#x", r.i, got, r.want)
		}
	}
}

// P8.3: texts that are written out: one of each Op, parts at their edges, and of what is not fit.
func TestTextRows(t *testing.T) {
	rows := []struct {
		i    api.Inst
		want string
	}{
		{api.Inst{}, "halt"},
		{api.Inst{Op: api.OpMovi, A: 1, Imm: 7}, "movi r1 7"},
		{api.Inst{Op: api.OpMovi, A: 15, Imm: math.MinInt32}, "movi r15 -2147483648"},
		{api.Inst{Op: api.OpMovh, A: 0, Imm: math.MaxInt32}, "movh r0 2147483647"},
		{api.Inst{Op: api.OpMov, A: 10, B: 9}, "mov r10 r9"},
		{api.Inst{Op: api.OpAdd, A: 1, B: 2, C: 3}, "add r1 r2 r3"},
		{api.Inst{Op: api.OpSub, A: 15, B: 15, C: 15}, "sub r15 r15 r15"},
		{api.Inst{Op: api.OpMul}, "mul r0 r0 r0"},
		{api.Inst{Op: api.OpDiv, A: 3, B: 2, C: 1}, "div r3 r2 r1"},
		{api.Inst{Op: api.OpRem, C: 12}, "rem r0 r0 r12"},
		{api.Inst{Op: api.OpAnd, B: 12}, "and r0 r12 r0"},
		{api.Inst{Op: api.OpOr, A: 12}, "or r12 r0 r0"},
		{api.Inst{Op: api.OpXor, A: 4, B: 4, C: 4}, "xor r4 r4 r4"},
		{api.Inst{Op: api.OpShl, A: 4, B: 5, C: 6}, "shl r4 r5 r6"},
		{api.Inst{Op: api.OpShr, A: 4, B: 5, C: 6}, "shr r4 r5 r6"},
		{api.Inst{Op: api.OpAddi, A: 14, B: 13, Imm: -2}, "addi r14 r13 -2"},
		{api.Inst{Op: api.OpEq, A: 5, B: 6, C: 7}, "eq r5 r6 r7"},
		{api.Inst{Op: api.OpLtu, A: 5, B: 6, C: 7}, "ltu r5 r6 r7"},
		{api.Inst{Op: api.OpLts, A: 5, B: 6, C: 7}, "lts r5 r6 r7"},
		{api.Inst{Op: api.OpJmp}, "jmp 0"},
		{api.Inst{Op: api.OpJmp, Imm: -1}, "jmp -1"},
		{api.Inst{Op: api.OpJz, A: 9, Imm: 3}, "jz r9 3"},
		{api.Inst{Op: api.OpJnz, A: 9, Imm: -3}, "jnz r9 -3"},
		{api.Inst{Op: api.OpCall, A: 13, Imm: 100}, "call r13 100"},
		{api.Inst{Op: api.OpJr, A: 13}, "jr r13"},
		{api.Inst{Op: api.OpJr}, "jr r0"},
		{api.Inst{Op: api.OpLoad, A: 2, B: 3, Imm: -1}, "load r2 r3 -1"},
		{api.Inst{Op: api.OpStore, A: 2, B: 3}, "store r2 r3 0"},
		{api.Inst{Op: api.OpTrap, Imm: 31}, "trap 31"},
		{api.Inst{Op: 26}, ""},
		{api.Inst{Op: -1}, ""},
		{api.Inst{Op: api.OpHalt, A: 1}, ""},
		{api.Inst{Op: api.OpMovi, A: 16, Imm: 7}, ""},
		{api.Inst{Op: api.OpMov, A: 1, B: 2, Imm: 7}, ""},
		{api.Inst{Op: api.OpJr, A: -1}, ""},
	}
	for _, r := range rows {
		if got := Text(r.i); got != r.want {
			t.Errorf("Text(%+v) is %q, not %q", r.i, got, r.want)
		}
	}
}

// P8.2: Decode that is written out: words of instructions, and words that are none.
func TestDecodeRows(t *testing.T) {
	none := api.Inst{}
	rows := []struct {
		w    uint64
		want api.Inst
		ok   bool
	}{
		{0, none, true},
		{0x700000101, api.Inst{Op: api.OpMovi, A: 1, Imm: 7}, true},
		{0xffffffff00003217, api.Inst{Op: api.OpLoad, A: 2, B: 3, Imm: -1}, true},
		{0x8000000000000f01, api.Inst{Op: api.OpMovi, A: 15, Imm: math.MinInt32}, true},
		{0x7fffffff00000019, api.Inst{Op: api.OpTrap, Imm: math.MaxInt32}, true},
		{0xfff05, api.Inst{Op: api.OpSub, A: 15, B: 15, C: 15}, true},
		{25, api.Inst{Op: api.OpTrap}, true},
		{26, none, false},
		{0xff, none, false},
		{0x80, none, false},
		{0x100, none, false},
		{0x100000000, none, false},
		{0x100004, none, false},
		{0x80000004, none, false},
		{0x1004303, none, false},
		{0x14303, none, false},
		{0x100004303, none, false},
		{0x100032104, none, false},
		{0x700001101, none, false},
		{0x700010101, none, false},
		{0x112, none, false},
		{0x100000d16, none, false},
		{math.MaxUint64, none, false},
	}
	for _, r := range rows {
		if got, ok := Decode(r.w); got != r.want || ok != r.ok {
			t.Errorf("Decode(%#x) is %+v, %v", r.w, got, ok)
		}
	}
}

// decoded holds Decode of a word against the word's digits; the first that is wrong ends the test.
func decoded(t *testing.T, w uint64) {
	t.Helper()
	want, wantOK := of(w)
	if got, ok := Decode(w); got != want || ok != wantOK {
		t.Fatalf("Decode(%#x) is %+v, %v, not %+v, %v", w, got, ok, want, wantOK)
	}
}

// P8.2: Decode of each lowest byte with any one or two bits more.
func TestDecodeBits(t *testing.T) {
	for op := range uint64(256) {
		decoded(t, op)
		for one := 8; one < 64; one++ {
			for two := 8; two <= one; two++ {
				decoded(t, op|1<<one|1<<two)
			}
		}
	}
}

// P8.2: Decode of words with digits of all kinds in their parts, some in bits 20 to 31.
func TestDecodeByWords(t *testing.T) {
	for op := range uint64(28) {
		for registers := range uint64(1 << 12) {
			for _, n := range []uint64{0, 1, 1<<31 - 1, 1 << 31, 1<<32 - 1} {
				decoded(t, op|registers<<8|n<<32)
			}
			decoded(t, op|registers<<8|1<<20)
			decoded(t, op|registers<<8|1<<31)
			decoded(t, op|registers<<8|0xfff<<20)
		}
	}
}

// P8.2: Decode of words of all sorts; most of them are none.
func TestDecodeStirred(t *testing.T) {
	x := uint64(1)
	for range 1 << 16 {
		x = x*6364136223846793005 + 1442695040888963407
		decoded(t, x)
		decoded(t, x>>20)
		decoded(t, x&^0xfff000e0)
		decoded(t, x&0xffffffff00000f1f)
	}
}

// P8.2: each word with one bit more or less than an instruction's is told by its own digits, not by those of its neighbour.
func TestDecodeNear(t *testing.T) {
	for _, i := range fits([]int{0, 5, 15}, []int32{0, -1, math.MinInt32, math.MaxInt32}) {
		for bit := range 64 {
			decoded(t, wordOf(i)^1<<bit)
		}
	}
}

// P8.4: Decode of Encode of a fit instruction is it.
func TestThereAndBack(t *testing.T) {
	for _, i := range fits(upTo(16), numbers()) {
		if got, ok := Decode(Encode(i)); got != i || !ok {
			t.Errorf("Decode of Encode of %+v is %+v, %v", i, got, ok)
		}
	}
}

// P8.4: Encode of what Decode tells is the word, and that is fit.
func TestBackAndThere(t *testing.T) {
	some := 0
	back := func(w uint64) {
		i, ok := Decode(w)
		if !ok {
			return
		}
		some++
		if !Fit(i) || Encode(i) != w {
			t.Errorf("Encode of Decode of %#x, %+v, is %#x", w, i, Encode(i))
		}
	}
	for low := range uint64(1 << 20) {
		back(low)
		back(low | 1<<63)
		back(low | 1<<20)
	}
	// With a number of 0 there are 1 halt, 5 of "ai" and 1 of "a" by 16, 1 of "ab" and 3 of "abi" by 256, 13 of "abc" by 4096, and 2 of "i"; with another there are those of "ai", "abi" and "i".
	if want := (1 + 6*16 + 4*256 + 13*4096 + 2) + (5*16 + 3*256 + 2); some != want {
		t.Errorf("%d words are an instruction's, not %d", some, want)
	}
}

// P8.4: unlike fit instructions have unlike words, and unlike texts.
func TestUnlike(t *testing.T) {
	words, texts := map[uint64]api.Inst{}, map[string]api.Inst{}
	for _, i := range fits(upTo(16), numbers()) {
		w, text := Encode(i), Text(i)
		if like, ok := words[w]; ok {
			t.Errorf("%+v and %+v have one word, %#x", like, i, w)
		}
		if like, ok := texts[text]; ok || text == "" {
			t.Errorf("%+v and %+v have one text, %q", like, i, text)
		}
		words[w], texts[text] = i, i
	}
}

// P8.1, P8.4: an instruction that is not fit has halt's word, so that it does not come back.
func TestUnfitDoesNotComeBack(t *testing.T) {
	for _, op := range append(upTo(26), noOps()...) {
		for _, r := range noRegisters() {
			for _, i := range []api.Inst{{Op: op, A: r}, {Op: op, B: r}, {Op: op, C: r}} {
				if got, ok := Decode(Encode(i)); got != (api.Inst{}) || !ok || Text(i) != "" {
					t.Errorf("%+v comes back as %+v, %v, with the text %q", i, got, ok, Text(i))
				}
			}
		}
	}
}

// P8.3: parts are handed out in the order of the letters, and no more when they are not asked for any more.
func TestParts(t *testing.T) {
	i := api.Inst{A: 3, B: 4, C: 5, Imm: -6}
	for _, r := range []struct {
		letters string
		want    string
	}{{"", ""}, {"abci", "a3 b4 c5 i-6 "}, {"ai", "a3 i-6 "}, {"i", "i-6 "}, {"cb", "c5 b4 "}} {
		got := ""
		for letter, value := range parts(i, r.letters) {
			got += fmt.Sprintf("%c%d ", letter, value)
		}
		if got != r.want {
			t.Errorf("parts by %q are %q", r.letters, got)
		}
	}
	for letter, value := range parts(i, "bci") {
		if letter != 'b' || value != 4 {
			t.Errorf("the first part is %c, %d", letter, value)
		}
		break
	}
}
