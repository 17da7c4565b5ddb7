package asm

import (
	"fmt"
	"math"
	"math/big"
	"math/rand"
	"reflect"
	"regexp"
	"slices"
	"strconv"
	"strings"
	"testing"

	"curtilage/api"
	"curtilage/inst"
)

// kind is an Op as chapter 8 writes it out.
type kind struct {
	op          int
	name, shape string
}

// kinds are all Ops, in their order.
func kinds() []kind {
	return []kind{
		{api.OpHalt, "halt", ""}, {api.OpMovi, "movi", "ai"}, {api.OpMovh, "movh", "ai"}, {api.OpMov, "mov", "ab"},
		{api.OpAdd, "add", "abc"}, {api.OpSub, "sub", "abc"}, {api.OpMul, "mul", "abc"}, {api.OpDiv, "div", "abc"}, {api.OpRem, "rem", "abc"},
		{api.OpAnd, "and", "abc"}, {api.OpOr, "or", "abc"}, {api.OpXor, "xor", "abc"}, {api.OpShl, "shl", "abc"}, {api.OpShr, "shr", "abc"},
		{api.OpAddi, "addi", "abi"}, {api.OpEq, "eq", "abc"}, {api.OpLtu, "ltu", "abc"}, {api.OpLts, "lts", "abc"},
		{api.OpJmp, "jmp", "i"}, {api.OpJz, "jz", "ai"}, {api.OpJnz, "jnz", "ai"}, {api.OpCall, "call", "ai"}, {api.OpJr, "jr", "a"},
		{api.OpLoad, "load", "abi"}, {api.OpStore, "store", "abi"}, {api.OpTrap, "trap", "i"},
	}
}

// jumps are the Ops that go to a mark by counting from their place.
func jumps() []int { return []int{api.OpJmp, api.OpJz, api.OpJnz, api.OpCall} }

// Lines by what they are.
func mark(name string) api.Line       { return api.Line{Mark: name} }
func do(op int) api.Line              { return api.Line{Inst: api.Inst{Op: op}} }
func jump(op int, to string) api.Line { return api.Line{Inst: api.Inst{Op: op}, To: to} }
func movi(a int, n int32, to string) api.Line {
	return api.Line{Inst: api.Inst{Op: api.OpMovi, A: a, Imm: n}, To: to}
}
func many(n int, x api.Line) []api.Line { return slices.Repeat([]api.Line{x}, n) }
func list(parts ...any) []api.Line {
	var out []api.Line
	for _, p := range parts {
		switch x := p.(type) {
		case api.Line:
			out = append(out, x)
		case []api.Line:
			out = append(out, x...)
		}
	}
	return out
}

// brief is what a failing test tells of lines, which may have very long names.
func brief(x any) string {
	s := fmt.Sprintf("%+v", x)
	return s[:min(len(s), 300)]
}

// nameForm is a mark's name by the chapter's words.
var nameForm = regexp.MustCompile(`\A[A-Za-z_][A-Za-z0-9_]{0,15}\z`)

// isFit tells whether an instruction is fit, by chapter 8's words.
func isFit(i api.Inst) bool {
	if i.Op < 0 || i.Op > 25 || min(i.A, i.B, i.C) < 0 || max(i.A, i.B, i.C) > 15 {
		return false
	}
	has := func(letter string) bool { return strings.Contains(kinds()[i.Op].shape, letter) }
	return (has("a") || i.A == 0) && (has("b") || i.B == 0) && (has("c") || i.C == 0) && (has("i") || i.Imm == 0)
}

// kindOfLine is "mark" or "instruction", or "" of what is neither.
func kindOfLine(x api.Line) string {
	if nameForm.MatchString(x.Mark) && x.To == "" && x.Inst == (api.Inst{}) {
		return "mark"
	}
	if x.Mark != "" || !isFit(x.Inst) {
		return ""
	}
	goes := nameForm.MatchString(x.To) && (x.Inst.Op == api.OpMovi || slices.Contains(jumps(), x.Inst.Op) && x.Inst.Imm == 0)
	if x.To != "" && !goes {
		return ""
	}
	return "instruction"
}

// wantText is a line's text by its shape; "" of what is no line.
func wantText(x api.Line) string {
	switch kindOfLine(x) {
	case "":
		return ""
	case "mark":
		return x.Mark + ":"
	}
	k := kinds()[x.Inst.Op]
	out := []string{k.name}
	for _, letter := range k.shape {
		switch letter {
		case 'a':
			out = append(out, fmt.Sprintf("r%d", x.Inst.A))
		case 'b':
			out = append(out, fmt.Sprintf("r%d", x.Inst.B))
		case 'c':
			out = append(out, fmt.Sprintf("r%d", x.Inst.C))
		case 'i':
			switch {
			case x.To == "":
				out = append(out, fmt.Sprintf("%d", x.Inst.Imm))
			case x.Inst.Imm == 0:
				out = append(out, "@"+x.To)
			default:
				out = append(out, fmt.Sprintf("@%s+%d", x.To, x.Inst.Imm))
			}
		}
	}
	return strings.Join(out, " ")
}

// wantWord is a fit instruction's word, put together out of its digits.
func wantWord(i api.Inst) uint64 {
	w, err := strconv.ParseUint(fmt.Sprintf("%08x000%x%x%x%02x", uint32(i.Imm), i.C, i.B, i.A, i.Op), 16, 64)
	if err != nil {
		panic(err)
	}
	return w
}

// wantPlace is how many instructions are ahead of a line.
func wantPlace(l []api.Line, line int) int {
	n := 0
	for _, x := range l[:line] {
		if x.Mark == "" {
			n++
		}
	}
	return n
}

// wantPut is Put by the chapter's words, each question asked of the whole list again.
func wantPut(l []api.Line) ([]uint64, int, api.Errno) {
	markAt := func(l []api.Line, name string) int {
		return slices.IndexFunc(l, func(x api.Line) bool { return x.Mark == name })
	}
	for line, x := range l {
		switch {
		case kindOfLine(x) == "":
			return nil, line, api.ErrForm
		case kindOfLine(x) == "mark" && markAt(l[:line], x.Mark) >= 0:
			return nil, line, api.ErrThere
		case kindOfLine(x) == "instruction" && wantPlace(l, line) >= 4096:
			return nil, line, api.ErrFull
		}
	}
	var words []uint64
	for line, x := range l {
		if x.Mark != "" {
			continue
		}
		if x.To != "" {
			to := markAt(l, x.To)
			if to < 0 {
				return nil, line, api.ErrName
			}
			n := new(big.Int).Add(big.NewInt(int64(wantPlace(l, to))), big.NewInt(int64(x.Inst.Imm)))
			if x.Inst.Op != api.OpMovi {
				n.Sub(n, big.NewInt(int64(wantPlace(l, line)+1)))
			}
			if n.Cmp(big.NewInt(-1<<31)) < 0 || n.Cmp(big.NewInt(1<<31-1)) > 0 {
				return nil, line, api.ErrRange
			}
			x.Inst.Imm = int32(n.Int64())
		}
		words = append(words, wantWord(x.Inst))
	}
	return words, 0, api.OK
}

// digitsForm is a number as it is told: no sign but -, no 0 ahead.
const digitsForm = `(0|-?[1-9][0-9]*)`

// wantLine is the line of a text by its form; false: it is none's.
func wantLine(s string) (api.Line, bool) {
	if name, found := strings.CutSuffix(s, ":"); found {
		return mark(name), nameForm.MatchString(name)
	}
	for _, k := range kinds() {
		form := k.name
		for _, letter := range k.shape {
			form += " "
			switch {
			case letter != 'i':
				form += "r([0-9]|1[0-5])"
			case k.op == api.OpMovi:
				form += "(?:" + digitsForm + `|@([A-Za-z_][A-Za-z0-9_]{0,15})(?:\+(-?[1-9][0-9]*))?)`
			case slices.Contains(jumps(), k.op):
				form += "(?:" + digitsForm + `|@([A-Za-z_][A-Za-z0-9_]{0,15}))`
			default:
				form += digitsForm
			}
		}
		if got := compiled(`\A` + form + `\z`).FindStringSubmatch(s); got != nil {
			return filled(k, got[1:])
		}
	}
	return api.Line{}, false
}

// forms are the forms that were compiled, for there are many texts and few of them.
var forms = map[string]*regexp.Regexp{}

func compiled(form string) *regexp.Regexp {
	if forms[form] == nil {
		forms[form] = regexp.MustCompile(form)
	}
	return forms[form]
}

// filled is a line by what its form found; false: its number is no int32.
func filled(k kind, found []string) (api.Line, bool) {
	x := do(k.op)
	for at, letter := range k.shape {
		switch letter {
		case 'a':
			x.Inst.A, _ = strconv.Atoi(found[at])
		case 'b':
			x.Inst.B, _ = strconv.Atoi(found[at])
		case 'c':
			x.Inst.C, _ = strconv.Atoi(found[at])
		case 'i':
			digits := found[at]
			if digits == "" {
				x.To = found[at+1]
				if digits = "0"; len(found) > at+2 && found[at+2] != "" {
					digits = found[at+2]
				}
			}
			n, ok := new(big.Int).SetString(digits, 10)
			if !ok || n.Cmp(big.NewInt(-1<<31)) < 0 || n.Cmp(big.NewInt(1<<31-1)) > 0 {
				return api.Line{}, false
			}
			x.Inst.Imm = int32(n.Int64())
		}
	}
	return x, true
}

// fitLines are lines that are such: of each Op, with registers and numbers at their edges, with and without marks, and marks.
func fitLines() []api.Line {
	var out []api.Line
	for _, k := range kinds() {
		for _, r := range []int{0, 1, 9, 10, 15} {
			for _, n := range []int32{0, 1, -1, 7, -3, 10, 100, math.MaxInt32, math.MinInt32} {
				i := api.Inst{Op: k.op, A: r, B: 15 - r, C: (r + 3) % 16, Imm: n}
				if !strings.Contains(k.shape, "a") {
					i.A = 0
				}
				if !strings.Contains(k.shape, "b") {
					i.B = 0
				}
				if !strings.Contains(k.shape, "c") {
					i.C = 0
				}
				if !strings.Contains(k.shape, "i") {
					i.Imm = 0
				}
				for _, to := range []string{"", "a", "_", "Z9", "halt", "abcdefghijklmnop"} {
					if x := (api.Line{Inst: i, To: to}); kindOfLine(x) != "" && !slices.Contains(out, x) {
						out = append(out, x)
					}
				}
			}
		}
	}
	for _, name := range []string{"a", "b", "_", "__", "Z9", "halt", "r1", "a0", "abcdefghijklmnop", "ABCDEFGHIJKLMNOP", "_123456789012345"} {
		out = append(out, mark(name))
	}
	return out
}

// noLines are lines that are neither a mark nor an instruction.
func noLines() []api.Line {
	out := []api.Line{
		{Mark: "a", To: "a"},
		{Mark: "a", To: "b"},
		{Mark: "a", Inst: api.Inst{Op: api.OpJmp}},
		{Mark: "a", Inst: api.Inst{Op: api.OpJmp}, To: "a"},
		{Mark: "a", Inst: api.Inst{Op: api.OpMovi, A: 1, Imm: 7}},
		{Mark: "a", Inst: api.Inst{Op: -1}},
		{Mark: "a", Inst: api.Inst{A: 1}},
		{Mark: "a", Inst: api.Inst{B: 1}},
		{Mark: "a", Inst: api.Inst{C: 1}},
		{Mark: "a", Inst: api.Inst{Imm: -1}},
		{Inst: api.Inst{Op: -1}},
		{Inst: api.Inst{Op: 26}},
		{Inst: api.Inst{Op: 1<<32 + 1}},
		{Inst: api.Inst{A: 1}},
		{Inst: api.Inst{Imm: 1}},
		{Inst: api.Inst{Op: api.OpMovi, A: 16}},
		{Inst: api.Inst{Op: api.OpMovi, A: -1}},
		{Inst: api.Inst{Op: api.OpMovi, A: 1, B: 1}, To: "a"},
		{Inst: api.Inst{Op: api.OpMovi, A: 16}, To: "a"},
		{Inst: api.Inst{Op: api.OpJmp, A: 1}, To: "a"},
		{Inst: api.Inst{Op: api.OpAdd, Imm: 1}},
		{Inst: api.Inst{Op: math.MaxInt}, To: "a"},
		{Inst: api.Inst{Op: math.MinInt}, To: "a"},
		{To: "a"},
	}
	for _, op := range jumps() {
		for _, n := range []int32{1, -1, math.MaxInt32, math.MinInt32} {
			out = append(out, api.Line{Inst: api.Inst{Op: op, Imm: n}, To: "a"})
		}
	}
	for _, k := range kinds() {
		if k.op != api.OpMovi && !slices.Contains(jumps(), k.op) {
			out = append(out, jump(k.op, "a"))
		}
	}
	for _, name := range noNames() {
		if name != "" {
			out = append(out, mark(name), jump(api.OpJmp, name), movi(1, 2, name), api.Line{Inst: api.Inst{Op: api.OpCall, A: 3}, To: name})
		}
	}
	return out
}

// noNames are texts that no mark may be called.
func noNames() []string {
	return []string{"", "0", "1", "9", "1a", "0_", "9Z", "a b", " a", "a ", "a-", "-a", "a+", "a+1", "@a", "a@", "a:", ":", ":a", "a.b", "a\n", "\na", "\n", "a\x00", "\x00", "\x7f", "\x80", "\xff", "é", "aé", "ſ", "٣", "a٣", "[", "`", "{", "/", "a/", "abcdefghijklmnopq", "_1234567890123456", strings.Repeat("a", 32), strings.Repeat("a", 1<<16)}
}

// held holds Put against the chapter's words.
func held(t *testing.T, l []api.Line) {
	t.Helper()
	words, line, err := Put(l)
	wantWords, wantLine, wantErr := wantPut(l)
	if !slices.Equal(words, wantWords) || line != wantLine || err != wantErr {
		t.Fatalf("Put(%s) is %x, %d, %v, not %x, %d, %v", brief(l), words, line, err, wantWords, wantLine, wantErr)
	}
	if len(words) == 0 && words != nil {
		t.Fatalf("Put(%s) is an empty list that is something", brief(l))
	}
}

// heldRead holds Read of a text against the chapter's words.
func heldRead(t *testing.T, s string) {
	t.Helper()
	var want []api.Line
	wantAt, wantErr := 0, api.OK
	rest := s
	for at := 0; rest != ""; at++ {
		text := rest
		if end := strings.IndexByte(rest, 10); end >= 0 {
			text, rest = rest[:end], rest[end+1:]
		} else {
			rest = ""
		}
		if text == "" {
			continue
		}
		x, ok := wantLine(text)
		if !ok {
			want, wantAt, wantErr = nil, at, api.ErrForm
			break
		}
		want = append(want, x)
	}
	got, at, err := Read(s)
	if !reflect.DeepEqual(got, want) || at != wantAt || err != wantErr {
		t.Fatalf("Read(%.80q) is %s, %d, %v, not %s, %d, %v", s, brief(got), at, err, brief(want), wantAt, wantErr)
	}
}

// P10.1: Find that is written out.
func TestFindRows(t *testing.T) {
	prog := list(mark("a"), do(api.OpHalt), mark("b"), mark("c"), do(api.OpAdd), jump(api.OpJmp, "d"), mark("b"), mark("e"), do(api.OpHalt), mark("a"), mark("end"))
	rows := []struct {
		l    []api.Line
		name string
		at   int
		ok   bool
	}{
		{prog, "a", 0, true},
		{prog, "b", 1, true},
		{prog, "c", 1, true},
		{prog, "e", 3, true},
		{prog, "end", 4, true},
		{prog, "d", 0, false},
		{prog, "A", 0, false},
		{prog, "en", 0, false},
		{prog, "end ", 0, false},
		{prog, "", 0, false},
		{nil, "a", 0, false},
		{nil, "", 0, false},
		{list(do(api.OpHalt)), "", 0, false},
		{list(mark("a")), "", 0, false},
		{list(jump(api.OpJmp, "a"), movi(1, 7, "a")), "a", 0, false},
		{list(many(4096, do(api.OpHalt)), mark("z")), "z", 4096, true},
		{list(many(5000, do(api.OpHalt)), mark("z")), "z", 5000, true},
		{list(many(1<<16-1, do(api.OpHalt)), mark("z")), "z", 1<<16 - 1, true},
		{many(1<<16, mark("z")), "z", 0, true},
		{many(1<<16, mark("y")), "z", 0, false},
	}
	for _, r := range rows {
		if at, ok := Find(r.l, r.name); at != r.at || ok != r.ok {
			t.Errorf("Find(%d lines, %q) is %d, %v, not %d, %v", len(r.l), r.name, at, ok, r.at, r.ok)
		}
	}
}

// P10.1: Find takes a line by its Mark, whatever else it is, and so counts lines that have none.
func TestFindAnyLines(t *testing.T) {
	for _, x := range noLines() {
		l := list(do(api.OpHalt), x, do(api.OpHalt), mark("last"))
		want := 2
		if x.Mark == "" {
			want = 3
		}
		if at, ok := Find(l, "last"); at != want || !ok {
			t.Errorf("Find of last behind %s is %d, %v", brief(x), at, ok)
		}
		if at, ok := Find(l, x.Mark); x.Mark != "" && (at != 1 || !ok) {
			t.Errorf("Find of the Mark of %s is %d, %v", brief(x), at, ok)
		}
	}
}

// P10.1, P10.2: where Put takes a program, Find tells where its jumps come to.
func TestFindAndPut(t *testing.T) {
	l := list(jump(api.OpJmp, "b"), mark("a"), movi(2, 0, "a"), mark("b"), movi(3, 0, "c"), mark("c"))
	words, _, err := Put(l)
	if err != api.OK {
		t.Fatal(err)
	}
	for place, name := range []string{"b", "a", "c"} {
		at, ok := Find(l, name)
		i, _ := inst.Decode(words[place])
		to := int(i.Imm)
		if i.Op == api.OpJmp {
			to += place + 1
		}
		if !ok || at != to {
			t.Errorf("%s is at %d, %v, and is gone to at %d", name, at, ok, to)
		}
	}
}

// P10.2, P10.3: names of each length, with each byte at each place.
func TestNames(t *testing.T) {
	try := func(name string, want bool) {
		t.Helper()
		_, line, err := Put([]api.Line{do(api.OpHalt), mark(name)})
		if (err == api.OK) != want || !want && (err != api.ErrForm || line != 1) {
			t.Errorf("Put of the mark %.20q is %d, %v", name, line, err)
		}
		_, line, err = Put([]api.Line{do(api.OpHalt), jump(api.OpJmp, name)})
		if want && err != api.ErrName || !want && err != api.ErrForm || line != 1 {
			t.Errorf("Put of jmp @%.20q is %d, %v", name, line, err)
		}
		for _, x := range []api.Line{mark(name), jump(api.OpJmp, name), movi(1, 7, name)} {
			if got := Text([]api.Line{x}); (got != "") != want {
				t.Errorf("Text(%s) is %.60q", brief(x), got)
			}
		}
		for _, s := range []string{name + ":", "jmp @" + name, "movi r1 @" + name + "+7"} {
			if _, _, err := Read(s); (err == api.OK) != want {
				t.Errorf("Read(%.30q) is %v", s, err)
			}
		}
	}
	for n := 1; n <= 40; n++ {
		try(strings.Repeat("a", n), n <= 16)
		try("_"+strings.Repeat("9", n-1), n <= 16)
		try("9"+strings.Repeat("a", n-1), false)
	}
	for c := range 256 {
		b := string([]byte{byte(c)})
		letter := c >= 'a' && c <= 'z' || c >= 'A' && c <= 'Z' || c == '_'
		digit := c >= '0' && c <= '9'
		if b == "\n" {
			continue
		}
		try(b, letter)
		try(b+"a", letter)
		if b == "+" {
			continue
		}
		try("a"+b, letter || digit)
		try("a"+b+"b", letter || digit)
		try(strings.Repeat("x", 15)+b, letter || digit)
		try(strings.Repeat("x", 16)+b, false)
	}
}

// P10.2: names that can't be, as marks and as what is gone to.
func TestNoNames(t *testing.T) {
	for _, name := range noNames() {
		if name == "" {
			continue
		}
		for _, x := range []api.Line{mark(name), jump(api.OpJmp, name), movi(1, 0, name)} {
			for _, l := range [][]api.Line{{x}, {mark("a"), x}, {mark(name), x}, {x, mark(name)}} {
				held(t, l)
			}
			if _, _, err := Put([]api.Line{x}); err != api.ErrForm {
				t.Errorf("Put(%s) is %v", brief(x), err)
			}
		}
	}
}

// P10.2: what is no line is ErrForm at its place, and has no Text.
func TestNoLines(t *testing.T) {
	for _, x := range noLines() {
		if kindOfLine(x) != "" {
			t.Errorf("%s is a line", brief(x))
		}
		for n := range 4 {
			l := list(mark("b"), many(n, do(api.OpHalt)), x, mark("a"), do(api.OpHalt))
			words, line, err := Put(l)
			if words != nil || line != n+1 || err != api.ErrForm {
				t.Errorf("Put with %s at line %d is %x, %d, %v", brief(x), n+1, words, line, err)
			}
			if got := Text(l); got != "" {
				t.Errorf("Text with %s is %.60q", brief(x), got)
			}
		}
	}
}

// P10.2, P10.3: each Op, with and without what it goes to, with numbers and registers used and not used.
func TestLinesByWords(t *testing.T) {
	for op := -2; op < 29; op++ {
		for _, to := range []string{"", "a", "b", "1"} {
			for _, name := range []string{"", "a", "m"} {
				for _, n := range []int32{0, 1, -1, math.MaxInt32, math.MinInt32} {
					for _, r := range [][3]int{{}, {1, 0, 0}, {1, 2, 0}, {1, 2, 3}, {16, 0, 0}, {-1, 0, 0}, {0, 16, 0}, {0, 0, 16}, {0, 0, 15}} {
						x := api.Line{Mark: name, To: to, Inst: api.Inst{Op: op, A: r[0], B: r[1], C: r[2], Imm: n}}
						held(t, []api.Line{x})
						held(t, []api.Line{mark("a"), x, do(api.OpHalt)})
						want := wantText(x)
						if want != "" {
							want += "\n"
						}
						if got := Text([]api.Line{x}); got != want {
							t.Fatalf("Text(%+v) is %q, not %q", x, got, want)
						}
					}
				}
			}
		}
	}
}

// P10.2: Put that is written out.
func TestPutRows(t *testing.T) {
	rows := []struct {
		l     []api.Line
		words []uint64
		line  int
		err   api.Errno
	}{
		{nil, nil, 0, api.OK},
		{list(mark("a")), nil, 0, api.OK},
		{list(mark("a"), mark("b")), nil, 0, api.OK},
		{list(do(api.OpHalt)), []uint64{0}, 0, api.OK},
		{list(mark("a"), jump(api.OpJmp, "a")), []uint64{0xffffffff00000012}, 0, api.OK},
		{list(jump(api.OpJmp, "a"), mark("a")), []uint64{0x12}, 0, api.OK},
		{list(jump(api.OpJmp, "a"), do(api.OpHalt), mark("a")), []uint64{0x100000012, 0}, 0, api.OK},
		{list(do(api.OpJmp)), []uint64{0x12}, 0, api.OK},
		{list(api.Line{Inst: api.Inst{Op: api.OpJmp, Imm: -5}}), []uint64{0xfffffffb00000012}, 0, api.OK},
		{list(mark("a"), do(api.OpHalt), api.Line{Inst: api.Inst{Op: api.OpJz, A: 9}, To: "a"}), []uint64{0, 0xfffffffe00000913}, 0, api.OK},
		{list(api.Line{Inst: api.Inst{Op: api.OpJnz, A: 15}, To: "z"}, do(api.OpHalt), do(api.OpHalt), mark("z"), do(api.OpHalt)), []uint64{0x200000f14, 0, 0, 0}, 0, api.OK},
		{list(api.Line{Inst: api.Inst{Op: api.OpCall, A: 13}, To: "f"}, do(api.OpHalt), mark("f"), api.Line{Inst: api.Inst{Op: api.OpJr, A: 13}}), []uint64{0x100000d15, 0, 0xd16}, 0, api.OK},
		{list(movi(1, 0, "z"), do(api.OpHalt), mark("z")), []uint64{0x200000101, 0}, 0, api.OK},
		{list(movi(1, 3, "z"), do(api.OpHalt), mark("z")), []uint64{0x500000101, 0}, 0, api.OK},
		{list(movi(1, -3, "z"), do(api.OpHalt), mark("z")), []uint64{0xffffffff00000101, 0}, 0, api.OK},
		{list(movi(1, 7, "")), []uint64{0x700000101}, 0, api.OK},
		{list(jump(api.OpJmp, "b")), nil, 0, api.ErrName},
		{list(mark("a"), do(api.OpHalt), mark("c"), jump(api.OpJmp, "b")), nil, 3, api.ErrName},
		{list(mark("a"), movi(1, 7, "A")), nil, 1, api.ErrName},
		{list(mark("a"), do(api.OpHalt), mark("b"), mark("a")), nil, 3, api.ErrThere},
		{list(mark("a"), mark("a")), nil, 1, api.ErrThere},
		{list(mark("a"), mark("A"), mark("a_"), mark("a1")), nil, 0, api.OK},
		{list(do(api.OpHalt), api.Line{Mark: "a", Inst: api.Inst{Op: api.OpJmp}}), nil, 1, api.ErrForm},
		{list(mark("a"), do(26)), nil, 1, api.ErrForm},
	}
	for _, r := range rows {
		words, line, err := Put(r.l)
		if !slices.Equal(words, r.words) || line != r.line || err != r.err {
			t.Errorf("Put(%+v) is %x, %d, %v, not %x, %d, %v", r.l, words, line, err, r.words, r.line, r.err)
		}
		held(t, r.l)
	}
}

// P10.2, P10.6: a jump of each kind from each place to a mark at each place comes to it; movi is the place itself.
func TestJumps(t *testing.T) {
	const size = 7
	for _, op := range append(jumps(), api.OpMovi) {
		for from := range size {
			for to := range size + 1 {
				l := many(size, do(api.OpHalt))
				l[from] = jump(op, "m")
				l = slices.Insert(l, to, mark("m"))
				l = append([]api.Line{mark("x"), mark("y")}, l...)
				words, line, err := Put(l)
				if len(words) != size || line != 0 || err != api.OK {
					t.Fatalf("Put with a jump from %d to %d is %d words, %d, %v", from, to, len(words), line, err)
				}
				for place, w := range words {
					i, ok := inst.Decode(w)
					want := api.Inst{}
					if place == from {
						want = api.Inst{Op: op, Imm: int32(to - from - 1)}
						if op == api.OpMovi {
							want.Imm = int32(to)
						}
					}
					if !ok || i != want {
						t.Errorf("word %d, of a jump from %d to %d, is %+v, %v", place, from, to, i, ok)
					}
				}
				held(t, l)
			}
		}
	}
}

// P10.2: what movi's number and a mark's place come to, at the bounds; below them no sum can be, for no place is below 0.
func TestMoviBounds(t *testing.T) {
	rows := []struct {
		place int
		n     int32
		want  int32
		err   api.Errno
	}{
		{0, 0, 0, api.OK},
		{0, math.MaxInt32, math.MaxInt32, api.OK},
		{0, math.MinInt32, math.MinInt32, api.OK},
		{1, math.MaxInt32, 0, api.ErrRange},
		{1, math.MaxInt32 - 1, math.MaxInt32, api.OK},
		{1, math.MinInt32, math.MinInt32 + 1, api.OK},
		{1, -1, 0, api.OK},
		{2, -3, -1, api.OK},
		{2, math.MaxInt32 - 1, 0, api.ErrRange},
		{2, math.MaxInt32 - 2, math.MaxInt32, api.OK},
		{4095, math.MaxInt32 - 4095, math.MaxInt32, api.OK},
		{4095, math.MaxInt32 - 4094, 0, api.ErrRange},
		{4095, math.MaxInt32, 0, api.ErrRange},
		{4095, math.MinInt32, math.MinInt32 + 4095, api.OK},
		{4095, 4095, 8190, api.OK},
	}
	for _, r := range rows {
		l := list(mark("first"), many(r.place, do(api.OpHalt)), mark("m"), movi(15, r.n, "m"))
		words, line, err := Put(l)
		if r.err != api.OK {
			if words != nil || line != r.place+2 || err != r.err {
				t.Errorf("movi of %d and %d is %d words, %d, %v", r.place, r.n, len(words), line, err)
			}
			continue
		}
		want := wantWord(api.Inst{Op: api.OpMovi, A: 15, Imm: r.want})
		if len(words) != r.place+1 || line != 0 || err != api.OK || words[r.place] != want {
			t.Errorf("movi of %d and %d is %d words, %d, %v", r.place, r.n, len(words), line, err)
		}
	}
	for _, n := range []int32{math.MaxInt32 - 4095, math.MinInt32} {
		l := list(movi(1, n, "end"), many(4095, do(api.OpHalt)), mark("end"))
		_, line, err := Put(l)
		if (err == api.ErrRange) != (n > 0) || line != 0 {
			t.Errorf("movi of the end and %d is %d, %v", n, line, err)
		}
		held(t, l)
	}
}

// P10.2: the 4096th instruction is taken, the 4097th is not; marks don't count.
func TestFull(t *testing.T) {
	if api.MaxCode != 4096 {
		t.Errorf("MaxCode is %d", api.MaxCode)
	}
	full := many(4096, do(api.OpHalt))
	rows := []struct {
		l     []api.Line
		words int
		line  int
		err   api.Errno
	}{
		{full[:4095], 4095, 0, api.OK},
		{full, 4096, 0, api.OK},
		{list(full, mark("end")), 4096, 0, api.OK},
		{list(mark("a"), full, mark("b"), mark("c")), 4096, 0, api.OK},
		{list(full[:4095], jump(api.OpJmp, "end"), mark("end")), 4096, 0, api.OK},
		{list(full, do(api.OpHalt)), 0, 4096, api.ErrFull},
		{list(mark("a"), full, mark("b"), do(api.OpHalt), mark("c")), 0, 4098, api.ErrFull},
		{list(full, jump(api.OpJmp, "nowhere")), 0, 4096, api.ErrFull},
		{list(jump(api.OpJmp, "nowhere"), full), 0, 4096, api.ErrFull},
		{list(full, full), 0, 4096, api.ErrFull},
		{list(full, mark("a"), mark("a"), do(api.OpHalt)), 0, 4097, api.ErrThere},
		{list(full, do(api.OpHalt), mark("a"), mark("a")), 0, 4096, api.ErrFull},
		{list(full, do(26)), 0, 4096, api.ErrForm},
		{list(full, mark("1")), 0, 4096, api.ErrForm},
		{list(full, do(api.OpHalt), do(26)), 0, 4096, api.ErrFull},
		{many(1<<16, do(api.OpHalt)), 0, 4096, api.ErrFull},
	}
	for n, r := range rows {
		words, line, err := Put(r.l)
		if len(words) != r.words || line != r.line || err != r.err {
			t.Errorf("row %d: Put is %d words, %d, %v", n, len(words), line, err)
		}
	}
}

// P10.2: of several errors the first line's of the first round is told, and only then those of the second.
func TestWhichError(t *testing.T) {
	lost, far := jump(api.OpJmp, "lost"), movi(1, math.MaxInt32, "b")
	rows := []struct {
		l    []api.Line
		line int
		err  api.Errno
	}{
		{list(lost, do(26)), 1, api.ErrForm},
		{list(lost, mark("a"), mark("a")), 2, api.ErrThere},
		{list(do(api.OpHalt), mark("b"), far, do(26)), 3, api.ErrForm},
		{list(do(api.OpHalt), mark("b"), far, mark("b")), 3, api.ErrThere},
		{list(mark("a"), mark("a"), do(26)), 1, api.ErrThere},
		{list(mark("a"), do(26), mark("a")), 1, api.ErrForm},
		{list(mark("a"), api.Line{Mark: "a", To: "a"}), 1, api.ErrForm},
		{list(mark("1"), mark("1")), 0, api.ErrForm},
		{list(lost, mark("b"), far), 0, api.ErrName},
		{list(do(api.OpHalt), mark("b"), far, lost), 2, api.ErrRange},
		{list(do(api.OpHalt), mark("b"), lost, far), 2, api.ErrName},
		{list(do(api.OpHalt), far, lost, mark("b")), 1, api.ErrRange},
		{list(movi(1, math.MaxInt32, "lost")), 0, api.ErrName},
	}
	for _, r := range rows {
		words, line, err := Put(r.l)
		if words != nil || line != r.line || err != r.err {
			t.Errorf("Put(%+v) is %x, %d, %v, not %d, %v", r.l, words, line, err, r.line, r.err)
		}
		held(t, r.l)
	}
}

// P10.2: all lists of up to four lines out of some that can be and some that can't.
func TestPutAllLists(t *testing.T) {
	pool := []api.Line{
		mark("a"), mark("b"), do(api.OpHalt), jump(api.OpJmp, "a"), jump(api.OpCall, "b"), jump(api.OpJz, "c"),
		movi(2, -1, "a"), movi(2, math.MaxInt32, "b"), movi(3, 5, ""), do(26), {Mark: "a", To: "a"}, mark("0"),
	}
	var grow func(l []api.Line)
	grow = func(l []api.Line) {
		held(t, l)
		if len(l) == 4 {
			return
		}
		for _, x := range pool {
			grow(append(slices.Clone(l), x))
		}
	}
	grow(nil)
}

// P10.2: long programs of any lines, most of them with nothing wrong.
func TestPutLong(t *testing.T) {
	draw := rand.New(rand.NewSource(10))
	good := fitLines()
	for range 300 {
		var l []api.Line
		for n := range draw.Intn(200) {
			x := good[draw.Intn(len(good))]
			if x.Mark != "" {
				x.Mark = fmt.Sprintf("m%d", n)
			}
			if x.To != "" {
				x.To = fmt.Sprintf("m%d", draw.Intn(200))
			}
			l = append(l, x)
		}
		for n := range 200 {
			if at, _ := Find(l, fmt.Sprintf("m%d", n)); at == 0 && draw.Intn(50) > 0 {
				l = slices.Insert(l, draw.Intn(len(l)+1), mark(fmt.Sprintf("m%d", n)))
			}
		}
		held(t, l)
	}
}

// P10.3: Read that is written out.
func TestReadRows(t *testing.T) {
	rows := []struct {
		s    string
		want []api.Line
	}{
		{"", nil},
		{"\n", nil},
		{"\n\n\n", nil},
		{"a:", list(mark("a"))},
		{"a:\n", list(mark("a"))},
		{"\na:\n\nhalt\n\n", list(mark("a"), do(api.OpHalt))},
		{"halt", list(do(api.OpHalt))},
		{"halt:\nhalt", list(mark("halt"), do(api.OpHalt))},
		{"jmp @a", list(jump(api.OpJmp, "a"))},
		{"jmp -1", list(api.Line{Inst: api.Inst{Op: api.OpJmp, Imm: -1}})},
		{"jz r3 @a\njnz r15 @b_1\ncall r0 @_", list(api.Line{Inst: api.Inst{Op: api.OpJz, A: 3}, To: "a"}, api.Line{Inst: api.Inst{Op: api.OpJnz, A: 15}, To: "b_1"}, jump(api.OpCall, "_"))},
		{"movi r1 @a", list(movi(1, 0, "a"))},
		{"movi r1 @a+3", list(movi(1, 3, "a"))},
		{"movi r1 @a+-3", list(movi(1, -3, "a"))},
		{"movi r1 @a+2147483647", list(movi(1, math.MaxInt32, "a"))},
		{"movi r1 @a+-2147483648", list(movi(1, math.MinInt32, "a"))},
		{"movi r1 2147483647\nmovi r1 -2147483648", list(movi(1, math.MaxInt32, ""), movi(1, math.MinInt32, ""))},
		{"movi r10 0", list(movi(10, 0, ""))},
		{"load r2 r3 -1\nstore r4 r5 6\nadd r1 r2 r3\nmov r6 r7\njr r8\ntrap 31", list(
			api.Line{Inst: api.Inst{Op: api.OpLoad, A: 2, B: 3, Imm: -1}},
			api.Line{Inst: api.Inst{Op: api.OpStore, A: 4, B: 5, Imm: 6}},
			api.Line{Inst: api.Inst{Op: api.OpAdd, A: 1, B: 2, C: 3}},
			api.Line{Inst: api.Inst{Op: api.OpMov, A: 6, B: 7}},
			api.Line{Inst: api.Inst{Op: api.OpJr, A: 8}},
			api.Line{Inst: api.Inst{Op: api.OpTrap, Imm: 31}})},
		{"a:\na:\njmp @nowhere", list(mark("a"), mark("a"), jump(api.OpJmp, "nowhere"))},
	}
	for _, r := range rows {
		got, at, err := Read(r.s)
		if !reflect.DeepEqual(got, r.want) || at != 0 || err != api.OK {
			t.Errorf("Read(%q) is %+v, %d, %v", r.s, got, at, err)
		}
		heldRead(t, r.s)
	}
}

// P10.3: texts that are no line's, and the place that is told among others and empty ones.
func TestReadNoText(t *testing.T) {
	texts := []string{
		" ", "  ", ":", "::", "a::", " a:", "a :", "a: ", "a:b", "a", "a:halt", "a: halt", "1:", "1a:", "a-b:", "abcdefghijklmnopq:", "é:",
		"Halt", "HALT", "hal", "haltt", "halt ", " halt", "halt r0", "halt 0", "halt @a", "?", "nop", "0", "r1", "@a", "halt\r", "\thalt", "halt;",
		"jmp", "jmp ", "jmp  1", "jmp 1 ", " jmp 1", "jmp\t1", "jmp 1 2", "jmp r1", "jmp r1 1", "jmp a", "jmp @", "jmp @1", "jmp @a ", "jmp @a b", "jmp @a+0", "jmp @a+1", "jmp @a+-1", "jmp @@a", "jmp @a:", "jmp @abcdefghijklmnopq",
		"jz r1 @a+1", "jnz r1 @a+1", "call r1 @a+1", "jz @a", "jz r1", "jz r1 ", "jz r16 @a", "jz r1 r2",
		"jmp +1", "jmp -0", "jmp 00", "jmp 01", "jmp -01", "jmp +0", "jmp 1_0", "jmp 0x1", "jmp 1.0", "jmp 1e3", "jmp --1", "jmp -", "jmp 2147483648", "jmp -2147483649", "jmp 4294967296", "jmp 99999999999999999999", "jmp -99999999999999999999",
		"movi r1", "movi 1 r1", "movi r1 7 ", "movi  r1 7", "movi r1  7", "movi r1 7 8", "movi r01 7", "movi r16 7", "movi r-1 7", "movi r+1 7", "movi r 7", "movi rr1 7", "movi R1 7", "movi 1 7", "movi r1x 7", "movi r1 7x", "movi r99999999999999999999 7", "movi r18446744073709551617 7",
		"movi r1 @a+0", "movi r1 @a+-0", "movi r1 @a+03", "movi r1 @a+-03", "movi r1 @a++3", "movi r1 @a+--3", "movi r1 @a-3", "movi r1 @a+", "movi r1 @a+-", "movi r1 @a +3", "movi r1 @a+ 3", "movi r1 @a+3+4", "movi r1 @a+3 ", "movi r1 @+3", "movi r1 @", "movi r1 3@a", "movi r1 a+3", "movi r1 @a+b", "movi r1 @a+@b", "movi r1 @a+2147483648", "movi r1 @a+-2147483649", "movi r1 @a+99999999999999999999", "movi r1 @1+3",
		"movh r1 @a", "addi r1 r2 @a", "load r1 r2 @a", "store r1 r2 @a", "trap @a", "jr @a", "jr 1", "jr r1 1", "jr r16", "mov r1", "mov r1 2", "mov r1 r2 r3", "add r1 r2", "add r1 r2 3", "add r1 r2 r3 r4", "add r1 r2 r3 0", "add r1,r2,r3", "load r1 2 r3", "trap", "trap r1",
		"\x00", "\xff", "halt\x00", "jmp 1\x00", "jmp \u0661", "jmp \uff11", strings.Repeat("a", 1<<16), strings.Repeat(" ", 1<<16), strings.Repeat("a", 1<<16) + ":", "jmp " + strings.Repeat("0", 1<<16), "jmp " + strings.Repeat("9", 1<<16),
	}
	for _, s := range texts {
		rows := []struct {
			s  string
			at int
		}{
			{s, 0}, {s + "\n", 0}, {"\n" + s, 1}, {"halt\n" + s, 1}, {"a:\n\n\nhalt\n" + s + "\nhalt\n", 4}, {"\n\n\n" + s + "\n\nwhat\n", 3},
		}
		if _, ok := wantLine(s); ok {
			t.Errorf("%.30q is a line's text", s)
		}
		for _, r := range rows {
			got, at, err := Read(r.s)
			if got != nil || at != r.at || err != api.ErrForm {
				t.Errorf("Read(%.30q) is %s, %d, %v, not at %d", r.s, brief(got), at, err, r.at)
			}
		}
	}
}

// P10.3: texts near to lines' texts: each byte left out, doubled, or another one in its place or ahead of it.
func TestReadNearTexts(t *testing.T) {
	signs := []string{"", " ", "0", "1", "9", "-", "+", "@", ":", "r", "a", "_", "Z", "\n", "\r", "\x00", "\x80", "x"}
	for _, s := range []string{"a:", "_Z9:", "halt", "jmp 1", "jmp -10", "jmp @a", "jz r1 @ab", "call r15 0", "movi r1 7", "movi r10 @a", "movi r1 @a+3", "movi r1 @b1+-30", "mov r1 r2", "add r1 r2 r13", "load r2 r3 -1", "jr r7", "trap 31", "movi r1 @a+2147483647", "movi r1 -2147483648", "abcdefghijklmnop:"} {
		heldRead(t, s)
		for at := range len(s) + 1 {
			for _, sign := range signs {
				heldRead(t, s[:at]+sign+s[at:])
				if at < len(s) {
					heldRead(t, s[:at]+sign+s[at+1:])
					heldRead(t, s[:at]+s[at:at+1]+s[at:])
				}
			}
		}
	}
}

// P10.3: each name with each row of parts, right and wrong ones.
func TestReadAllForms(t *testing.T) {
	names := []string{"", "what", "Halt"}
	for _, k := range kinds() {
		names = append(names, k.name)
	}
	parts := []string{"r15", "r16", "-3", "@a", "@a+3", ""}
	var grow func(s string, left int)
	grow = func(s string, left int) {
		heldRead(t, s)
		if left == 0 {
			return
		}
		for _, p := range parts {
			grow(s+" "+p, left-1)
		}
	}
	for _, name := range names {
		grow(name, 4)
	}
}

// P10.3: Text that is written out.
func TestTextRows(t *testing.T) {
	rows := []struct {
		l    []api.Line
		want string
	}{
		{nil, ""},
		{[]api.Line{}, ""},
		{list(mark("a")), "a:\n"},
		{list(mark("a"), jump(api.OpJmp, "a")), "a:\njmp @a\n"},
		{list(mark("a"), mark("a"), jump(api.OpJmp, "nowhere")), "a:\na:\njmp @nowhere\n"},
		{list(do(api.OpHalt)), "halt\n"},
		{list(do(api.OpJmp)), "jmp 0\n"},
		{list(api.Line{Inst: api.Inst{Op: api.OpJz, A: 10}, To: "x"}), "jz r10 @x\n"},
		{list(api.Line{Inst: api.Inst{Op: api.OpJnz}, To: "x"}), "jnz r0 @x\n"},
		{list(api.Line{Inst: api.Inst{Op: api.OpCall, A: 1}, To: "x0"}), "call r1 @x0\n"},
		{list(movi(10, 0, "x")), "movi r10 @x\n"},
		{list(movi(0, 3, "x")), "movi r0 @x+3\n"},
		{list(movi(0, 10, "x")), "movi r0 @x+10\n"},
		{list(movi(1, -3, "x")), "movi r1 @x+-3\n"},
		{list(movi(1, math.MaxInt32, "x")), "movi r1 @x+2147483647\n"},
		{list(movi(1, math.MinInt32, "x")), "movi r1 @x+-2147483648\n"},
		{list(movi(1, 0, "")), "movi r1 0\n"},
		{list(api.Line{Inst: api.Inst{Op: api.OpLoad, A: 2, B: 3, Imm: -1}}), "load r2 r3 -1\n"},
		{list(mark("a"), do(26)), ""},
		{list(api.Line{Mark: "a", To: "a"}, do(api.OpHalt)), ""},
		{list(api.Line{Inst: api.Inst{Op: api.OpJmp, Imm: 1}, To: "a"}), ""},
		{list(many(4097, do(api.OpHalt))), strings.Repeat("halt\n", 4097)},
		{list(many(1<<16, mark("abcdefghijklmnop"))), strings.Repeat("abcdefghijklmnop:\n", 1<<16)},
		{list(many(1<<16-1, do(api.OpHalt)), do(26)), ""},
	}
	for _, r := range rows {
		if got := Text(r.l); got != r.want {
			t.Errorf("Text(%d lines) is %.60q, not %.60q", len(r.l), got, r.want)
		}
	}
}

// P10.3: the text of each line that is such.
func TestTextByWords(t *testing.T) {
	all := ""
	for _, x := range fitLines() {
		want := wantText(x) + "\n"
		all += want
		if got := Text([]api.Line{x}); got != want {
			t.Errorf("Text(%+v) is %q, not %q", x, got, want)
		}
	}
	if got := Text(fitLines()); got != all {
		t.Error("Text of all lines is not the text of each, one behind another")
	}
}

// P10.4: List that is written out, and of words near to instructions'.
func TestList(t *testing.T) {
	rows := []struct {
		w    []uint64
		want string
	}{
		{nil, ""},
		{[]uint64{}, ""},
		{[]uint64{0}, "halt\n"},
		{[]uint64{26}, "?\n"},
		{[]uint64{0xffffffff00000012}, "jmp -1\n"},
		{[]uint64{0x700000101, 26, 0xffffffff00003217, math.MaxUint64, 0, 0x100}, "movi r1 7\n?\nload r2 r3 -1\n?\nhalt\n?\n"},
		{slices.Repeat([]uint64{0xfff05}, 5000), strings.Repeat("sub r15 r15 r15\n", 5000)},
		{slices.Repeat([]uint64{math.MaxUint64}, 1<<16), strings.Repeat("?\n", 1<<16)},
	}
	for _, r := range rows {
		if got := List(r.w); got != r.want {
			t.Errorf("List(%d words) is %.60q, not %.60q", len(r.w), got, r.want)
		}
	}
	for low := range uint64(1 << 8) {
		for bit := range 64 {
			w := low | 1<<bit
			want := "?\n"
			if i, ok := inst.Decode(w); ok {
				want = inst.Text(i) + "\n"
			}
			if got := List([]uint64{w}); got != want {
				t.Errorf("List(%#x) is %q, not %q", w, got, want)
			}
		}
	}
}

// P10.4: what List tells of Put's words is what Text tells of lines that go to no mark.
func TestListOfPut(t *testing.T) {
	var l []api.Line
	for _, x := range fitLines() {
		if x.Mark == "" && x.To == "" {
			l = append(l, x)
		}
	}
	words, _, err := Put(l)
	if err != api.OK || List(words) != Text(l) {
		t.Errorf("List of Put is not Text (%v)", err)
	}
}

// P10.5: lines there and back, one by one, by twos, all, and very many.
func TestThereAndBack(t *testing.T) {
	back := func(l []api.Line) {
		t.Helper()
		got, at, err := Read(Text(l))
		if !slices.Equal(got, l) || at != 0 || err != api.OK {
			t.Fatalf("Read(Text) of %d lines is %d lines, %d, %v", len(l), len(got), at, err)
		}
	}
	all := fitLines()
	back(nil)
	back(all)
	for n, x := range all {
		back([]api.Line{x})
		back([]api.Line{x, all[(n*7+1)%len(all)], x})
	}
	back(slices.Repeat(all, 1<<16/len(all)))
	back(many(1<<16, movi(15, math.MinInt32, "abcdefghijklmnop")))
}

// P10.5: what is read is written again as it was, but for empty lines and the last line's end.
func TestBackAndThere(t *testing.T) {
	for _, s := range []string{"a:\nmovi r1 @a+-3\njmp @a\n", "halt", "\n\nx:\n\n\njz r1 @x\n\n", "movi r1 @a+2147483647\nb:"} {
		l, _, err := Read(s)
		want := strings.Trim(strings.NewReplacer("\n\n\n", "\n", "\n\n", "\n").Replace(s), "\n") + "\n"
		if got := Text(l); err != api.OK || got != want {
			t.Errorf("Text(Read(%q)) is %q, %v", s, got, err)
		}
	}
}

// P10.6: each word is its line's instruction's, but for the number of one that goes to a mark.
func TestWordsAreLines(t *testing.T) {
	names := map[string]int{}
	var l []api.Line
	for _, x := range fitLines() {
		if x.To != "" && x.Inst.Imm > 1<<30 {
			continue
		}
		if x.Mark != "" {
			names[x.Mark]++
		}
		l = append(l, x)
	}
	for _, x := range l {
		if x.To != "" && names[x.To] == 0 {
			names[x.To]++
			l = append(l, mark(x.To))
		}
	}
	words, line, err := Put(l)
	if err != api.OK {
		t.Fatal(line, err)
	}
	place := 0
	for _, x := range l {
		if x.Mark != "" {
			continue
		}
		i, ok := inst.Decode(words[place])
		if !ok {
			t.Fatalf("the word of %+v is none", x)
		}
		to, found := Find(l, x.To)
		switch {
		case x.To == "":
		case x.Inst.Op == api.OpMovi && found && int(i.Imm) == to+int(x.Inst.Imm):
			i.Imm = x.Inst.Imm
		case x.Inst.Op != api.OpMovi && found && place+1+int(i.Imm) == to:
			i.Imm = 0
		default:
			t.Errorf("%+v at %d goes elsewhere: %+v", x, place, i)
		}
		if i != x.Inst {
			t.Errorf("the word of %+v is that of %+v", x, i)
		}
		place++
	}
	if place != len(words) {
		t.Errorf("%d instructions are %d words", place, len(words))
	}
}

// 0.5: what is given stays, and what is told is new each time.
func TestArgumentsStay(t *testing.T) {
	l := list(mark("a"), jump(api.OpJmp, "a"), movi(1, 2, "a"), do(26))
	kept := slices.Clone(l)
	Find(l, "a")
	Put(l)
	Put(l[:3])
	Text(l)
	Text(l[:3])
	if !slices.Equal(l, kept) {
		t.Errorf("lines are changed: %+v", l)
	}
	w := []uint64{1, 26, 0}
	List(w)
	if !slices.Equal(w, []uint64{1, 26, 0}) {
		t.Errorf("words are changed: %x", w)
	}
	words, _, _ := Put(l[:3])
	words[0] = 9
	if again, _, _ := Put(l[:3]); again[0] != 0xffffffff00000012 {
		t.Errorf("words are kept: %x", again)
	}
	lines, _, _ := Read("a:\nhalt")
	lines[0].Mark = "b"
	if again, _, _ := Read("a:\nhalt"); again[0].Mark != "a" {
		t.Errorf("lines are kept: %+v", again)
	}
}

// 0.1: lists of 2^16 with nothing but one thing in them, and long texts.
func TestGreat(t *testing.T) {
	var marks []api.Line
	for n := range 1 << 16 {
		marks = append(marks, mark(fmt.Sprintf("m%d", n)))
	}
	if words, line, err := Put(marks); words != nil || line != 0 || err != api.OK {
		t.Errorf("Put of 2^16 marks is %d words, %d, %v", len(words), line, err)
	}
	marks[1<<16-1] = mark("m0")
	if words, line, err := Put(marks); words != nil || line != 1<<16-1 || err != api.ErrThere {
		t.Errorf("Put with a mark twice is %d words, %d, %v", len(words), line, err)
	}
	if got, at, err := Read(strings.Repeat("\n", 1<<20)); got != nil || at != 0 || err != api.OK {
		t.Errorf("Read of empty lines is %d lines, %d, %v", len(got), at, err)
	}
	if got, at, err := Read(strings.Repeat("\n", 1<<20) + "?"); got != nil || at != 1<<20 || err != api.ErrForm {
		t.Errorf("Read of a wrong line behind empty ones is %d lines, %d, %v", len(got), at, err)
	}
	if got, at, err := Read(strings.Repeat("movi r1 @a+-3\n", 1<<16)); len(got) != 1<<16 || at != 0 || err != api.OK {
		t.Errorf("Read of 2^16 lines is %d lines, %d, %v", len(got), at, err)
	}
}

// Instructions are handed out with their places, and may be left.
func TestInstructions(t *testing.T) {
	l := list(mark("a"), do(api.OpHalt), mark("b"), mark("c"), do(api.OpHalt), do(api.OpHalt), mark("d"))
	got := ""
	for place, line := range instructions(l) {
		got += fmt.Sprintf("%d:%d ", place, line)
	}
	if got != "0:1 1:4 2:5 " {
		t.Errorf("instructions are %q", got)
	}
	for place, line := range instructions(l) {
		if place != 0 || line != 1 {
			t.Errorf("the first one is %d at line %d", place, line)
		}
		break
	}
}

// Lines of a text are handed out with their places, empty ones left out, and may be left.
func TestTextLines(t *testing.T) {
	rows := []struct{ s, want string }{
		{"", ""}, {"\n", ""}, {"a", "0a "}, {"a\n", "0a "}, {"a\nb", "0a 1b "}, {"\n\na\n\n\nb\n\n", "2a 5b "}, {"\r\n ", "0\r 1  "},
	}
	for _, r := range rows {
		got := ""
		for line, text := range textLines(r.s) {
			got += fmt.Sprintf("%d%s ", line, text)
		}
		if got != r.want {
			t.Errorf("the lines of %q are %q", r.s, got)
		}
	}
	for line, text := range textLines("\na\nb") {
		if line != 1 || text != "a" {
			t.Errorf("the first one is %q at %d", text, line)
		}
		break
	}
}
