package cpu

import (
	"cmp"
	"math"
	"reflect"
	"slices"
	"strings"
	"testing"

	"curtilage/api"
	"curtilage/asm"
	"curtilage/obj"
)

// The document's numbers, the greatest word, the ids of the tests' Roots and of the thread whose steps are looked at, and the two categories of their labels.
const (
	topId   = 1 << 61
	pageLen = 16
	topVa   = 1 << 20
	topAddr = pageLen * topVa
	numRegs = 16
	top     = math.MaxUint64
	root    = 1
	self    = 50
	catA    = 7
	catB    = 9
)

// two is a label of the tests' two categories; what is at 1 goes without saying.
func two(a, b int) api.Label {
	var out api.Label
	if a != api.Lev1 {
		out = append(out, api.Pair{Cat: catA, Lev: a})
	}
	if b != api.Lev1 {
		out = append(out, api.Pair{Cat: catB, Lev: b})
	}
	return out
}

// one is a label of the first category alone.
func one(lev int) api.Label { return two(lev, api.Lev1) }

// The labels of the written-out rows: of no pairs; one that owns the first category; at 3 and at 0 in it.
func plain() api.Label   { return nil }
func owner() api.Label   { return one(api.Star) }
func secret() api.Label  { return one(api.Lev3) }
func trusted() api.Label { return one(api.Lev0) }

// box is a container.
func box(id uint64, quota int, l api.Label, links ...uint64) api.Object {
	return api.Object{Id: id, Kind: api.KdContainer, Label: l, Quota: quota, Links: slices.Sorted(slices.Values(links))}
}

// wordOf is what stands in a segment of these tests at first: unlike words all over that are no instructions.
func wordOf(id uint64, at int) uint64 { return id<<32 + uint64(at)<<8 + 0xff }

// segment is one of so many words.
func segment(id uint64, l api.Label, words int) api.Object {
	o := api.Object{Id: id, Kind: api.KdSegment, Label: l, Quota: 1 + (words+pageLen-1)/pageLen}
	for at := range words {
		o.Data = append(o.Data, wordOf(id, at))
	}
	return o
}

// space is an address space.
func space(id uint64, l api.Label, maps ...api.Map) api.Object {
	return api.Object{Id: id, Kind: api.KdSpace, Label: l, Quota: 1, Maps: maps}
}

// mapOf is a map of n pages, from va on, of the segment that lies in d, from its page off on.
func mapOf(va, n int, d, id uint64, off int) api.Map {
	return api.Map{Va: va, N: n, Cont: d, Seg: id, Off: off}
}

// open is a map that may be written.
func open(m api.Map) api.Map {
	m.Write = true
	return m
}

// page is the address of a page's word.
func page(n, word int) uint64 { return uint64(n*pageLen + word) }

// ref is a name.
func ref(d, id uint64) api.Ref { return api.Ref{Cont: d, Id: id} }

// thread is a thread of a label and an address space, that is cleared for all that is not less than its label, and has unlike words in all that instructions have nothing to do with.
func thread(id uint64, l api.Label, in api.Ref) api.Object {
	clear := deep(l)
	for at := range clear {
		clear[at].Lev = api.Lev3
	}
	o := api.Object{Id: id, Kind: api.KdThread, Label: l, Quota: 3, Thread: api.Thread{Clear: clear, Space: in}}
	o.Thread.Span = api.Span{Lo: id << 20, Hi: (id + 1) << 20}
	o.Thread.Labs = [4]api.Label{one(api.Star), nil, two(api.Lev3, api.Lev2), secret()}
	for n := range numRegs {
		o.Thread.Regs[n] = regOf(n)
	}
	return o
}

// regOf is what stands in a register of these tests at first: unlike words that are no addresses, with both halves.
func regOf(n int) uint64 { return 0x70000000_80000001 + uint64(n)*0x00010000_00000010 }

// world is one of objects, of which the first one is the Root, however they stand.
func world(objects ...api.Object) api.World {
	w := api.World{Time: 9, Key: 5, Root: objects[0].Id, Objects: deep(objects)}
	slices.SortFunc(w.Objects, func(a, b api.Object) int { return cmp.Compare(a.Id, b.Id) })
	return w
}

// of is the object of an id in the world's own memory, nil if there is none.
func of(w api.World, id uint64) *api.Object {
	for at := range w.Objects {
		if w.Objects[at].Id == id {
			return &w.Objects[at]
		}
	}
	return nil
}

// changed is a world with another object in the place of one; only the list of objects is new.
func changed(w api.World, id uint64, does func(*api.Object)) api.World {
	w.Objects = slices.Clone(w.Objects)
	does(of(w, id))
	return w
}

// with is a world with a thread that is another one.
func with(w api.World, id uint64, does func(*api.Thread)) api.World {
	return changed(w, id, func(o *api.Object) { does(&o.Thread) })
}

// words are a program's, by chapter 10, of a text with a ; between its lines.
func words(t *testing.T, program string) []uint64 {
	t.Helper()
	text := ""
	for line := range strings.SplitSeq(program, ";") {
		text += strings.TrimSpace(line) + "\n"
	}
	lines, at, err := asm.Read(text)
	if err != api.OK {
		t.Fatalf("line %d of %q: error %d", at, program, err)
	}
	out, at, err := asm.Put(lines)
	if err != api.OK {
		t.Fatalf("line %d of %q: error %d", at, program, err)
	}
	return out
}

// laid is a world in which words stand in a segment from a place on.
func laid(w api.World, id uint64, from int, words ...uint64) api.World {
	return changed(w, id, func(o *api.Object) {
		o.Data = slices.Clone(o.Data)
		copy(o.Data[from:], words)
	})
}

// levelOf is a category's level, 1 (2) where the label says nothing.
func levelOf(l api.Label, cat uint64) int {
	for _, p := range l {
		if p.Cat == cat {
			return p.Lev
		}
	}
	return api.Lev1
}

// maySee tells whether a thread may see what is no thread, by chapter 17's words.
func maySee(t, o api.Object) bool {
	for _, p := range slices.Concat(t.Label, o.Label) {
		lev := levelOf(t.Label, p.Cat)
		if lev != api.Star && levelOf(o.Label, p.Cat) > lev {
			return false
		}
	}
	return true
}

// mayWrite tells whether a thread's Label is at most a thing's.
func mayWrite(t, o api.Object) bool {
	for _, p := range slices.Concat(t.Label, o.Label) {
		if levelOf(t.Label, p.Cat) > levelOf(o.Label, p.Cat) {
			return false
		}
	}
	return true
}

// named is the object of a name, if it is of a kind, and the thread may see it; nil, if one of these is wrong.
func named(w api.World, t api.Object, r api.Ref, kind int) *api.Object {
	d, o := of(w, r.Cont), of(w, r.Id)
	if d == nil || o == nil || d.Kind != api.KdContainer || !slices.Contains(d.Links, r.Id) || o.Kind != kind {
		return nil
	}
	if !maySee(t, *d) || !maySee(t, *o) {
		return nil
	}
	return o
}

// spotOf is where an address of a thread lies, by chapter 18's words: the segment, and the word in it; nil, if nowhere; and whether the word may be written.
func spotOf(w api.World, t api.Object, addr uint64) (*api.Object, uint64, bool) {
	in := named(w, t, t.Thread.Space, api.KdSpace)
	if in == nil || addr >= topAddr {
		return nil, 0, false
	}
	for _, m := range in.Maps {
		first, end := page(m.Va, 0), page(m.Va+m.N, 0)
		if addr < first || addr >= end {
			continue
		}
		o, at := named(w, t, ref(m.Cont, m.Seg), api.KdSegment), page(m.Off, 0)+addr-first
		if o == nil || at >= uint64(len(o.Data)) {
			return nil, 0, false
		}
		return o, at, m.Write && mayWrite(t, *o)
	}
	return nil, 0, false
}

// opRow is all Ops in their order, each with the parts that it uses, as chapter 8 writes them.
const opRow = "halt: movi:ai movh:ai mov:ab add:abc sub:abc mul:abc div:abc rem:abc and:abc or:abc xor:abc shl:abc shr:abc addi:abi eq:abc ltu:abc lts:abc jmp:i jz:ai jnz:ai call:ai jr:a load:abi store:abi trap:i"

// deed is an instruction: what its Op is called, and its parts.
type deed struct {
	name    string
	a, b, c int
	imm     uint64
}

// masks are which bits of a word are an instruction's part.
func masks() map[rune]uint64 {
	return map[rune]uint64{'a': 0xf00, 'b': 0xf000, 'c': 0xf0000, 'i': 0xffffffff_00000000}
}

// deedOf is the instruction of a word, by chapter 8's words; false: it is none. The number is a word, with what is below 0 modulo 2^64.
func deedOf(w uint64) (deed, bool) {
	row := strings.Fields(opRow)
	if w&0xff >= uint64(len(row)) {
		return deed{}, false
	}
	name, shape, _ := strings.Cut(row[w&0xff], ":")
	used := uint64(0xff)
	for _, letter := range shape {
		used |= masks()[letter]
	}
	d := deed{name, int(w >> 8 & 15), int(w >> 12 & 15), int(w >> 16 & 15), w >> 32}
	if d.imm >= 1<<31 {
		d.imm -= 1 << 32
	}
	return d, w&^used == 0
}

// truth is 1, if something is so, else 0.
func truth(is bool) uint64 {
	if is {
		return 1
	}
	return 0
}

// valueOf is what register a becomes by an instruction, by this chapter's words and chapter 9's; false, if it stays, or comes from memory.
func valueOf(d deed, t api.Thread) (uint64, bool) {
	a, b, c := t.Regs[d.a], t.Regs[d.b], t.Regs[d.c]
	switch d.name {
	case "movi":
		return d.imm, true
	case "movh":
		return a%(1<<32) + d.imm<<32, true
	case "mov":
		return b, true
	case "addi":
		return b + d.imm, true
	case "call":
		return t.Pc + 1, true
	case "add":
		return b + c, true
	case "sub":
		return b - c, true
	case "mul":
		return b * c, true
	case "div":
		if c == 0 {
			return top, true
		}
		return b / c, true
	case "rem":
		if c == 0 {
			return b, true
		}
		return b % c, true
	case "and":
		return b & c, true
	case "or":
		return b | c, true
	case "xor":
		return b ^ c, true
	case "shl":
		return b << (c % 64), true
	case "shr":
		return b >> (c % 64), true
	case "eq":
		return truth(b == c), true
	case "ltu":
		return truth(b < c), true
	case "lts":
		return truth(int64(b) < int64(c)), true
	}
	return 0, false
}

// pcOf is where a thread goes on behind an instruction that is done.
func pcOf(d deed, t api.Thread) uint64 {
	a := t.Regs[d.a]
	switch {
	case d.name == "halt":
		return t.Pc
	case d.name == "jr":
		return a
	case d.name == "jmp", d.name == "call", d.name == "jz" && a == 0, d.name == "jnz" && a != 0:
		return t.Pc + 1 + d.imm
	}
	return t.Pc + 1
}

// faultOf is a fault by the chapter's words.
func faultOf(t api.Thread, why uint64) api.Thread {
	if t.Handler == 0 {
		t.State = 2
		return t
	}
	t.Regs[14], t.Regs[15], t.Pc, t.Handler = t.Pc, why, t.Handler, 0
	return t
}

// alertOf is an alert by itself by the chapter's words.
func alertOf(t api.Thread) (api.Thread, bool) {
	if len(t.Alerts) == 0 || t.Vector == 0 {
		return t, false
	}
	t.Regs[14], t.Regs[15], t.Pc, t.Vector = t.Pc, t.Alerts[0], t.Vector, 0
	t.Alerts = t.Alerts[1:]
	return t, true
}

// doneOf is a world and a thread behind an instruction by the chapter's words, the fault (0: none) and the call.
func doneOf(w api.World, o api.Object, d deed) (api.World, api.Thread, uint64, int) {
	t, call := o.Thread, -1
	addr := t.Regs[d.b] + d.imm
	seg, at, may := spotOf(w, o, addr)
	v, sets := valueOf(d, t)
	switch {
	case d.name == "load" && seg == nil:
		return w, t, 3, -1
	case d.name == "load":
		v, sets = seg.Data[at], true
	case d.name == "store" && (seg == nil || !may):
		return w, t, 4, -1
	case d.name == "store":
		w = laid(w, seg.Id, int(at), t.Regs[d.a])
	case d.name == "trap" && d.imm >= 1<<31:
		return w, t, 2, -1
	case d.name == "trap":
		call = int(d.imm)
	case d.name == "halt":
		t.State = 2
	}
	if sets {
		t.Regs[d.a] = v
	}
	t.Pc = pcOf(d, o.Thread)
	return w, t, 0, call
}

// event is what a step is by the chapter's words: "none", "alert", or an instruction's name, and of a fault a number from 1 to 4.
type event struct {
	what string
	why  uint64
}

// stepOf is Step by the chapter's words, and what kind of step it is. What it tells shares memory with w.
func stepOf(w api.World, id uint64) (api.World, int, event) {
	o := of(w, id)
	if o == nil || o.Kind != api.KdThread || o.Thread.State != 0 {
		return w, -1, event{"none", 0}
	}
	put := func(w api.World, t api.Thread) api.World { return with(w, id, func(now *api.Thread) { *now = t }) }
	if t, ok := alertOf(o.Thread); ok {
		return put(w, t), -1, event{"alert", 0}
	}
	seg, at, _ := spotOf(w, *o, o.Thread.Pc)
	if seg == nil {
		return put(w, faultOf(o.Thread, 1)), -1, event{"fetch", 1}
	}
	d, ok := deedOf(seg.Data[at])
	if !ok {
		return put(w, faultOf(o.Thread, 2)), -1, event{"code", 2}
	}
	w, t, why, call := doneOf(w, *o, d)
	if why > 0 {
		t = faultOf(t, why)
	}
	return put(w, t), call, event{d.name, why}
}

// hold holds Step against the chapter's words, and tells the world behind it, and what it was.
func hold(t *testing.T, w api.World, id uint64) (api.World, event) {
	t.Helper()
	want, wantCall, what := stepOf(w, id)
	behind, call := Step(w, id)
	if call != wantCall {
		t.Errorf("Step of %d (%v): call %d, not %d", id, what, call, wantCall)
	}
	if !obj.Same(behind, want) {
		t.Errorf("Step of %d (%v): another world than the chapter says", id, what)
		if now, should := of(behind, id), of(want, id); now != nil && should != nil {
			t.Errorf("the thread is\n%v, not\n%v", now.Thread, should.Thread)
		}
	}
	return behind, what
}

// lists visits each list of a value, from without to within; what the visitor puts in its place is gone through in its stead.
func lists(v reflect.Value, visit func(reflect.Value)) {
	switch v.Kind() {
	case reflect.Struct:
		for i := range v.NumField() {
			lists(v.Field(i), visit)
		}
	case reflect.Slice:
		visit(v)
		fallthrough
	case reflect.Array:
		if v.Type().Elem().Kind() == reflect.Uint64 {
			return
		}
		for i := range v.Len() {
			lists(v.Index(i), visit)
		}
	}
}

// deep is a copy that shares no memory; a list that is there, but empty, stays so.
func deep[T any](x T) T {
	lists(reflect.ValueOf(&x).Elem(), func(l reflect.Value) {
		if !l.IsNil() {
			own := reflect.MakeSlice(l.Type(), l.Len(), l.Len())
			reflect.Copy(own, l)
			l.Set(own)
		}
	})
	return x
}

// roomy makes each list of a value one that has room for more behind its end, and each that is none an empty one.
func roomy[T any](x *T) {
	lists(reflect.ValueOf(x).Elem(), func(l reflect.Value) {
		own := reflect.MakeSlice(l.Type(), l.Len(), l.Len()+3)
		reflect.Copy(own, l)
		l.Set(own)
	})
}

// emptyLists counts the lists of a value that are there, but empty.
func emptyLists(x any) int {
	count := 0
	lists(reflect.ValueOf(x), func(l reflect.Value) {
		if l.Len() == 0 && !l.IsNil() {
			count++
		}
	})
	return count
}

// stretch is where a list stands in memory, with all that it has room for.
type stretch struct {
	from, to uintptr
	told     bool
}

// stretches are where the lists of a value stand.
func stretches(x any, told bool) []stretch {
	var out []stretch
	lists(reflect.ValueOf(x), func(l reflect.Value) {
		if l.Cap() > 0 {
			out = append(out, stretch{l.Pointer(), l.Pointer() + uintptr(l.Cap())*l.Type().Elem().Size(), told})
		}
	})
	return out
}

// shares tells whether a list that was told stands where another one does. What was given may share with itself.
func shares(all []stretch) bool {
	slices.SortFunc(all, func(a, b stretch) int { return cmp.Compare(a.from, b.from) })
	var endGiven, endTold uintptr
	for _, s := range all {
		if s.from < endTold || s.told && s.from < endGiven {
			return true
		}
		if s.told {
			endTold = max(endTold, s.to)
		} else {
			endGiven = max(endGiven, s.to)
		}
	}
	return false
}
