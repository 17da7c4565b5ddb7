package mem

import (
	"cmp"
	"reflect"
	"slices"
	"testing"

	"curtilage/api"
	"curtilage/obj"
)

// The document's numbers, the ids of the tests' Roots and threads, and the two categories of their labels.
const (
	topId     = 1 << 61
	pageLen   = 16
	topVa     = 1 << 20
	topAddr   = pageLen * topVa
	root      = 1
	greatRoot = 77
	byId      = topId - 5
	catA      = 7
	catB      = 9
)

// two is a label of the tests' two categories; what is at 1 goes without saying.
func two(a, b int) api.Label {
	var out api.Label
	if a != api.Lev1 {
		out = append(out, api.Pair{Cat: catA, Lev: a})
	}
	if b != api.Lev1 {
		out = append(out, api.Pair{Cat: catB, Lev: b})
	}
	return out
}

// one is a label of the first category alone.
func one(lev int) api.Label { return two(lev, api.Lev1) }

// labelsFrom are all labels of the two categories with levels from one on, up to 3.
func labelsFrom(low int) []api.Label {
	var out []api.Label
	for a := low; a <= api.Lev3; a++ {
		for b := low; b <= api.Lev3; b++ {
			out = append(out, two(a, b))
		}
	}
	return out
}

// box is a container.
func box(id uint64, quota int, l api.Label, links ...uint64) api.Object {
	return api.Object{Id: id, Kind: api.KdContainer, Label: l, Quota: quota, Links: slices.Sorted(slices.Values(links))}
}

// wordOf is what stands in a segment of these tests at first: unlike words all over.
func wordOf(id uint64, at int) uint64 { return 100000*id + uint64(at) + 1 }

// segment is one of so many words.
func segment(id uint64, l api.Label, words int) api.Object {
	o := api.Object{Id: id, Kind: api.KdSegment, Label: l, Quota: 1 + (words+pageLen-1)/pageLen}
	for at := range words {
		o.Data = append(o.Data, wordOf(id, at))
	}
	return o
}

// space is an address space.
func space(id uint64, l api.Label, maps ...api.Map) api.Object {
	return api.Object{Id: id, Kind: api.KdSpace, Label: l, Quota: 1, Maps: maps}
}

// fixed is an object that is.
func fixed(o api.Object) api.Object {
	o.Fixed = true
	return o
}

// mapOf is a map of n pages, from va on, of the segment that lies in d, from its page off on.
func mapOf(va, n int, d, id uint64, off int) api.Map {
	return api.Map{Va: va, N: n, Cont: d, Seg: id, Off: off}
}

// open is a map that may be written.
func open(m api.Map) api.Map {
	m.Write = true
	return m
}

// ref is a name.
func ref(d, id uint64) api.Ref { return api.Ref{Cont: d, Id: id} }

// thread is a thread of a label and an address space, that is cleared for all that is not less than its label.
func thread(id uint64, l api.Label, in api.Ref) api.Object {
	clear := deep(l)
	for at := range clear {
		clear[at].Lev = api.Lev3
	}
	return api.Object{Id: id, Kind: api.KdThread, Label: l, Quota: 1, Thread: api.Thread{Clear: clear, Space: in}}
}

// by is a thread of a label and an address space that is of no world.
func by(l api.Label, in api.Ref) api.Object { return thread(byId, l, in) }

// world is one of objects, of which the first one is the Root, however they stand.
func world(objects ...api.Object) api.World {
	w := api.World{Time: 9, Key: 5, Root: objects[0].Id, Objects: deep(objects)}
	slices.SortFunc(w.Objects, func(a, b api.Object) int { return cmp.Compare(a.Id, b.Id) })
	return w
}

// of is the object of an id in the world's own memory, nil if there is none.
func of(w api.World, id uint64) *api.Object {
	for at := range w.Objects {
		if w.Objects[at].Id == id {
			return &w.Objects[at]
		}
	}
	return nil
}

// levelOf is a category's level, 1 (2) where the label says nothing.
func levelOf(l api.Label, cat uint64) int {
	for _, p := range l {
		if p.Cat == cat {
			return p.Lev
		}
	}
	return api.Lev1
}

// raised is a level, ownership as above all.
func raised(lev int) int {
	if lev == api.Star {
		return api.Above
	}
	return lev
}

// maySee tells whether a thread may see what is no thread, by chapter 17's words.
func maySee(t, o api.Object) bool {
	for _, p := range slices.Concat(t.Label, o.Label) {
		if levelOf(o.Label, p.Cat) > raised(levelOf(t.Label, p.Cat)) {
			return false
		}
	}
	return true
}

// mayWrite tells whether a thread's Label is at most a thing's.
func mayWrite(t, o api.Object) bool {
	for _, p := range slices.Concat(t.Label, o.Label) {
		if levelOf(t.Label, p.Cat) > levelOf(o.Label, p.Cat) {
			return false
		}
	}
	return true
}

// wrong is an error, and of what: of the Space, of the page, of the map, or of the word.
type wrong struct {
	what string
	err  api.Errno
}

// seeErrs are all errors of reach.See that apply, in chapter 17's order. A thread is never of the kind that is asked for, so that how others see one is of no account.
func seeErrs(what string, w api.World, t api.Object, r api.Ref, kind int) []wrong {
	var out []wrong
	d, o := of(w, r.Cont), of(w, r.Id)
	if d == nil || d.Kind != api.KdContainer || !maySee(t, *d) || !slices.Contains(d.Links, r.Id) {
		out = append(out, wrong{what, api.ErrName})
	}
	if o != nil && o.Kind != kind {
		out = append(out, wrong{what, api.ErrKind})
	}
	if o != nil && !maySee(t, *o) {
		out = append(out, wrong{what, api.ErrLabel})
	}
	return out
}

// mapOfAddr is the map that has an address, and which word of the map's segment that is; nil, if there is none.
func mapOfAddr(o *api.Object, addr uint64) (*api.Map, uint64) {
	if o == nil || addr >= topAddr {
		return nil, 0
	}
	for at := range o.Maps {
		m := &o.Maps[at]
		first, end := uint64(m.Va*pageLen), uint64((m.Va+m.N)*pageLen)
		if addr >= first && addr < end {
			return m, uint64(m.Off*pageLen) + addr - first
		}
	}
	return nil, 0
}

// spot is what the chapter says of an address: all errors that apply, in its order, and, if there are none, what Walk tells.
type spot struct {
	errs  []wrong
	id    uint64
	at    uint64
	write bool
}

// err is the first error that applies.
func (s spot) err() api.Errno {
	if len(s.errs) > 0 {
		return s.errs[0].err
	}
	return api.OK
}

// walkOf is Walk by the chapter's words.
func walkOf(w api.World, t api.Object, addr uint64) spot {
	s := spot{errs: seeErrs("space", w, t, t.Thread.Space, api.KdSpace)}
	m, at := mapOfAddr(of(w, t.Thread.Space.Id), addr)
	if m == nil {
		s.errs = append(s.errs, wrong{"page", api.ErrRange})
		return s
	}
	s.errs = append(s.errs, seeErrs("map", w, t, ref(m.Cont, m.Seg), api.KdSegment)...)
	if o := of(w, m.Seg); o == nil || at >= uint64(len(o.Data)) {
		s.errs = append(s.errs, wrong{"word", api.ErrRange})
	}
	if len(s.errs) == 0 {
		s.id, s.at, s.write = m.Seg, at, m.Write
	}
	return s
}

// stores tells whether Store writes, by the chapter's words.
func (s spot) stores(w api.World, t api.Object) bool {
	return len(s.errs) == 0 && s.write && mayWrite(t, *of(w, s.id))
}

// holdWalk holds Walk against the chapter's words, and tells these.
func holdWalk(t *testing.T, w api.World, th api.Object, addr uint64) spot {
	t.Helper()
	want := walkOf(w, th, addr)
	o, at, write, err := Walk(w, th, addr)
	switch {
	case err != want.err():
		t.Errorf("Walk of %d in %v by %v: error %d, not %d", addr, th.Thread.Space, th.Label, err, want.err())
	case at != want.at || write != want.write:
		t.Errorf("Walk of %d in %v by %v, error %d: word %d, to write %v, not %d, %v", addr, th.Thread.Space, th.Label, err, at, write, want.at, want.write)
	case err != api.OK && !reflect.DeepEqual(o, api.Object{}):
		t.Errorf("Walk of %d in %v by %v tells something beside error %d", addr, th.Thread.Space, th.Label, err)
	case err == api.OK && !obj.SameOne(o, *of(w, want.id)):
		t.Errorf("Walk of %d in %v by %v: object %d, not %d, or not as it is", addr, th.Thread.Space, th.Label, o.Id, want.id)
	}
	return want
}

// holdLoad holds Load against the chapter's words.
func holdLoad(t *testing.T, w api.World, th api.Object, addr uint64, want spot) {
	t.Helper()
	word, ok := Load(w, th, addr)
	var wantWord uint64
	if want.err() == api.OK {
		wantWord = of(w, want.id).Data[want.at]
	}
	if ok != (want.err() == api.OK) || word != wantWord {
		t.Errorf("Load of %d in %v by %v: %d, %v, not %d, %v", addr, th.Thread.Space, th.Label, word, ok, wantWord, want.err() == api.OK)
	}
}

// holdStore holds Store against the chapter's words, and tells the world behind it. That nothing else is another one is held by putting back what was there.
func holdStore(t *testing.T, w api.World, th api.Object, addr, v uint64, want spot) api.World {
	t.Helper()
	behind, ok := Store(w, th, addr, v)
	if ok != want.stores(w, th) {
		t.Errorf("Store to %d in %v by %v: %v", addr, th.Thread.Space, th.Label, ok)
		return behind
	}
	if !ok {
		if !obj.Same(behind, w) {
			t.Errorf("Store to %d in %v by %v does something beside false", addr, th.Thread.Space, th.Label)
		}
		return behind
	}
	now := of(behind, want.id)
	if now == nil || want.at >= uint64(len(now.Data)) || now.Data[want.at] != v {
		t.Errorf("Store to %d in %v by %v: word %d of %d is another one than %d", addr, th.Thread.Space, th.Label, want.at, want.id, v)
		return behind
	}
	now.Data[want.at] = of(w, want.id).Data[want.at]
	if !obj.Same(behind, w) {
		t.Errorf("Store to %d in %v by %v does more", addr, th.Thread.Space, th.Label)
	}
	now.Data[want.at] = v
	return behind
}

// hold holds all three calls against the chapter's words, and tells these.
func hold(t *testing.T, w api.World, th api.Object, addr uint64) spot {
	t.Helper()
	want := holdWalk(t, w, th, addr)
	holdLoad(t, w, th, addr, want)
	holdStore(t, w, th, addr, addr+3, want)
	return want
}

// lists visits each list of a value, from without to within; what the visitor puts in its place is gone through in its stead.
func lists(v reflect.Value, visit func(reflect.Value)) {
	switch v.Kind() {
	case reflect.Struct:
		for i := range v.NumField() {
			lists(v.Field(i), visit)
		}
	case reflect.Slice:
		visit(v)
		fallthrough
	case reflect.Array:
		if v.Type().Elem().Kind() == reflect.Uint64 {
			return
		}
		for i := range v.Len() {
			lists(v.Index(i), visit)
		}
	}
}

// deep is a copy that shares no memory; a list that is there, but empty, stays so.
func deep[T any](x T) T {
	lists(reflect.ValueOf(&x).Elem(), func(l reflect.Value) {
		if !l.IsNil() {
			own := reflect.MakeSlice(l.Type(), l.Len(), l.Len())
			reflect.Copy(own, l)
			l.Set(own)
		}
	})
	return x
}

// roomy makes each list of a value one that has room for more behind its end, and each that is none an empty one.
func roomy[T any](x *T) {
	lists(reflect.ValueOf(x).Elem(), func(l reflect.Value) {
		own := reflect.MakeSlice(l.Type(), l.Len(), l.Len()+3)
		reflect.Copy(own, l)
		l.Set(own)
	})
}

// emptyLists counts the lists of a value that are there, but empty.
func emptyLists(x any) int {
	count := 0
	lists(reflect.ValueOf(x), func(l reflect.Value) {
		if l.Len() == 0 && !l.IsNil() {
			count++
		}
	})
	return count
}

// stretch is where a list stands in memory, with all that it has room for.
type stretch struct {
	from, to uintptr
	told     bool
}

// stretches are where the lists of a value stand.
func stretches(x any, told bool) []stretch {
	var out []stretch
	lists(reflect.ValueOf(x), func(l reflect.Value) {
		if l.Cap() > 0 {
			out = append(out, stretch{l.Pointer(), l.Pointer() + uintptr(l.Cap())*l.Type().Elem().Size(), told})
		}
	})
	return out
}

// shares tells whether a list that was told stands where another one does. What was given may share with itself.
func shares(all []stretch) bool {
	slices.SortFunc(all, func(a, b stretch) int { return cmp.Compare(a.from, b.from) })
	var endGiven, endTold uintptr
	for _, s := range all {
		if s.from < endTold || s.told && s.from < endGiven {
			return true
		}
		if s.told {
			endTold = max(endTold, s.to)
		} else {
			endGiven = max(endGiven, s.to)
		}
	}
	return false
}
