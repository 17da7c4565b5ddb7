package kseg_test

import (
	"cmp"
	"fmt"
	"math"
	"reflect"
	"slices"
	"testing"

	"curtilage/api"
	"curtilage/codec"
	"curtilage/kseg"
	"curtilage/obj"
	"curtilage/perm"
	"curtilage/tree"
)

// The document's numbers, the greatest word, and the ids of the tests' Roots and of the thread that calls.
const (
	topId    = 1 << 61
	topQuota = 4096
	topLinks = 64
	topRoot  = 1024
	topWords = 65536
	topVa    = 1 << 20
	topMaps  = 16
	pageLen  = 16
	top      = math.MaxUint64
	root     = 1
	self     = 50
)

// lab is a label of a text.
func lab(text string) api.Label {
	l, err := codec.Read(text)
	if err != api.OK {
		panic(text)
	}
	return l
}

// thing is an object of a kind with nothing in it.
func thing(kind int, id uint64, quota int, label string) api.Object {
	return api.Object{Id: id, Kind: kind, Quota: quota, Label: lab(label)}
}

// box is a container.
func box(id uint64, quota int, label string, links ...uint64) api.Object {
	o := thing(api.KdContainer, id, quota, label)
	o.Links = slices.Sorted(slices.Values(links))
	return o
}

// words is a segment of so many words, all unlike each other and all others'.
func words(id uint64, quota, n int, label string) api.Object {
	o := thing(api.KdSegment, id, quota, label)
	for at := range n {
		o.Data = append(o.Data, id<<40+uint64(at)<<20+7)
	}
	return o
}

// space is an address space of maps, of each of which the first page and how many pages it has are told.
func space(id uint64, label string, at ...int) api.Object {
	o := thing(api.KdSpace, id, 1, label)
	for n := 0; n < len(at); n += 2 {
		o.Maps = append(o.Maps, api.Map{Va: at[n], N: at[n+1], Cont: id + 300, Seg: id + 400, Off: n + 1, Write: n%4 == 0})
	}
	return o
}

// fixed is an object that is.
func fixed(o api.Object) api.Object {
	o.Fixed = true
	return o
}

// thread is one of a label and a clearance, with numbers of its own, label registers, and unlike words in all that calls have nothing to do with.
func thread(id uint64, label, clear string, labs ...string) api.Object {
	o := thing(api.KdThread, id, 1, label)
	o.Thread = api.Thread{Clear: lab(clear), Pc: 77, Space: api.Ref{Cont: 71, Id: 72}, Handler: 73, Vector: 74, Alerts: []uint64{75, 76}}
	o.Thread.Span = api.Span{Lo: id << 20, Hi: (id + 1) << 20}
	for n := range o.Thread.Regs {
		o.Thread.Regs[n] = uint64(n)<<40 + 99
	}
	for at, text := range labs {
		o.Thread.Labs[at] = lab(text)
	}
	return o
}

// world is one of objects, of which the first one is the Root, however they stand.
func world(objects ...api.Object) api.World {
	w := api.World{Time: 9, Key: 5, Root: objects[0].Id, Objects: deep(objects)}
	slices.SortFunc(w.Objects, byId)
	return w
}

// byId is the order of objects.
func byId(a, b api.Object) int { return cmp.Compare(a.Id, b.Id) }

// of is the object of an id in the world's own memory, nil if there is none.
func of(w api.World, id uint64) *api.Object {
	for at := range w.Objects {
		if w.Objects[at].Id == id {
			return &w.Objects[at]
		}
	}
	return nil
}

// with is a world in which something is done to one object.
func with(w api.World, id uint64, does func(*api.Object)) api.World {
	w = deep(w)
	does(of(w, id))
	return w
}

// laid is a world with an object more, in a container.
func laid(w api.World, d uint64, o api.Object) api.World {
	w = with(w, d, func(in *api.Object) {
		in.Links = append(in.Links, o.Id)
		slices.Sort(in.Links)
	})
	w.Objects = append(w.Objects, deep(o))
	slices.SortFunc(w.Objects, byId)
	return w
}

// idsOf are those of a world's objects.
func idsOf(w api.World) []uint64 {
	var out []uint64
	for _, o := range w.Objects {
		out = append(out, o.Id)
	}
	return out
}

// deed is a call of a number, with its arguments.
type deed struct {
	n int
	a api.Args
}

// deedOf is a call with its first arguments; the others are words that it has nothing to do with.
func deedOf(n int, args ...uint64) deed {
	d := deed{n: n}
	for at := range d.a {
		d.a[at] = top - uint64(at)
	}
	copy(d.a[:], args)
	return d
}

// The calls, with their arguments.
func size(d, s uint64) deed                { return deedOf(25, d, s) }
func resize(d, s, n uint64) deed           { return deedOf(26, d, s, n) }
func get(d, s, i uint64) deed              { return deedOf(27, d, s, i) }
func put(d, s, i, v uint64) deed           { return deedOf(28, d, s, i, v) }
func copies(d, s, e, k, quota uint64) deed { return deedOf(29, d, s, e, k, quota) }
func maps(d, x, va, e, s, p uint64) deed   { return deedOf(30, d, x, va, e, s, p) }
func unmap(d, x, va uint64) deed           { return deedOf(31, d, x, va) }

// pagesOf is the word that tells CaMap from which page of the segment on, how many, and, by 1, that they are to be written.
func pagesOf(off, n, write uint64) uint64 { return off<<32 + n<<1 + write }

// names are what these calls are called, by their numbers.
func names() map[int]string {
	return map[int]string{25: "CaSize", 26: "CaResize", 27: "CaGet", 28: "CaPut", 29: "CaCopy", 30: "CaMap", 31: "CaUnmap"}
}

// String tells a call.
func (d deed) String() string { return fmt.Sprintf("%s%v", names()[d.n], d.a) }

// levelOf is a category's level, 1 (2) where the label says nothing.
func levelOf(l api.Label, cat uint64) int {
	for _, p := range l {
		if p.Cat == cat {
			return p.Lev
		}
	}
	return api.Lev1
}

// raised is a level, ownership above all.
func raised(lev int) int {
	if lev == api.Star {
		return api.Above
	}
	return lev
}

// all tells whether something holds of the levels of each category that one of two labels has.
func all(a, b api.Label, holds func(int, int) bool) bool {
	for _, p := range slices.Concat(a, b) {
		if !holds(levelOf(a, p.Cat), levelOf(b, p.Cat)) {
			return false
		}
	}
	return true
}

// atMost tells whether a label is at most another one.
func atMost(a, b api.Label) bool { return all(a, b, func(x, y int) bool { return x <= y }) }

// sees tells whether a thread may see a thing that is no thread, by chapter 17's words.
func sees(t, o api.Object) bool {
	return all(t.Label, o.Label, func(x, y int) bool { return y <= raised(x) })
}

// changes tells whether a thread may change a thing that is no thread.
func changes(t, o api.Object) bool { return sees(t, o) && atMost(t.Label, o.Label) }

// mayLie tells whether what has a label may lie in a container, by chapter 3's words of Place.
func mayLie(d, o api.Label) bool {
	return all(d, o, func(x, y int) bool { return x <= max(raised(y), api.Lev1) })
}

// mayMake tells whether a thread may make a thing of a label.
func mayMake(t api.Object, l api.Label) bool {
	owns := slices.ContainsFunc(l, func(p api.Pair) bool { return p.Lev == api.Star })
	return !owns && atMost(t.Label, l) && atMost(l, t.Thread.Clear)
}

// room is how many pages a container has left.
func room(w api.World, d api.Object) int {
	left := d.Quota - 1
	for _, id := range d.Links {
		left -= of(w, id).Quota
	}
	return left
}

// wrong is something that is wrong with a call: what, in a word, and the error that the chapter has for it.
type wrong struct {
	what string
	err  api.Errno
}

// asking is a call by a thread of a world, and what is wrong with it, in the chapter's order.
type asking struct {
	world  api.World
	caller api.Object
	deed
	wrongs []wrong
}

// unless notes that something is wrong, unless something holds.
func (q *asking) unless(holds bool, what string, err api.Errno) {
	if !holds {
		q.wrongs = append(q.wrongs, wrong{what, err})
	}
}

// dir notes what is wrong with a container.
func (q *asking) dir(id uint64, write bool) *api.Object {
	d := of(q.world, id)
	if d == nil || d.Kind != api.KdContainer {
		q.unless(false, "no container", api.ErrName)
		return nil
	}
	q.unless(sees(q.caller, *d), "hidden", api.ErrName)
	q.unless(!write || changes(q.caller, *d), "not to write", api.ErrLabel)
	return d
}

// named notes what is wrong with what the first two arguments name, which is to be of a kind, and to be seen or changed; nil, if it is none of the kind.
func (q *asking) named(kind int, write bool) *api.Object {
	d := q.dir(q.a[0], false)
	if d == nil || !slices.Contains(d.Links, q.a[1]) {
		q.unless(false, "not there", api.ErrName)
		return nil
	}
	o := of(q.world, q.a[1])
	if o.Kind != kind {
		q.unless(false, "kind", api.ErrKind)
		return nil
	}
	q.unless(sees(q.caller, *o), "not to see", api.ErrLabel)
	q.unless(!write || changes(q.caller, *o), "not to change", api.ErrLabel)
	return o
}

// holdsWords tells whether a Quota that can be has room for so many words.
func holdsWords(quota int, n uint64) bool { return n <= uint64(quota-1)*pageLen }

// tells is CaSize and CaGet.
func (q *asking) tells() (api.World, uint64) {
	o := q.named(api.KdSegment, false)
	if o == nil {
		return q.world, 0
	}
	n, at := uint64(len(o.Data)), q.a[2]
	if q.n == 25 {
		return q.world, n
	}
	if at >= n {
		q.unless(false, "behind the last word", api.ErrRange)
		return q.world, 0
	}
	return q.world, o.Data[at]
}

// alters is CaPut and CaResize.
func (q *asking) alters() (api.World, uint64) {
	o := q.named(api.KdSegment, true)
	if o == nil {
		return q.world, 0
	}
	n := q.a[2]
	if q.n == 28 {
		q.unless(n < uint64(len(o.Data)), "behind the last word", api.ErrRange)
	} else {
		q.unless(n <= topWords, "far", api.ErrArg)
		q.unless(holdsWords(o.Quota, n), "no room for words", api.ErrQuota)
	}
	if len(q.wrongs) > 0 {
		return q.world, 0
	}
	return with(q.world, o.Id, func(o *api.Object) {
		if q.n == 28 {
			o.Data[n] = q.a[3]
			return
		}
		o.Data = append(o.Data, make([]uint64, n)...)[:n]
	}), 0
}

// makes is CaCopy.
func (q *asking) makes() (api.World, uint64) {
	e, k, quota := q.a[2], q.a[3], q.a[4]
	if k > 3 {
		q.unless(false, "register", api.ErrArg)
		return q.world, 0
	}
	made := api.Object{Kind: api.KdSegment, Label: q.caller.Thread.Labs[k], Quota: int(min(quota, 9999))}
	o, d := q.named(api.KdSegment, false), q.dir(e, true)
	q.unless(mayMake(q.caller, made.Label), "label", api.ErrLabel)
	q.unless(quota >= 1 && (o == nil || quota > topQuota || holdsWords(made.Quota, uint64(len(o.Data)))), "no room for words", api.ErrQuota)
	q.unless(quota <= topQuota, "far", api.ErrArg)
	span := q.caller.Thread.Span
	q.unless(span.Lo < span.Hi, "spent", api.ErrSerial)
	if d != nil {
		q.unless(mayLie(d.Label, made.Label), "place", api.ErrLabel)
		q.unless(len(d.Links) < topLinks, "full", api.ErrFull)
		q.unless(made.Quota <= room(q.world, *d), "room", api.ErrQuota)
	}
	if len(q.wrongs) > 0 {
		return q.world, 0
	}
	made.Id, made.Data = perm.Name(q.world.Key, span.Lo), o.Data
	return laid(with(q.world, q.caller.Id, func(t *api.Object) { t.Thread.Span.Lo++ }), e, made), made.Id
}

// asked is the map that CaMap asks for, and whether it can be.
func (q *asking) asked() (api.Map, bool) {
	va, p := q.a[2], q.a[5]
	n, off := p/2%(1<<31), p/(1<<32)
	if va >= topVa || n < 1 || off >= topVa || va+n > topVa || off+n > topVa {
		return api.Map{}, false
	}
	return api.Map{Va: int(va), N: int(n), Cont: q.a[3], Seg: q.a[4], Off: int(off), Write: p%2 == 1}, true
}

// mapsIn is CaMap and CaUnmap.
func (q *asking) mapsIn() (api.World, uint64) {
	o := q.named(api.KdSpace, true)
	if o == nil {
		return q.world, 0
	}
	left := o.Maps
	if q.n == 31 {
		left = slices.DeleteFunc(slices.Clone(o.Maps), func(m api.Map) bool { return uint64(m.Va) == q.a[2] })
		q.unless(len(left) < len(o.Maps), "no such map", api.ErrName)
	} else {
		m, fit := q.asked()
		q.unless(fit, "no map", api.ErrArg)
		q.unless(!slices.ContainsFunc(o.Maps, func(x api.Map) bool { return x.Va < m.Va+m.N && m.Va < x.Va+x.N }), "there", api.ErrThere)
		q.unless(len(o.Maps) < topMaps, "full", api.ErrFull)
		left = append(slices.Clone(o.Maps), m)
		slices.SortFunc(left, func(a, b api.Map) int { return cmp.Compare(a.Va, b.Va) })
	}
	return with(q.world, o.Id, func(o *api.Object) { o.Maps = left }), 0
}

// outcome is what a call comes to by the chapter's words. Beside something wrong the world is as it was, the value 0.
func outcome(w api.World, id uint64, d deed) (api.World, uint64, []wrong) {
	q := &asking{world: w, caller: *of(w, id), deed: d}
	does := map[int]func() (api.World, uint64){
		25: q.tells, 26: q.alters, 27: q.tells, 28: q.alters, 29: q.makes, 30: q.mapsIn, 31: q.mapsIn,
	}
	behind, value := does[d.n]()
	if len(q.wrongs) > 0 {
		return w, 0, q.wrongs
	}
	return behind, value, nil
}

// hold holds a call against the chapter's words, and tells the world behind it, its value and its error.
func hold(t *testing.T, w api.World, id uint64, d deed) (api.World, uint64, api.Errno) {
	t.Helper()
	want, wantValue, wrongs := outcome(w, id, d)
	wantErr := api.OK
	if len(wrongs) > 0 {
		wantErr = wrongs[0].err
	}
	before := deep(w)
	behind, value, err, ok := kseg.Do(w, id, d.n, d.a)
	if !ok || err != wantErr || value != wantValue {
		t.Errorf("%v by %d: value %d, error %d, %v, not %d, %d, true; %v", d, id, value, err, ok, wantValue, wantErr, wrongs)
	}
	if !obj.Same(behind, want) {
		t.Errorf("%v by %d: error %d, another world than the chapter says", d, id, err)
	}
	if !reflect.DeepEqual(w, before) {
		t.Errorf("%v by %d changes what it was given", d, id)
	}
	if !tree.Fit(behind) {
		t.Errorf("%v by %d: the world is not whole any more", d, id)
	}
	return behind, value, err
}

// within holds P21.4: nothing is another one but the caller's numbers, by a copy, what is new and its container, and what the caller may change.
func within(t *testing.T, w, behind api.World, id uint64, d deed) {
	t.Helper()
	caller := *of(w, id)
	for _, o := range w.Objects {
		now := of(behind, o.Id)
		if now == nil {
			t.Errorf("%v by %d: %d is gone", d, id, o.Id)
			continue
		}
		if obj.SameOne(o, *now) {
			continue
		}
		was := deep(*now)
		switch {
		case o.Id == id && d.n == api.CaCopy:
			was.Thread.Span = o.Thread.Span
		case o.Id == d.a[2] && d.n == api.CaCopy && changes(caller, o):
			was.Links = o.Links
		case o.Kind == api.KdSegment && o.Id == d.a[1] && changes(caller, o):
			was.Data = o.Data
		case o.Kind == api.KdSpace && o.Id == d.a[1] && changes(caller, o):
			was.Maps = o.Maps
		}
		if !obj.SameOne(o, was) {
			t.Errorf("%v by %d: %d is another one", d, id, o.Id)
		}
	}
	if grown := len(behind.Objects) - len(w.Objects); grown > 1 || grown > 0 && d.n != api.CaCopy {
		t.Errorf("%v by %d: %d objects are new", d, id, grown)
	}
}

// lists visits each list of a value, from without to within; what the visitor puts in its place is gone through in its stead.
func lists(v reflect.Value, visit func(reflect.Value)) {
	switch v.Kind() {
	case reflect.Struct:
		for i := range v.NumField() {
			lists(v.Field(i), visit)
		}
	case reflect.Slice:
		visit(v)
		fallthrough
	case reflect.Array:
		if v.Type().Elem().Kind() == reflect.Uint64 {
			return
		}
		for i := range v.Len() {
			lists(v.Index(i), visit)
		}
	}
}

// deep is a copy that shares no memory; a list that is there, but empty, stays so.
func deep[T any](x T) T {
	lists(reflect.ValueOf(&x).Elem(), func(l reflect.Value) {
		if !l.IsNil() {
			own := reflect.MakeSlice(l.Type(), l.Len(), l.Len())
			reflect.Copy(own, l)
			l.Set(own)
		}
	})
	return x
}

// roomy makes each list of a value one that has room for more behind its end, and each that is none an empty one.
func roomy[T any](x *T) {
	lists(reflect.ValueOf(x).Elem(), func(l reflect.Value) {
		own := reflect.MakeSlice(l.Type(), l.Len(), l.Len()+3)
		reflect.Copy(own, l)
		l.Set(own)
	})
}

// emptyLists counts the lists of a value that are there, but empty.
func emptyLists(x any) int {
	count := 0
	lists(reflect.ValueOf(x), func(l reflect.Value) {
		if l.Len() == 0 && !l.IsNil() {
			count++
		}
	})
	return count
}

// stretch is where a list stands in memory, with all that it has room for.
type stretch struct {
	from, to uintptr
	told     bool
}

// stretches are where the lists of a value stand.
func stretches(x any, told bool) []stretch {
	var out []stretch
	lists(reflect.ValueOf(x), func(l reflect.Value) {
		if l.Cap() > 0 {
			out = append(out, stretch{l.Pointer(), l.Pointer() + uintptr(l.Cap())*l.Type().Elem().Size(), told})
		}
	})
	return out
}

// overlap tells whether a list that was told stands where another one does. What was given may share with itself.
func overlap(all []stretch) bool {
	slices.SortFunc(all, func(a, b stretch) int { return cmp.Compare(a.from, b.from) })
	var endGiven, endTold uintptr
	for _, s := range all {
		if s.from < endTold || s.told && s.from < endGiven {
			return true
		}
		if s.told {
			endTold = max(endTold, s.to)
		} else {
			endGiven = max(endGiven, s.to)
		}
	}
	return false
}
