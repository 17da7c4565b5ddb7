package kobj

import (
	"cmp"
	"fmt"
	"math"
	"reflect"
	"slices"
	"testing"

	"curtilage/api"
	"curtilage/codec"
	"curtilage/obj"
	"curtilage/perm"
	"curtilage/tree"
)

// The document's numbers, the greatest word, and the ids of the tests' Roots and of the thread that calls.
const (
	topId    = 1 << 61
	topQuota = 4096
	topLinks = 64
	topRoot  = 1024
	pageLen  = 16
	shares   = 16
	top      = math.MaxUint64
	root     = 1
	self     = 50
)

// lab is a label of a text.
func lab(text string) api.Label {
	l, err := codec.Read(text)
	if err != api.OK {
		panic(text)
	}
	return l
}

// thing is an object of a kind with nothing in it.
func thing(kind int, id uint64, quota int, label string) api.Object {
	return api.Object{Id: id, Kind: kind, Quota: quota, Label: lab(label)}
}

// box is a container.
func box(id uint64, quota int, label string, links ...uint64) api.Object {
	o := thing(api.KdContainer, id, quota, label)
	o.Links = slices.Sorted(slices.Values(links))
	return o
}

// fixed is an object that is.
func fixed(o api.Object) api.Object {
	o.Fixed = true
	return o
}

// thread is one of a label and a clearance, with numbers of its own, label registers, and unlike words in all that calls have nothing to do with.
func thread(id uint64, label, clear string, labs ...string) api.Object {
	o := thing(api.KdThread, id, 1, label)
	o.Thread = api.Thread{Clear: lab(clear), Pc: 77, Space: api.Ref{Cont: 71, Id: 72}, Handler: 73, Vector: 74, Alerts: []uint64{75, 76}}
	o.Thread.Span = api.Span{Lo: id << 20, Hi: (id + 1) << 20}
	for n := range o.Thread.Regs {
		o.Thread.Regs[n] = uint64(n)<<40 + 99
	}
	for at, text := range labs {
		o.Thread.Labs[at] = lab(text)
	}
	return o
}

// world is one of objects, of which the first one is the Root, however they stand.
func world(objects ...api.Object) api.World {
	w := api.World{Time: 9, Key: 5, Root: objects[0].Id, Objects: deep(objects)}
	slices.SortFunc(w.Objects, byId)
	return w
}

// byId is the order of objects.
func byId(a, b api.Object) int { return cmp.Compare(a.Id, b.Id) }

// of is the object of an id in the world's own memory, nil if there is none.
func of(w api.World, id uint64) *api.Object {
	for at := range w.Objects {
		if w.Objects[at].Id == id {
			return &w.Objects[at]
		}
	}
	return nil
}

// with is a world in which something is done to one object.
func with(w api.World, id uint64, does func(*api.Object)) api.World {
	w = deep(w)
	does(of(w, id))
	return w
}

// idsOf are those of a world's objects.
func idsOf(w api.World) []uint64 {
	var out []uint64
	for _, o := range w.Objects {
		out = append(out, o.Id)
	}
	return out
}

// deed is a call of a number, with its arguments.
type deed struct {
	n int
	a api.Args
}

// deedOf is a call with its first arguments; the others are words that it has nothing to do with.
func deedOf(n int, args ...uint64) deed {
	d := deed{n: n}
	for at := range d.a {
		d.a[at] = top - uint64(at)
	}
	copy(d.a[:], args)
	return d
}

// names are what these calls are called, by their numbers.
func names() map[int]string {
	return map[int]string{
		13: "CaMkSeg", 14: "CaMkCont", 15: "CaMkSpace", 16: "CaMkThread", 17: "CaMkGate", 18: "CaUnref",
		19: "CaLink", 20: "CaFix", 21: "CaMove", 22: "CaKind", 23: "CaList", 24: "CaQuota",
	}
}

// String tells a call.
func (d deed) String() string { return fmt.Sprintf("%s%v", names()[d.n], d.a) }

// levelOf is a category's level, 1 (2) where the label says nothing.
func levelOf(l api.Label, cat uint64) int {
	for _, p := range l {
		if p.Cat == cat {
			return p.Lev
		}
	}
	return api.Lev1
}

// raised is a level, ownership above all.
func raised(lev int) int {
	if lev == api.Star {
		return api.Above
	}
	return lev
}

// all tells whether something holds of the levels of each category that one of two labels has.
func all(a, b api.Label, holds func(int, int) bool) bool {
	for _, p := range slices.Concat(a, b) {
		if !holds(levelOf(a, p.Cat), levelOf(b, p.Cat)) {
			return false
		}
	}
	return true
}

// atMost tells whether a label is at most another one.
func atMost(a, b api.Label) bool { return all(a, b, func(x, y int) bool { return x <= y }) }

// sees tells whether a thread may see a thing, by chapter 17's words.
func sees(t, o api.Object) bool {
	return all(t.Label, o.Label, func(x, y int) bool {
		if o.Kind == api.KdThread {
			y = raised(y)
		}
		return y <= raised(x)
	})
}

// changes tells whether a thread may change a thing.
func changes(t, o api.Object) bool { return sees(t, o) && atMost(t.Label, o.Label) }

// mayLie tells whether what has a label may lie in a container, by chapter 3's words of Place.
func mayLie(d, o api.Label) bool {
	return all(d, o, func(x, y int) bool { return x <= max(raised(y), api.Lev1) })
}

// mayMake tells whether a thread may make a thing of a label.
func mayMake(t api.Object, l api.Label) bool {
	for _, p := range l {
		if p.Lev == api.Star {
			return false
		}
	}
	return atMost(t.Label, l) && atMost(l, t.Thread.Clear)
}

// maySpawn tells whether a thread may make one of a label and a clearance.
func maySpawn(t api.Object, l, clear api.Label) bool {
	return atMost(t.Label, l) && atMost(l, clear) && atMost(clear, t.Thread.Clear)
}

// room is how many pages a container has left.
func room(w api.World, d api.Object) int {
	left := d.Quota - 1
	for _, id := range d.Links {
		left -= of(w, id).Quota
	}
	return left
}

// takes is what an object takes of its Quota.
func takes(w api.World, o api.Object) int {
	if o.Kind == api.KdContainer {
		return o.Quota - room(w, o)
	}
	return 1 + (len(o.Data)+pageLen-1)/pageLen
}

// wrong is something that is wrong with a call: what, in a word, and the error that the chapter has for it.
type wrong struct {
	what string
	err  api.Errno
}

// asking is a call by a thread of a world, and what is wrong with it, in the chapter's order.
type asking struct {
	world  api.World
	caller api.Object
	deed
	wrongs []wrong
}

// unless notes that something is wrong, unless something holds.
func (q *asking) unless(holds bool, what string, err api.Errno) {
	if !holds {
		q.wrongs = append(q.wrongs, wrong{what, err})
	}
}

// dir notes what is wrong with a container.
func (q *asking) dir(id uint64, write bool) *api.Object {
	d := of(q.world, id)
	if d == nil || d.Kind != api.KdContainer {
		q.unless(false, "no container", api.ErrName)
		return nil
	}
	q.unless(sees(q.caller, *d), "hidden", api.ErrName)
	q.unless(!write || changes(q.caller, *d), "not to write", api.ErrLabel)
	return d
}

// look notes what is wrong with a name.
func (q *asking) look() *api.Object {
	d := q.dir(q.a[0], false)
	if d == nil || !slices.Contains(d.Links, q.a[1]) {
		q.unless(false, "not there", api.ErrName)
		return nil
	}
	return of(q.world, q.a[1])
}

// lab is the label of a register that an argument names, nil if it is none; noted is that it is none.
func (q *asking) lab(at int) *api.Label {
	q.unless(q.a[at] <= 3, "register", api.ErrArg)
	if q.a[at] > 3 {
		return nil
	}
	return &q.caller.Thread.Labs[q.a[at]]
}

// lay notes what is wrong with a place in a container.
func (q *asking) lay(d, o api.Object) {
	q.unless(mayLie(d.Label, o.Label), "place", api.ErrLabel)
	q.unless(len(d.Links) < topLinks, "full", api.ErrFull)
	q.unless(o.Quota <= room(q.world, d), "room", api.ErrQuota)
}

// isSound tells whether an object, whose labels are such as may be, has a Quota that can be, and room for its words.
func isSound(o api.Object, words uint64) bool {
	return o.Quota >= 1 && o.Quota <= topQuota && words <= uint64(o.Quota-1)*pageLen
}

// made notes what is wrong with a new object, and tells it; nil, if a register is wrong.
func (q *asking) made() *api.Object {
	o := &api.Object{Kind: map[int]int{13: 1, 14: 2, 15: 3, 16: 4, 17: 5}[q.n], Quota: 1}
	label, words, t := q.lab(1), uint64(0), q.caller.Thread
	var more [2]*api.Label
	switch q.n {
	case 13:
		o.Quota, words = int(min(q.a[2], 9999)), q.a[3]
	case 14:
		o.Quota = int(min(q.a[2], 9999))
	case 16:
		more[1] = q.lab(2)
	case 17:
		more[0], more[1] = q.lab(2), q.lab(3)
	}
	d := q.dir(q.a[0], true)
	if slices.Contains(q.wrongs, wrong{"register", api.ErrArg}) {
		return nil
	}
	o.Label = *label
	q.unless(q.n == 16 || mayMake(q.caller, o.Label), "label", api.ErrLabel)
	switch q.n {
	case 16:
		q.unless(maySpawn(q.caller, o.Label, *more[1]), "label", api.ErrLabel)
		o.Thread = api.Thread{Clear: *more[1], Pc: q.a[3], Space: api.Ref{Cont: q.a[5], Id: q.a[6]}}
		o.Thread.Regs[1] = q.a[4]
	case 17:
		q.unless(maySpawn(q.caller, *more[0], *more[1]), "label", api.ErrLabel)
		o.Gate = api.Gate{Grant: *more[0], Clear: *more[1], Space: t.Space, Pc: q.a[4], Arg: q.a[5]}
	}
	q.unless(isSound(*o, words), "not sound", api.ErrArg)
	q.unless(q.n != 16 || t.Span.Hi-t.Span.Lo >= shares, "not to be parted", api.ErrSerial)
	q.unless(t.Span.Lo < t.Span.Hi, "spent", api.ErrSerial)
	if d != nil {
		q.lay(*d, *o)
	}
	if len(q.wrongs) == 0 {
		o.Data = make([]uint64, words)
	}
	return o
}

// makes is the world with a new object, and its Id.
func (q *asking) makes() (api.World, uint64) {
	o := q.made()
	if len(q.wrongs) > 0 {
		return q.world, 0
	}
	span := q.caller.Thread.Span
	if q.n == 16 {
		share := (span.Hi - span.Lo) / shares
		o.Thread.Span = api.Span{Lo: span.Hi - share, Hi: span.Hi}
		span.Hi -= share
	}
	o.Id = perm.Name(q.world.Key, span.Lo)
	span.Lo++
	w := with(q.world, q.caller.Id, func(t *api.Object) { t.Thread.Span = span })
	w.Objects = append(w.Objects, deep(*o))
	slices.SortFunc(w.Objects, byId)
	return linked(w, q.a[0], o.Id), o.Id
}

// linked is a world with a link more.
func linked(w api.World, d, id uint64) api.World {
	return with(w, d, func(in *api.Object) {
		in.Links = append(in.Links, id)
		slices.Sort(in.Links)
	})
}

// unlinked is a world without a link, and without all that no container is left for.
func unlinked(w api.World, d, id uint64) api.World {
	without := func(l []uint64, id uint64) []uint64 {
		return slices.DeleteFunc(l, func(x uint64) bool { return x == id })
	}
	w = with(w, d, func(in *api.Object) { in.Links = without(in.Links, id) })
	for {
		at := slices.IndexFunc(w.Objects, func(o api.Object) bool {
			return o.Id != w.Root && !slices.ContainsFunc(w.Objects, func(d api.Object) bool { return slices.Contains(d.Links, o.Id) })
		})
		if at < 0 {
			return w
		}
		w.Objects = slices.Delete(w.Objects, at, at+1)
	}
}

// links is CaLink.
func (q *asking) links() (api.World, uint64) {
	o := q.look()
	e := q.dir(q.a[2], true)
	if o == nil || e == nil {
		return q.world, 0
	}
	q.unless(o.Kind != api.KdContainer && o.Kind != api.KdThread, "kind", api.ErrKind)
	q.unless(o.Fixed, "not fixed", api.ErrBusy)
	q.unless(!slices.Contains(e.Links, o.Id), "there", api.ErrThere)
	q.lay(*e, *o)
	return linked(q.world, e.Id, o.Id), 0
}

// alters is CaUnref, CaFix and CaMove.
func (q *asking) alters() (api.World, uint64) {
	d := q.dir(q.a[0], true)
	if d == nil || !slices.Contains(d.Links, q.a[1]) {
		q.unless(false, "not there", api.ErrName)
		return q.world, 0
	}
	o, n := of(q.world, q.a[1]), int64(q.a[2])
	if q.n == 18 {
		return unlinked(q.world, d.Id, o.Id), 0
	}
	q.unless(changes(q.caller, *o), "not to change", api.ErrLabel)
	if q.n == 20 {
		q.unless(o.Kind != api.KdContainer && o.Kind != api.KdThread, "kind", api.ErrKind)
		return with(q.world, o.Id, func(o *api.Object) { o.Fixed = true }), 0
	}
	q.unless(!o.Fixed, "fixed", api.ErrBusy)
	q.unless(n >= -topQuota && n <= topQuota, "far", api.ErrArg)
	n = max(-9999, min(n, 9999))
	left := o.Quota + int(n)
	q.unless(int(n) <= room(q.world, *d) && left >= takes(q.world, *o) && left <= topQuota, "room", api.ErrQuota)
	return with(q.world, o.Id, func(o *api.Object) { o.Quota = left }), 0
}

// tells is CaKind, CaQuota and CaList.
func (q *asking) tells() (api.World, uint64) {
	if q.n == 23 {
		d := q.dir(q.a[0], false)
		if d == nil || q.a[1] >= uint64(len(d.Links)) {
			q.unless(false, "no link", api.ErrEmpty)
			return q.world, 0
		}
		return q.world, d.Links[q.a[1]]
	}
	o := q.look()
	if o == nil {
		return q.world, 0
	}
	return q.world, uint64(map[int]int{22: o.Kind, 24: o.Quota}[q.n])
}

// outcome is what a call comes to by the chapter's words. Beside something wrong the world is as it was, the value 0.
func outcome(w api.World, id uint64, d deed) (api.World, uint64, []wrong) {
	q := &asking{world: w, caller: *of(w, id), deed: d}
	does := map[int]func() (api.World, uint64){
		13: q.makes, 14: q.makes, 15: q.makes, 16: q.makes, 17: q.makes, 18: q.alters,
		19: q.links, 20: q.alters, 21: q.alters, 22: q.tells, 23: q.tells, 24: q.tells,
	}
	behind, value := does[d.n]()
	if len(q.wrongs) > 0 {
		return w, 0, q.wrongs
	}
	return behind, value, nil
}

// hold holds a call against the chapter's words, and tells the world behind it, its value and its error.
func hold(t *testing.T, w api.World, id uint64, d deed) (api.World, uint64, api.Errno) {
	t.Helper()
	want, wantValue, wrongs := outcome(w, id, d)
	wantErr := api.OK
	if len(wrongs) > 0 {
		wantErr = wrongs[0].err
	}
	before := deep(w)
	behind, value, err, ok := Do(w, id, d.n, d.a)
	if !ok || err != wantErr || value != wantValue {
		t.Errorf("%v by %d: value %d, error %d, %v, not %d, %d, true; %v", d, id, value, err, ok, wantValue, wantErr, wrongs)
	}
	if !obj.Same(behind, want) {
		t.Errorf("%v by %d: error %d, another world than the chapter says\n%v, not\n%v", d, id, err, behind, want)
	}
	if !reflect.DeepEqual(w, before) {
		t.Errorf("%v by %d changes what it was given", d, id)
	}
	if !tree.Fit(behind) {
		t.Errorf("%v by %d: the world is not whole any more", d, id)
	}
	return behind, value, err
}

// lists visits each list of a value, from without to within; what the visitor puts in its place is gone through in its stead.
func lists(v reflect.Value, visit func(reflect.Value)) {
	switch v.Kind() {
	case reflect.Struct:
		for i := range v.NumField() {
			lists(v.Field(i), visit)
		}
	case reflect.Slice:
		visit(v)
		fallthrough
	case reflect.Array:
		if v.Type().Elem().Kind() == reflect.Uint64 {
			return
		}
		for i := range v.Len() {
			lists(v.Index(i), visit)
		}
	}
}

// deep is a copy that shares no memory; a list that is there, but empty, stays so.
func deep[T any](x T) T {
	lists(reflect.ValueOf(&x).Elem(), func(l reflect.Value) {
		if !l.IsNil() {
			own := reflect.MakeSlice(l.Type(), l.Len(), l.Len())
			reflect.Copy(own, l)
			l.Set(own)
		}
	})
	return x
}

// roomy makes each list of a value one that has room for more behind its end, and each that is none an empty one.
func roomy[T any](x *T) {
	lists(reflect.ValueOf(x).Elem(), func(l reflect.Value) {
		own := reflect.MakeSlice(l.Type(), l.Len(), l.Len()+3)
		reflect.Copy(own, l)
		l.Set(own)
	})
}

// emptyLists counts the lists of a value that are there, but empty.
func emptyLists(x any) int {
	count := 0
	lists(reflect.ValueOf(x), func(l reflect.Value) {
		if l.Len() == 0 && !l.IsNil() {
			count++
		}
	})
	return count
}

// stretch is where a list stands in memory, with all that it has room for.
type stretch struct {
	from, to uintptr
	told     bool
}

// stretches are where the lists of a value stand.
func stretches(x any, told bool) []stretch {
	var out []stretch
	lists(reflect.ValueOf(x), func(l reflect.Value) {
		if l.Cap() > 0 {
			out = append(out, stretch{l.Pointer(), l.Pointer() + uintptr(l.Cap())*l.Type().Elem().Size(), told})
		}
	})
	return out
}

// overlap tells whether a list that was told stands where another one does. What was given may share with itself.
func overlap(all []stretch) bool {
	slices.SortFunc(all, func(a, b stretch) int { return cmp.Compare(a.from, b.from) })
	var endGiven, endTold uintptr
	for _, s := range all {
		if s.from < endTold || s.told && s.from < endGiven {
			return true
		}
		if s.told {
			endTold = max(endTold, s.to)
		} else {
			endGiven = max(endGiven, s.to)
		}
	}
	return false
}
