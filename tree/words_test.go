package tree

import (
	"cmp"
	"fmt"
	"reflect"
	"slices"

	"curtilage/api"
	"curtilage/obj"
	"curtilage/perm"
)

// The chapter's numbers, and the id of the tests' Roots.
const (
	topId    = 1 << 61
	topLinks = 64
	topRoot  = 1024
	topMove  = 4096
	root     = 1
)

// kinds are all kinds that there are.
func kinds() []int {
	return []int{api.KdSegment, api.KdContainer, api.KdSpace, api.KdThread, api.KdGate, api.KdDevice}
}

// pair is a label of one category.
func pair(cat uint64, lev int) api.Label { return api.Label{{Cat: cat, Lev: lev}} }

// thing is an object of a kind with nothing in it.
func thing(kind int, id uint64, quota int) api.Object {
	return api.Object{Id: id, Kind: kind, Quota: quota}
}

// box is a container.
func box(id uint64, quota int, links ...uint64) api.Object {
	o := thing(api.KdContainer, id, quota)
	o.Links = slices.Sorted(slices.Values(links))
	return o
}

// segment is one of so many words.
func segment(id uint64, quota, words int) api.Object {
	o := thing(api.KdSegment, id, quota)
	o.Data = make([]uint64, words)
	return o
}

// thread is one with numbers from lo on, below hi.
func thread(id, lo, hi uint64) api.Object {
	o := thing(api.KdThread, id, 1)
	o.Thread.Span = api.Span{Lo: lo, Hi: hi}
	return o
}

// fixed is an object that is.
func fixed(o api.Object) api.Object {
	o.Fixed = true
	return o
}

// labelled is an object with a label; a thread's clearance is as great, what it owns at 3.
func labelled(o api.Object, l api.Label) api.Object {
	o.Label = l
	if o.Kind == api.KdThread {
		o.Thread.Clear = deep(l)
		for at := range o.Thread.Clear {
			o.Thread.Clear[at].Lev = api.Lev3
		}
	}
	return o
}

// world is one of objects, of which the first one is the Root, however they stand.
func world(objects ...api.Object) api.World {
	w := api.World{Time: 9, Key: 5, Root: objects[0].Id, Objects: deep(objects)}
	slices.SortFunc(w.Objects, func(a, b api.Object) int { return cmp.Compare(a.Id, b.Id) })
	return w
}

// count are the ids from one on, n of them.
func count(from uint64, n int) []uint64 {
	var out []uint64
	for i := range n {
		out = append(out, from+uint64(i))
	}
	return out
}

// gates are as many as there are ids, of Quota 1.
func gates(l api.Label, ids ...uint64) []api.Object {
	var out []api.Object
	for _, id := range ids {
		out = append(out, labelled(thing(api.KdGate, id, 1), l))
	}
	return out
}

// ids are those of a world's objects.
func ids(w api.World) []uint64 {
	var out []uint64
	for _, o := range w.Objects {
		out = append(out, o.Id)
	}
	return out
}

// few are the first and last ones of a list, all if they are not many.
func few[T any](l []T) []T {
	if len(l) <= 12 {
		return l
	}
	return slices.Concat(l[:6], l[len(l)-6:])
}

// changed is a world, or an object, behind something that is done to it.
func changed[T any](x T, does func(*T)) T {
	out := deep(x)
	does(&out)
	return out
}

// with is a world in which something is done to one object.
func with(w api.World, id uint64, does func(*api.Object)) api.World {
	return changed(w, func(w *api.World) {
		for at := range w.Objects {
			if w.Objects[at].Id == id {
				does(&w.Objects[at])
			}
		}
	})
}

// deep is a copy that shares no memory, whatever it is of; a list that is there, but empty, stays so.
func deep[T any](x T) T {
	out := reflect.New(reflect.TypeOf(x)).Elem()
	deepInto(out, reflect.ValueOf(x))
	return out.Interface().(T)
}

// deepInto copies one value into another.
func deepInto(to, from reflect.Value) {
	switch from.Kind() {
	case reflect.Struct:
		for i := range from.NumField() {
			deepInto(to.Field(i), from.Field(i))
		}
	case reflect.Array:
		for i := range from.Len() {
			deepInto(to.Index(i), from.Index(i))
		}
	case reflect.Slice:
		if !from.IsNil() {
			to.Set(reflect.MakeSlice(from.Type(), from.Len(), from.Len()))
		}
		for i := range from.Len() {
			deepInto(to.Index(i), from.Index(i))
		}
	default:
		to.Set(from)
	}
}

// one is the object of an id, nil if there is none.
func one(w api.World, id uint64) *api.Object {
	for at := range w.Objects {
		if w.Objects[at].Id == id {
			return &w.Objects[at]
		}
	}
	return nil
}

// levelOf is a category's level, 1 (2) where the label says nothing.
func levelOf(l api.Label, cat uint64) int {
	for _, p := range l {
		if p.Cat == cat {
			return p.Lev
		}
	}
	return api.Lev1
}

// mayLie tells whether what has a label may lie in a container: what owns counts as above all, what is below 1 as 1.
func mayLie(d, o api.Label) bool {
	for _, p := range slices.Concat(d, o) {
		lev := levelOf(o, p.Cat)
		if lev == api.Star {
			lev = api.Above
		}
		if levelOf(d, p.Cat) > max(lev, api.Lev1) {
			return false
		}
	}
	return true
}

// pagesOf is what an object takes by itself.
func pagesOf(o api.Object) int {
	pages := 1
	for at := range o.Data {
		if at%16 == 0 {
			pages++
		}
	}
	return pages
}

// usesOf is what an object uses by the chapter's words.
func usesOf(w api.World, o api.Object) int {
	if o.Kind != api.KdContainer {
		return pagesOf(o)
	}
	uses := 1
	for _, in := range w.Objects {
		if slices.Contains(o.Links, in.Id) {
			uses += in.Quota
		}
	}
	return uses
}

// holdersOf are the containers that link an id.
func holdersOf(w api.World, id uint64) []uint64 {
	var out []uint64
	for _, d := range w.Objects {
		if d.Kind == api.KdContainer && slices.Contains(d.Links, id) {
			out = append(out, d.Id)
		}
	}
	return out
}

// aboveOf are the containers from an object up to the Root; false, if one does not come there.
func aboveOf(w api.World, id uint64) ([]uint64, bool) {
	var out []uint64
	for at := id; at != w.Root; at = out[len(out)-1] {
		holders := holdersOf(w, at)
		if len(holders) == 0 || slices.Contains(out, holders[0]) {
			return out, false
		}
		out = append(out, holders[0])
	}
	return out, true
}

// liesWell tells whether an object lies in as many containers as it may.
func liesWell(w api.World, o api.Object) bool {
	n := len(holdersOf(w, o.Id))
	if o.Id == w.Root {
		return o.Kind == api.KdContainer && n == 0 && o.Quota <= topRoot
	}
	if o.Kind == api.KdContainer || o.Kind == api.KdThread || !o.Fixed {
		return n == 1
	}
	return n >= 1
}

// holdsWell tells whether a container links objects alone, that may lie in it, and have room in it.
func holdsWell(w api.World, d api.Object) bool {
	for _, id := range d.Links {
		if o := one(w, id); o == nil || !mayLie(d.Label, o.Label) {
			return false
		}
	}
	_, up := aboveOf(w, d.Id)
	return up && usesOf(w, d) <= d.Quota
}

// countsWell tells whether a thread's numbers are its own.
func countsWell(w api.World, t api.Object) bool {
	s := t.Thread.Span
	for _, o := range w.Objects {
		n := perm.Number(w.Key, o.Id)
		if s.Lo <= n && n < s.Hi {
			return false
		}
		if o.Kind == api.KdThread && o.Id != t.Id && max(s.Lo, o.Thread.Span.Lo) < min(s.Hi, o.Thread.Span.Hi) {
			return false
		}
	}
	return true
}

// isWhole tells whether a world is whole by the chapter's words.
func isWhole(w api.World) bool {
	if !obj.Fit(w) || one(w, w.Root) == nil {
		return false
	}
	for _, o := range w.Objects {
		if !liesWell(w, o) || o.Kind == api.KdContainer && !holdsWell(w, o) || o.Kind == api.KdThread && !countsWell(w, o) {
			return false
		}
	}
	return true
}

// layErrs are Attach's errors from ErrLabel on, all that apply.
func layErrs(w api.World, d, o api.Object) []api.Errno {
	var out []api.Errno
	if !mayLie(d.Label, o.Label) {
		out = append(out, api.ErrLabel)
	}
	if len(d.Links) >= topLinks {
		out = append(out, api.ErrFull)
	}
	if o.Quota > d.Quota-usesOf(w, d) || o.Kind == api.KdContainer && len(o.Links) > 0 {
		out = append(out, api.ErrQuota)
	}
	return out
}

// attachErrs are all errors of Attach that apply, in the chapter's order.
func attachErrs(w api.World, d uint64, o api.Object) []api.Errno {
	var out []api.Errno
	in := one(w, d)
	if in == nil {
		out = append(out, api.ErrName)
	}
	if in != nil && in.Kind != api.KdContainer {
		out = append(out, api.ErrKind)
	}
	if one(w, o.Id) != nil {
		out = append(out, api.ErrThere)
	}
	if in != nil {
		out = append(out, layErrs(w, *in, o)...)
	}
	return out
}

// linkErrs are all errors of Link that apply, in the chapter's order.
func linkErrs(w api.World, d, id uint64) []api.Errno {
	var out []api.Errno
	in, o := one(w, d), one(w, id)
	if in == nil || o == nil {
		out = append(out, api.ErrName)
	}
	if in != nil && in.Kind != api.KdContainer || o != nil && (o.Kind == api.KdContainer || o.Kind == api.KdThread) {
		out = append(out, api.ErrKind)
	}
	if o != nil && !o.Fixed {
		out = append(out, api.ErrBusy)
	}
	if in != nil && slices.Contains(in.Links, id) {
		out = append(out, api.ErrThere)
	}
	if in != nil && o != nil {
		out = append(out, layErrs(w, *in, *o)...)
	}
	return out
}

// fixErrs are all errors of Fix that apply.
func fixErrs(w api.World, id uint64) []api.Errno {
	o := one(w, id)
	if o == nil {
		return []api.Errno{api.ErrName}
	}
	if o.Kind == api.KdContainer || o.Kind == api.KdThread {
		return []api.Errno{api.ErrKind}
	}
	return nil
}

// moveErrs are all errors of Move that apply, in the chapter's order.
func moveErrs(w api.World, d, id uint64, n int) []api.Errno {
	var out []api.Errno
	in, o := one(w, d), one(w, id)
	if in == nil || !slices.Contains(in.Links, id) {
		out = append(out, api.ErrName)
	}
	if o != nil && o.Fixed {
		out = append(out, api.ErrBusy)
	}
	if n < -topMove || n > topMove {
		out = append(out, api.ErrArg)
	}
	if in != nil && o != nil && (n > in.Quota-usesOf(w, *in) || n < usesOf(w, *o)-o.Quota || n < 1-o.Quota || n > topMove-o.Quota) {
		out = append(out, api.ErrQuota)
	}
	return out
}

// attachOf is a world with an object, and a link to it.
func attachOf(w api.World, d uint64, o api.Object) api.World {
	w.Objects = append(deep(w.Objects), deep(o))
	slices.SortFunc(w.Objects, func(a, b api.Object) int { return cmp.Compare(a.Id, b.Id) })
	return linkOf(w, d, o.Id)
}

// linkOf is a world with a link more.
func linkOf(w api.World, d, id uint64) api.World {
	return with(w, d, func(in *api.Object) {
		in.Links = append(in.Links, id)
		slices.Sort(in.Links)
	})
}

// deed is a call that changes a world, and what the chapter says of it: all errors that apply, and the world if none does.
type deed struct {
	name string
	do   func(api.World) (api.World, api.Errno)
	errs func(api.World) []api.Errno
	then func(api.World) api.World
}

// attach is the deed Attach.
func attach(d uint64, o api.Object) deed {
	return deed{
		fmt.Sprintf("Attach(%d, id %d kind %d label %v quota %d links %d)", d, o.Id, o.Kind, o.Label, o.Quota, len(o.Links)),
		func(w api.World) (api.World, api.Errno) { return Attach(w, d, o) },
		func(w api.World) []api.Errno { return attachErrs(w, d, o) },
		func(w api.World) api.World { return attachOf(w, d, o) },
	}
}

// link is the deed Link.
func link(d, id uint64) deed {
	return deed{
		fmt.Sprintf("Link(%d, %d)", d, id),
		func(w api.World) (api.World, api.Errno) { return Link(w, d, id) },
		func(w api.World) []api.Errno { return linkErrs(w, d, id) },
		func(w api.World) api.World { return linkOf(w, d, id) },
	}
}

// fix is the deed Fix.
func fix(id uint64) deed {
	return deed{
		fmt.Sprintf("Fix(%d)", id),
		func(w api.World) (api.World, api.Errno) { return Fix(w, id) },
		func(w api.World) []api.Errno { return fixErrs(w, id) },
		func(w api.World) api.World { return with(w, id, func(o *api.Object) { o.Fixed = true }) },
	}
}

// move is the deed Move.
func move(d, id uint64, n int) deed {
	return deed{
		fmt.Sprintf("Move(%d, %d, %d)", d, id, n),
		func(w api.World) (api.World, api.Errno) { return Move(w, d, id, n) },
		func(w api.World) []api.Errno { return moveErrs(w, d, id, n) },
		func(w api.World) api.World { return with(w, id, func(o *api.Object) { o.Quota += n }) },
	}
}
