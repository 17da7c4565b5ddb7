package sweep

import (
	"cmp"
	"fmt"
	"reflect"
	"slices"

	"curtilage/api"
)

// The document's numbers, and the id of the tests' Roots.
const (
	topId    = 1 << 61
	topLinks = 64
	topRoot  = 1024
	root     = 1
)

// kinds are all kinds that there are.
func kinds() []int {
	return []int{api.KdSegment, api.KdContainer, api.KdSpace, api.KdThread, api.KdGate, api.KdDevice}
}

// pair is a label of one category.
func pair(cat uint64, lev int) api.Label { return api.Label{{Cat: cat, Lev: lev}} }

// thing is an object of a kind with nothing in it.
func thing(kind int, id uint64, quota int) api.Object {
	return api.Object{Id: id, Kind: kind, Quota: quota}
}

// box is a container.
func box(id uint64, quota int, links ...uint64) api.Object {
	o := thing(api.KdContainer, id, quota)
	o.Links = slices.Sorted(slices.Values(links))
	return o
}

// segment is one of so many words.
func segment(id uint64, quota, words int) api.Object {
	o := thing(api.KdSegment, id, quota)
	o.Data = count(id, words)
	return o
}

// thread is one with numbers from lo on, below hi.
func thread(id, lo, hi uint64) api.Object {
	o := thing(api.KdThread, id, 1)
	o.Thread.Span = api.Span{Lo: lo, Hi: hi}
	return o
}

// gate is one of Quota 1, with something in it.
func gate(id uint64) api.Object {
	o := thing(api.KdGate, id, 1)
	o.Gate = api.Gate{Grant: pair(3, api.Star), Clear: pair(3, api.Lev3), Space: api.Ref{Cont: 4, Id: 5}, Pc: id, Arg: 7}
	return o
}

// fixed is an object that is.
func fixed(o api.Object) api.Object {
	o.Fixed = true
	return o
}

// labelled is an object with a label; a thread's clearance is as great, what it owns at 3.
func labelled(o api.Object, l api.Label) api.Object {
	o.Label = l
	if o.Kind == api.KdThread {
		o.Thread.Clear = deep(l)
		for at := range o.Thread.Clear {
			o.Thread.Clear[at].Lev = api.Lev3
		}
	}
	return o
}

// world is one of objects, of which the first one is the Root, however they stand.
func world(objects ...api.Object) api.World {
	w := api.World{Time: 9, Key: 5, Root: objects[0].Id, Objects: deep(objects)}
	slices.SortFunc(w.Objects, func(a, b api.Object) int { return cmp.Compare(a.Id, b.Id) })
	return w
}

// count are the ids, or words, from one on, n of them.
func count(from uint64, n int) []uint64 {
	var out []uint64
	for i := range n {
		out = append(out, from+uint64(i))
	}
	return out
}

// ids are those of a world's objects.
func ids(w api.World) []uint64 {
	var out []uint64
	for _, o := range w.Objects {
		out = append(out, o.Id)
	}
	return out
}

// few are the first and last ones of a list, all if they are not many.
func few[T any](l []T) []T {
	if len(l) <= 12 {
		return l
	}
	return slices.Concat(l[:6], l[len(l)-6:])
}

// changed is a world, or an object, behind something that is done to it.
func changed[T any](x T, does func(*T)) T {
	out := deep(x)
	does(&out)
	return out
}

// deep is a copy that shares no memory, whatever it is of; a list that is there, but empty, stays so.
func deep[T any](x T) T {
	out := reflect.New(reflect.TypeOf(x)).Elem()
	deepInto(out, reflect.ValueOf(x))
	return out.Interface().(T)
}

// deepInto copies one value into another.
func deepInto(to, from reflect.Value) {
	switch from.Kind() {
	case reflect.Struct:
		for i := range from.NumField() {
			deepInto(to.Field(i), from.Field(i))
		}
	case reflect.Array:
		for i := range from.Len() {
			deepInto(to.Index(i), from.Index(i))
		}
	case reflect.Slice:
		if !from.IsNil() {
			to.Set(reflect.MakeSlice(from.Type(), from.Len(), from.Len()))
		}
		for i := range from.Len() {
			deepInto(to.Index(i), from.Index(i))
		}
	default:
		to.Set(from)
	}
}

// one is the object of an id, nil if there is none.
func one(w api.World, id uint64) *api.Object {
	for at := range w.Objects {
		if w.Objects[at].Id == id {
			return &w.Objects[at]
		}
	}
	return nil
}

// linksOf are all links of a world, a container and an id each.
func linksOf(w api.World) []api.Ref {
	var out []api.Ref
	for _, d := range w.Objects {
		for _, id := range d.Links {
			out = append(out, api.Ref{Cont: d.Id, Id: id})
		}
	}
	return out
}

// isName tells whether an id lies in a container by the chapter's words.
func isName(w api.World, d, id uint64) bool {
	return slices.Contains(linksOf(w), api.Ref{Cont: d, Id: id})
}

// without is a world but for a link.
func without(w api.World, d, id uint64) api.World {
	return changed(w, func(w *api.World) {
		in := one(*w, d)
		in.Links = slices.DeleteFunc(in.Links, func(to uint64) bool { return to == id })
	})
}

// unheld are the objects that lie in no container, but the Root.
func unheld(w api.World) []uint64 {
	held := map[uint64]int{w.Root: 1}
	for _, link := range linksOf(w) {
		held[link.Id]++
	}
	return slices.DeleteFunc(ids(w), func(id uint64) bool { return held[id] > 0 })
}

// unrefOf is a world without a link, and what goes by that: round by round what lies in no container any more, till all that is left does.
func unrefOf(w api.World, d, id uint64) (api.World, []uint64) {
	w = without(w, d, id)
	var gone []uint64
	for next := unheld(w); len(next) > 0; next = unheld(w) {
		gone = append(gone, next...)
		w.Objects = slices.DeleteFunc(w.Objects, func(o api.Object) bool { return slices.Contains(next, o.Id) })
	}
	slices.Sort(gone)
	return w, gone
}

// reached are the ids to which one comes from the Root, rising. In a whole world that is all; without a link it is what stays.
func reached(w api.World) []uint64 {
	seen := map[uint64]int{}
	var walk func(id uint64)
	walk = func(id uint64) {
		if seen[id]++; seen[id] > 1 {
			return
		}
		if at, found := slices.BinarySearchFunc(w.Objects, id, func(o api.Object, id uint64) int { return cmp.Compare(o.Id, id) }); found {
			for _, to := range w.Objects[at].Links {
				walk(to)
			}
		}
	}
	walk(w.Root)
	return slices.DeleteFunc(ids(w), func(id uint64) bool { return seen[id] == 0 })
}

// stretch is where a list stands in memory, with all that it has room for.
type stretch struct {
	from, to uintptr
	where    string
}

// stretches are where the lists of a value stand.
func stretches(v reflect.Value, where string) []stretch {
	var out []stretch
	switch v.Kind() {
	case reflect.Struct:
		for i := range v.NumField() {
			out = append(out, stretches(v.Field(i), where+"."+v.Type().Field(i).Name)...)
		}
	case reflect.Slice:
		if v.Cap() > 0 {
			from := v.Pointer()
			out = append(out, stretch{from, from + uintptr(v.Cap())*v.Type().Elem().Size(), where})
		}
		fallthrough
	case reflect.Array:
		if k := v.Type().Elem().Kind(); k != reflect.Uint64 {
			for i := range v.Len() {
				out = append(out, stretches(v.Index(i), fmt.Sprintf("%s[%d]", where, i))...)
			}
		}
	}
	return out
}

// shared tells a list that a call told and that shares memory with another one, "" if there is none. What was given may share with itself.
func shared(given, told []stretch) string {
	type mine struct {
		stretch
		told bool
	}
	var all []mine
	for _, s := range given {
		all = append(all, mine{s, false})
	}
	for _, s := range told {
		all = append(all, mine{s, true})
	}
	slices.SortFunc(all, func(a, b mine) int { return cmp.Compare(a.from, b.from) })
	var endGiven, endTold uintptr
	for _, s := range all {
		if s.from < endTold || s.told && s.from < endGiven {
			return s.where
		}
		if s.told {
			endTold = max(endTold, s.to)
		} else {
			endGiven = max(endGiven, s.to)
		}
	}
	return ""
}

// empties makes each list that is none an empty one.
func empties(v reflect.Value) {
	switch v.Kind() {
	case reflect.Struct:
		for i := range v.NumField() {
			empties(v.Field(i))
		}
	case reflect.Array:
		for i := range v.Len() {
			empties(v.Index(i))
		}
	case reflect.Slice:
		if v.Len() == 0 {
			v.Set(reflect.MakeSlice(v.Type(), 0, 3))
		}
		for i := range v.Len() {
			empties(v.Index(i))
		}
	}
}

// noLists tells whether a value has no list that is there, but empty.
func noLists(v reflect.Value) bool {
	switch v.Kind() {
	case reflect.Struct:
		for i := range v.NumField() {
			if !noLists(v.Field(i)) {
				return false
			}
		}
	case reflect.Array, reflect.Slice:
		if v.Kind() == reflect.Slice && v.Len() == 0 && !v.IsNil() {
			return false
		}
		for i := range v.Len() {
			if !noLists(v.Index(i)) {
				return false
			}
		}
	}
	return true
}
