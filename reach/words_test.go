package reach

import (
	"cmp"
	"fmt"
	"reflect"
	"slices"

	"curtilage/api"
)

// The document's numbers, the id of the tests' Roots, and the two categories of their labels.
const (
	topId    = 1 << 61
	topLinks = 64
	root     = 1
	catA     = 7
	catB     = 9
)

// kinds are all kinds that there are.
func kinds() []int {
	return []int{api.KdSegment, api.KdContainer, api.KdSpace, api.KdThread, api.KdGate, api.KdDevice}
}

// two is a label of the tests' two categories; what is at 1 goes without saying.
func two(a, b int) api.Label {
	var out api.Label
	for _, p := range []api.Pair{{Cat: catA, Lev: a}, {Cat: catB, Lev: b}} {
		if p.Lev != api.Lev1 {
			out = append(out, p)
		}
	}
	return out
}

// one is a label of the first category alone.
func one(lev int) api.Label { return two(lev, api.Lev1) }

// labelsFrom are all labels of the two categories, with levels from one on, up to another.
func labelsFrom(low, high int) []api.Label {
	var out []api.Label
	for a := low; a <= high; a++ {
		for b := low; b <= high; b++ {
			out = append(out, two(a, b))
		}
	}
	return out
}

// thing is a sound object of a kind with something of all that it can have, by which it is told from others.
func thing(kind int, id uint64, l api.Label) api.Object {
	o := api.Object{Id: id, Kind: kind, Label: l, Quota: 3}
	switch kind {
	case api.KdSegment:
		o.Data = []uint64{id, 1, id + 1}
	case api.KdSpace:
		o.Maps = []api.Map{{Va: 1, N: 2, Cont: id, Seg: 4, Off: 5, Write: true}}
	case api.KdThread:
		o.Thread = threadOf(id, l)
	case api.KdGate:
		o.Gate = api.Gate{Grant: one(api.Star), Clear: one(api.Lev2), Space: api.Ref{Cont: id, Id: 42}, Pc: 43, Arg: 44}
	case api.KdDevice:
		o.In, o.Out = []uint64{id, 2}, []uint64{3, id}
	}
	return o
}

// threadOf is what a thread of a label has; it is cleared for all that is not less than its label.
func threadOf(id uint64, l api.Label) api.Thread {
	clear := deep(l)
	for at := range clear {
		clear[at].Lev = api.Lev3
	}
	t := api.Thread{
		Pc: id, Clear: clear, Space: api.Ref{Cont: 22, Id: 23}, Handler: 24, Vector: 25,
		State: api.ThWait, Wait: api.Wait{Ref: api.Ref{Cont: 26, Id: 27}, Index: 28, Val: 29},
		Alerts: []uint64{id, 31}, Labs: [4]api.Label{one(api.Star), nil, one(api.Lev3), nil},
	}
	t.Regs[3] = id
	return t
}

// asker is a thread of a label that is of no world.
func asker(l api.Label) api.Object { return thing(api.KdThread, topId-5, l) }

// box is a container.
func box(id uint64, quota int, l api.Label, links ...uint64) api.Object {
	return api.Object{Id: id, Kind: api.KdContainer, Label: l, Quota: quota, Links: slices.Sorted(slices.Values(links))}
}

// fixed is an object that is.
func fixed(o api.Object) api.Object {
	o.Fixed = true
	return o
}

// world is one of objects, of which the first one is the Root, however they stand.
func world(objects ...api.Object) api.World {
	w := api.World{Time: 9, Key: 5, Root: objects[0].Id, Objects: deep(objects)}
	slices.SortFunc(w.Objects, func(a, b api.Object) int { return cmp.Compare(a.Id, b.Id) })
	return w
}

// ids are those of a world's objects.
func ids(w api.World) []uint64 {
	var out []uint64
	for _, o := range w.Objects {
		out = append(out, o.Id)
	}
	return out
}

// namesOf are all names of a world: a container, and what lies in it.
func namesOf(w api.World) []api.Ref {
	var out []api.Ref
	for _, d := range w.Objects {
		for _, id := range d.Links {
			out = append(out, api.Ref{Cont: d.Id, Id: id})
		}
	}
	return out
}

// of is the object of an id, nil if there is none.
func of(w api.World, id uint64) *api.Object {
	for at := range w.Objects {
		if w.Objects[at].Id == id {
			return &w.Objects[at]
		}
	}
	return nil
}

// levelOf is a category's level, 1 (2) where the label says nothing.
func levelOf(l api.Label, cat uint64) int {
	for _, p := range l {
		if p.Cat == cat {
			return p.Lev
		}
	}
	return api.Lev1
}

// raised is a level, ownership as above all.
func raised(lev int) int {
	if lev == api.Star {
		return api.Above
	}
	return lev
}

// maySee tells whether a thread may see a thing by the chapter's words: what others see a thread by has ownership above all.
func maySee(t, o api.Object) bool {
	for _, p := range slices.Concat(t.Label, o.Label) {
		shown := levelOf(o.Label, p.Cat)
		if o.Kind == api.KdThread {
			shown = raised(shown)
		}
		if shown > raised(levelOf(t.Label, p.Cat)) {
			return false
		}
	}
	return true
}

// mayChange tells whether a thread may change a thing by the chapter's words.
func mayChange(t, o api.Object) bool {
	for _, p := range slices.Concat(t.Label, o.Label) {
		if levelOf(t.Label, p.Cat) > levelOf(o.Label, p.Cat) {
			return false
		}
	}
	return maySee(t, o)
}

// dirErrs are all errors of Dir that apply, in the chapter's order.
func dirErrs(w api.World, t api.Object, id uint64, write bool) []api.Errno {
	var out []api.Errno
	d := of(w, id)
	if d == nil || d.Kind != api.KdContainer || !maySee(t, *d) {
		out = append(out, api.ErrName)
	}
	if d != nil && write && !mayChange(t, *d) {
		out = append(out, api.ErrLabel)
	}
	return out
}

// lookErrs are all errors of Look that apply, in the chapter's order.
func lookErrs(w api.World, t api.Object, r api.Ref) []api.Errno {
	out := dirErrs(w, t, r.Cont, false)
	if d := of(w, r.Cont); d == nil || !slices.Contains(d.Links, r.Id) {
		out = append(out, api.ErrName)
	}
	return out
}

// kindErrs are all errors of See and Change that apply, in the chapter's order, if a thread may do what is asked, or may not.
func kindErrs(w api.World, t api.Object, r api.Ref, kind int, may func(t, o api.Object) bool) []api.Errno {
	out := lookErrs(w, t, r)
	o := of(w, r.Id)
	if o != nil && kind != 0 && kind != o.Kind {
		out = append(out, api.ErrKind)
	}
	if o != nil && !may(t, *o) {
		out = append(out, api.ErrLabel)
	}
	return out
}

// ask is a call, and what the chapter says of it: all errors that apply, and whose object it tells if none does.
type ask struct {
	name string
	do   func(w api.World, t api.Object) (api.Object, api.Errno)
	errs func(w api.World, t api.Object) []api.Errno
	id   uint64
}

// dir is the call Dir.
func dir(id uint64, write bool) ask {
	return ask{
		fmt.Sprintf("Dir(%d, %v)", id, write),
		func(w api.World, t api.Object) (api.Object, api.Errno) { return Dir(w, t, id, write) },
		func(w api.World, t api.Object) []api.Errno { return dirErrs(w, t, id, write) },
		id,
	}
}

// look is the call Look.
func look(r api.Ref) ask {
	return ask{
		fmt.Sprintf("Look(%d)", r),
		func(w api.World, t api.Object) (api.Object, api.Errno) { return Look(w, t, r) },
		func(w api.World, t api.Object) []api.Errno { return lookErrs(w, t, r) },
		r.Id,
	}
}

// see is the call See.
func see(r api.Ref, kind int) ask {
	return ask{
		fmt.Sprintf("See(%d, kind %d)", r, kind),
		func(w api.World, t api.Object) (api.Object, api.Errno) { return See(w, t, r, kind) },
		func(w api.World, t api.Object) []api.Errno { return kindErrs(w, t, r, kind, maySee) },
		r.Id,
	}
}

// change is the call Change.
func change(r api.Ref, kind int) ask {
	return ask{
		fmt.Sprintf("Change(%d, kind %d)", r, kind),
		func(w api.World, t api.Object) (api.Object, api.Errno) { return Change(w, t, r, kind) },
		func(w api.World, t api.Object) []api.Errno { return kindErrs(w, t, r, kind, mayChange) },
		r.Id,
	}
}

// deep is a copy that shares no memory, whatever it is of; a list that is there, but empty, stays so.
func deep[T any](x T) T {
	out := reflect.New(reflect.TypeOf(x)).Elem()
	deepInto(out, reflect.ValueOf(x))
	return out.Interface().(T)
}

// deepInto copies one value into another.
func deepInto(to, from reflect.Value) {
	switch from.Kind() {
	case reflect.Struct:
		for i := range from.NumField() {
			deepInto(to.Field(i), from.Field(i))
		}
	case reflect.Array:
		for i := range from.Len() {
			deepInto(to.Index(i), from.Index(i))
		}
	case reflect.Slice:
		if !from.IsNil() {
			to.Set(reflect.MakeSlice(from.Type(), from.Len(), from.Len()))
		}
		for i := range from.Len() {
			deepInto(to.Index(i), from.Index(i))
		}
	default:
		to.Set(from)
	}
}

// stretch is where a list stands in memory, with all that it has room for.
type stretch struct {
	from, to uintptr
	where    string
}

// stretches are where the lists of a value stand.
func stretches(v reflect.Value, where string) []stretch {
	var out []stretch
	switch v.Kind() {
	case reflect.Struct:
		for i := range v.NumField() {
			out = append(out, stretches(v.Field(i), where+"."+v.Type().Field(i).Name)...)
		}
	case reflect.Slice:
		if v.Cap() > 0 {
			from := v.Pointer()
			out = append(out, stretch{from, from + uintptr(v.Cap())*v.Type().Elem().Size(), where})
		}
		fallthrough
	case reflect.Array:
		if k := v.Type().Elem().Kind(); k != reflect.Uint64 {
			for i := range v.Len() {
				out = append(out, stretches(v.Index(i), fmt.Sprintf("%s[%d]", where, i))...)
			}
		}
	}
	return out
}

// shared tells a list that was told and stands where one that was given, or another that was told, does; "" if there is none.
func shared(given, told []stretch) string {
	for at, s := range told {
		for _, other := range slices.Concat(given, told[:at]) {
			if s.from < other.to && other.from < s.to {
				return s.where + " with " + other.where
			}
		}
	}
	return ""
}

// empties makes each list that is none an empty one.
func empties(v reflect.Value) {
	switch v.Kind() {
	case reflect.Struct:
		for i := range v.NumField() {
			empties(v.Field(i))
		}
	case reflect.Array:
		for i := range v.Len() {
			empties(v.Index(i))
		}
	case reflect.Slice:
		if v.Len() == 0 {
			v.Set(reflect.MakeSlice(v.Type(), 0, 3))
		}
		for i := range v.Len() {
			empties(v.Index(i))
		}
	}
}

// noEmpties tells whether a value has no list that is there, but empty.
func noEmpties(v reflect.Value) bool {
	switch v.Kind() {
	case reflect.Struct:
		for i := range v.NumField() {
			if !noEmpties(v.Field(i)) {
				return false
			}
		}
	case reflect.Array, reflect.Slice:
		if v.Kind() == reflect.Slice && v.Len() == 0 && !v.IsNil() {
			return false
		}
		for i := range v.Len() {
			if !noEmpties(v.Index(i)) {
				return false
			}
		}
	}
	return true
}
