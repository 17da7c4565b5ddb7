package kthr_test

import (
	"cmp"
	"fmt"
	"math"
	"reflect"
	"slices"
	"testing"

	"curtilage/api"
	"curtilage/codec"
	"curtilage/kthr"
	"curtilage/obj"
	"curtilage/perm"
	"curtilage/tree"
)

// The document's numbers, the greatest word, and the ids of the tests' Roots and of the thread that calls.
const (
	topId     = 1 << 61
	topTime   = 1 << 40
	topPairs  = 16
	topAlerts = 8
	topRoot   = 1024
	top       = math.MaxUint64
	root      = 1
	self      = 50
)

// lab is a label of a text.
func lab(text string) api.Label {
	l, err := codec.Read(text)
	if err != api.OK {
		panic(text)
	}
	return l
}

// thing is an object of a kind with nothing in it.
func thing(kind int, id uint64, quota int, label string) api.Object {
	return api.Object{Id: id, Kind: kind, Quota: quota, Label: lab(label)}
}

// box is a container.
func box(id uint64, quota int, label string, links ...uint64) api.Object {
	o := thing(api.KdContainer, id, quota, label)
	o.Links = slices.Sorted(slices.Values(links))
	return o
}

// words is a segment of so many words, all unlike each other and all others'.
func words(id uint64, quota, n int, label string) api.Object {
	o := thing(api.KdSegment, id, quota, label)
	for at := range n {
		o.Data = append(o.Data, id<<40+uint64(at)<<20+7)
	}
	return o
}

// device is one to which words came.
func device(id uint64, label string, in ...uint64) api.Object {
	o := thing(api.KdDevice, id, 2, label)
	o.In, o.Out = in, []uint64{id, 4}
	return o
}

// fixed is an object that is.
func fixed(o api.Object) api.Object {
	o.Fixed = true
	return o
}

// thread is one of a label and a clearance, with numbers of its own, label registers, and unlike words in all that calls have nothing to do with.
func thread(id uint64, label, clear string, labs ...string) api.Object {
	o := thing(api.KdThread, id, 1, label)
	o.Thread = api.Thread{Clear: lab(clear), Pc: 77, Space: api.Ref{Cont: 71, Id: 72}, Handler: 73, Vector: 74}
	o.Thread.Span = api.Span{Lo: id << 20, Hi: (id + 1) << 20}
	for n := range o.Thread.Regs {
		o.Thread.Regs[n] = uint64(n)<<40 + 99
	}
	for at, text := range labs {
		o.Thread.Labs[at] = lab(text)
	}
	return o
}

// alerted is a thread with so many Alerts, all unlike each other.
func alerted(o api.Object, n uint64) api.Object {
	for at := range n {
		o.Thread.Alerts = append(o.Thread.Alerts, o.Id<<8+at)
	}
	return o
}

// waiting is a thread that waits for a segment's word.
func waiting(o api.Object) api.Object {
	o.Thread.State = api.ThWait
	o.Thread.Wait = api.Wait{Ref: api.Ref{Cont: 81, Id: 82}, Index: 83, Val: 84}
	return o
}

// world is one of objects, of which the first one is the Root, however they stand.
func world(objects ...api.Object) api.World {
	w := api.World{Time: 9, Key: 5, Root: objects[0].Id, Objects: deep(objects)}
	slices.SortFunc(w.Objects, byId)
	return w
}

// byId is the order of objects.
func byId(a, b api.Object) int { return cmp.Compare(a.Id, b.Id) }

// of is the object of an id in the world's own memory, nil if there is none.
func of(w api.World, id uint64) *api.Object {
	for at := range w.Objects {
		if w.Objects[at].Id == id {
			return &w.Objects[at]
		}
	}
	return nil
}

// with is a world in which something is done to one object.
func with(w api.World, id uint64, does func(*api.Object)) api.World {
	w = deep(w)
	does(of(w, id))
	return w
}

// idsOf are those of a world's objects.
func idsOf(w api.World) []uint64 {
	var out []uint64
	for _, o := range w.Objects {
		out = append(out, o.Id)
	}
	return out
}

// deed is a call of a number, with its arguments.
type deed struct {
	n int
	a api.Args
}

// deedOf is a call with its first arguments; the others are words that it has nothing to do with.
func deedOf(n int, args ...uint64) deed {
	d := deed{n: n}
	for at := range d.a {
		d.a[at] = top - uint64(at)
	}
	copy(d.a[:], args)
	return d
}

// The calls, with their arguments.
func id() deed                    { return deedOf(1) }
func time() deed                  { return deedOf(2) }
func newCat() deed                { return deedOf(3) }
func labClear(k uint64) deed      { return deedOf(4, k) }
func labSet(k, c, n uint64) deed  { return deedOf(5, k, c, n) }
func labGet(k, c uint64) deed     { return deedOf(6, k, c) }
func labSelf(k uint64) deed       { return deedOf(7, k) }
func labOf(d, o, k uint64) deed   { return deedOf(8, d, o, k) }
func labJoin(k, j uint64) deed    { return deedOf(9, k, j) }
func labLeq(k, j uint64) deed     { return deedOf(10, k, j) }
func label(k uint64) deed         { return deedOf(11, k) }
func clearTo(k uint64) deed       { return deedOf(12, k) }
func space(d, x uint64) deed      { return deedOf(32, d, x) }
func handler(n uint64) deed       { return deedOf(33, n) }
func vector(n uint64) deed        { return deedOf(34, n) }
func yield() deed                 { return deedOf(35) }
func halt() deed                  { return deedOf(36) }
func wait(d, s, i, v uint64) deed { return deedOf(37, d, s, i, v) }
func alert(d, o, n uint64) deed   { return deedOf(38, d, o, n) }
func take() deed                  { return deedOf(39) }
func waitDev(d, x uint64) deed    { return deedOf(43, d, x) }

// names are what these calls are called, by their numbers.
func names() map[int]string {
	return map[int]string{
		1: "CaId", 2: "CaTime", 3: "CaNewCat", 4: "CaLabClear", 5: "CaLabSet", 6: "CaLabGet", 7: "CaLabSelf", 8: "CaLabOf", 9: "CaLabJoin", 10: "CaLabLeq", 11: "CaLabel", 12: "CaClear",
		32: "CaSpace", 33: "CaHandler", 34: "CaVector", 35: "CaYield", 36: "CaHalt", 37: "CaWait", 38: "CaAlert", 39: "CaTake", 43: "CaWaitDev",
	}
}

// String tells a call.
func (d deed) String() string { return fmt.Sprintf("%s%v", names()[d.n], d.a) }

// levelOf is a category's level, 1 (2) where the label says nothing.
func levelOf(l api.Label, cat uint64) int {
	for _, p := range l {
		if p.Cat == cat {
			return p.Lev
		}
	}
	return api.Lev1
}

// raised is a level, ownership above all.
func raised(lev int) int {
	if lev == api.Star {
		return api.Above
	}
	return lev
}

// all tells whether something holds of the levels of each category that one of two labels has.
func all(a, b api.Label, holds func(int, int) bool) bool {
	for _, p := range slices.Concat(a, b) {
		if !holds(levelOf(a, p.Cat), levelOf(b, p.Cat)) {
			return false
		}
	}
	return true
}

// atMost tells whether a label is at most another one.
func atMost(a, b api.Label) bool { return all(a, b, func(x, y int) bool { return x <= y }) }

// shown is how others see an object: a thread with what it owns above all.
func shown(o api.Object) api.Label {
	l := slices.Clone(o.Label)
	for at := range l {
		if o.Kind == api.KdThread {
			l[at].Lev = raised(l[at].Lev)
		}
	}
	return l
}

// sees tells whether a thread may see a thing, by chapter 17's words.
func sees(t, o api.Object) bool {
	return all(t.Label, shown(o), func(x, y int) bool { return y <= raised(x) })
}

// changes tells whether a thread may change a thing.
func changes(t, o api.Object) bool { return sees(t, o) && atMost(t.Label, o.Label) }

// mayLie tells whether what has a label may lie in a container, by chapter 3's words of Place.
func mayLie(d, o api.Label) bool {
	return all(d, o, func(x, y int) bool { return x <= max(raised(y), api.Lev1) })
}

// leveled is a label with a category's level, 1 (2) by no pair.
func leveled(l api.Label, cat uint64, lev int) api.Label {
	var out api.Label
	for _, p := range l {
		if p.Cat != cat {
			out = append(out, p)
		}
	}
	if lev != api.Lev1 {
		out = append(out, api.Pair{Cat: cat, Lev: lev})
	}
	slices.SortFunc(out, func(a, b api.Pair) int { return cmp.Compare(a.Cat, b.Cat) })
	return out
}

// joined is the greater levels of two labels.
func joined(a, b api.Label) api.Label {
	var out api.Label
	for _, p := range slices.Concat(a, b) {
		out = leveled(out, p.Cat, max(levelOf(a, p.Cat), levelOf(b, p.Cat)))
	}
	return out
}

// wrong is something that is wrong with a call: what, in a word, and the error that the chapter has for it.
type wrong struct {
	what string
	err  api.Errno
}

// asking is a call by a thread of a world, and what is wrong with it, in the chapter's order.
type asking struct {
	world  api.World
	caller api.Object
	deed
	wrongs []wrong
}

// unless notes that something is wrong, unless something holds.
func (q *asking) unless(holds bool, what string, err api.Errno) {
	if !holds {
		q.wrongs = append(q.wrongs, wrong{what, err})
	}
}

// dir notes what is wrong with a container that is to be seen.
func (q *asking) dir(id uint64) *api.Object {
	d := of(q.world, id)
	if d == nil || d.Kind != api.KdContainer {
		q.unless(false, "no container", api.ErrName)
		return nil
	}
	q.unless(sees(q.caller, *d), "hidden", api.ErrName)
	return d
}

// named notes what is wrong with what the first two arguments name, which is to be of a kind (0: of any), and to be seen or changed; nil, if it is none of the kind.
func (q *asking) named(kind int, write bool) *api.Object {
	d := q.dir(q.a[0])
	if d == nil || !slices.Contains(d.Links, q.a[1]) {
		q.unless(false, "not there", api.ErrName)
		return nil
	}
	o := of(q.world, q.a[1])
	if kind != 0 && o.Kind != kind {
		q.unless(false, "kind", api.ErrKind)
		return nil
	}
	q.unless(sees(q.caller, *o), "not to see", api.ErrLabel)
	q.unless(!write || changes(q.caller, *o), "not to change", api.ErrLabel)
	return o
}

// register is the label register that an argument names; what is wrong with it is noted.
func (q *asking) register(at int) api.Label {
	if q.a[at] > 3 {
		q.unless(false, "register", api.ErrArg)
		return nil
	}
	return q.caller.Thread.Labs[q.a[at]]
}

// becomes is the world with the caller as something has made of it.
func (q *asking) becomes(does func(*api.Thread)) (api.World, uint64) {
	if len(q.wrongs) > 0 {
		return q.world, 0
	}
	return with(q.world, q.caller.Id, func(o *api.Object) { does(&o.Thread) }), 0
}

// keeps is the world with a label in the register that an argument names.
func (q *asking) keeps(at int, l api.Label) (api.World, uint64) {
	return q.becomes(func(t *api.Thread) { t.Labs[q.a[at]] = l })
}

// newCat is CaNewCat.
func (q *asking) newCat() (api.World, uint64) {
	t := q.caller
	q.unless(len(t.Label) < topPairs, "full label", api.ErrFull)
	q.unless(len(t.Thread.Clear) < topPairs, "full clearance", api.ErrFull)
	q.unless(t.Thread.Span.Lo < t.Thread.Span.Hi, "spent", api.ErrSerial)
	cat := perm.Name(q.world.Key, t.Thread.Span.Lo)
	behind := with(q.world, t.Id, func(o *api.Object) {
		o.Label, o.Thread.Clear = leveled(o.Label, cat, api.Star), leveled(o.Thread.Clear, cat, api.Lev3)
		o.Thread.Span.Lo++
	})
	return behind, cat
}

// labels is CaLabClear to CaLabSelf.
func (q *asking) labels() (api.World, uint64) {
	l := q.register(0)
	switch q.n {
	case 4:
		return q.keeps(0, nil)
	case 5:
		q.unless(q.a[2] <= 4, "level", api.ErrArg)
		l = leveled(l, q.a[1], int(min(q.a[2], 4)))
		q.unless(len(l) <= topPairs, "full", api.ErrFull)
		return q.keeps(0, l)
	case 6:
		return q.world, uint64(levelOf(l, q.a[1]))
	}
	return q.keeps(0, q.caller.Label)
}

// pairs is CaLabJoin and CaLabLeq.
func (q *asking) pairs() (api.World, uint64) {
	k, j := q.register(0), q.register(1)
	if q.n == 9 {
		q.unless(len(joined(k, j)) <= topPairs, "full", api.ErrFull)
		return q.keeps(0, joined(k, j))
	}
	if atMost(k, j) {
		return q.world, 1
	}
	return q.world, 0
}

// labOf is CaLabOf.
func (q *asking) labOf() (api.World, uint64) {
	q.register(2)
	o := q.named(0, false)
	if o == nil {
		return q.world, 0
	}
	return q.keeps(2, o.Label)
}

// becomesOf is CaLabel and CaClear.
func (q *asking) becomesOf() (api.World, uint64) {
	l, t := q.register(0), q.caller
	q.unless(atMost(t.Label, l), "below", api.ErrLabel)
	if q.n == 12 {
		q.unless(all(l, joined(t.Thread.Clear, shown(t)), func(x, y int) bool { return x <= y }), "above", api.ErrLabel)
		return q.becomes(func(t *api.Thread) { t.Clear = l })
	}
	q.unless(atMost(l, t.Thread.Clear), "above", api.ErrLabel)
	for _, d := range q.world.Objects {
		q.unless(!slices.Contains(d.Links, t.Id) || mayLie(d.Label, l), "place", api.ErrLabel)
	}
	return with(q.world, t.Id, func(o *api.Object) { o.Label = l }), 0
}

// settles is CaSpace to CaHalt.
func (q *asking) settles() (api.World, uint64) {
	return q.becomes(func(t *api.Thread) {
		switch q.n {
		case 32:
			t.Space = api.Ref{Cont: q.a[0], Id: q.a[1]}
		case 33:
			t.Handler = q.a[0]
		case 34:
			t.Vector = q.a[0]
		case 36:
			t.State, t.Wait = api.ThHalt, api.Wait{}
		}
	})
}

// waits is CaWait and CaWaitDev.
func (q *asking) waits() (api.World, uint64) {
	what := api.Wait{Ref: api.Ref{Cont: q.a[0], Id: q.a[1]}, Dev: true}
	there := false
	if q.n == 43 {
		o := q.named(api.KdDevice, false)
		there = o != nil && len(o.In) > 0
	} else if o := q.named(api.KdSegment, false); o != nil {
		at := q.a[2]
		q.unless(at < uint64(len(o.Data)), "behind the last word", api.ErrRange)
		there = at < uint64(len(o.Data)) && o.Data[at] != q.a[3]
		what.Index, what.Val, what.Dev = at, q.a[3], false
	}
	if there {
		return q.world, 0
	}
	return q.becomes(func(t *api.Thread) { t.State, t.Wait = api.ThWait, what })
}

// alerts is CaAlert and CaTake.
func (q *asking) alerts() (api.World, uint64) {
	if q.n == 39 {
		l := q.caller.Thread.Alerts
		if len(l) == 0 {
			q.unless(false, "none", api.ErrEmpty)
			return q.world, 0
		}
		behind, _ := q.becomes(func(t *api.Thread) { t.Alerts = slices.Delete(t.Alerts, 0, 1) })
		return behind, l[0]
	}
	o := q.named(api.KdThread, true)
	if o == nil {
		return q.world, 0
	}
	q.unless(len(o.Thread.Alerts) < topAlerts, "full", api.ErrFull)
	return with(q.world, o.Id, func(o *api.Object) { o.Thread.Alerts = append(o.Thread.Alerts, q.a[2]) }), 0
}

// comes is what a call that may go well comes to.
func (q *asking) comes() (api.World, uint64) {
	switch q.n {
	case 1:
		return q.world, q.caller.Id
	case 2:
		return q.world, uint64(q.world.Time)
	case 3:
		return q.newCat()
	case 4, 5, 6, 7:
		return q.labels()
	case 8:
		return q.labOf()
	case 9, 10:
		return q.pairs()
	case 11, 12:
		return q.becomesOf()
	case 37, 43:
		return q.waits()
	case 38, 39:
		return q.alerts()
	}
	return q.settles()
}

// outcome is what a call comes to by the chapter's words. Beside something wrong the world is as it was, the value 0.
func outcome(w api.World, id uint64, d deed) (api.World, uint64, []wrong) {
	q := &asking{world: w, caller: *of(w, id), deed: d}
	behind, value := q.comes()
	if len(q.wrongs) > 0 {
		return w, 0, q.wrongs
	}
	return behind, value, nil
}

// hold holds a call against the chapter's words, and tells the world behind it, its value and its error.
func hold(t *testing.T, w api.World, id uint64, d deed) (api.World, uint64, api.Errno) {
	t.Helper()
	want, wantValue, wrongs := outcome(w, id, d)
	wantErr := api.OK
	if len(wrongs) > 0 {
		wantErr = wrongs[0].err
	}
	before := deep(w)
	behind, value, err, ok := kthr.Do(w, id, d.n, d.a)
	if !ok || err != wantErr || value != wantValue {
		t.Errorf("%v by %d: value %d, error %d, %v, not %d, %d, true; %v", d, id, value, err, ok, wantValue, wantErr, wrongs)
	}
	if !obj.Same(behind, want) {
		t.Errorf("%v by %d: error %d, another world than the chapter says", d, id, err)
	}
	if !reflect.DeepEqual(w, before) {
		t.Errorf("%v by %d changes what it was given", d, id)
	}
	if !tree.Fit(behind) {
		t.Errorf("%v by %d: the world is not whole any more", d, id)
	}
	alone(t, w, behind, id, d)
	onlyUp(t, w, behind, id, d, value)
	return behind, value, err
}

// alone holds P22.4: nothing but the caller is another one, but by an alert, which adds to the Alerts of what it names.
func alone(t *testing.T, w, behind api.World, id uint64, d deed) {
	t.Helper()
	if !slices.Equal(idsOf(w), idsOf(behind)) || w.Time != behind.Time || w.Key != behind.Key || w.Root != behind.Root {
		t.Fatalf("%v by %d: there are other objects, or another time, key or Root", d, id)
	}
	for at, o := range w.Objects {
		now := deep(behind.Objects[at])
		if o.Id == id && d.n != api.CaAlert {
			continue
		}
		if o.Id == d.a[1] && d.n == api.CaAlert {
			now.Thread.Alerts = o.Thread.Alerts
		}
		if !obj.SameOne(o, now) {
			t.Errorf("%v by %d: %d is another one", d, id, o.Id)
		}
	}
}

// onlyUp holds P22.3: the label of no object falls in a category, but to ownership of a new one, and nothing else gets owned.
func onlyUp(t *testing.T, w, behind api.World, id uint64, d deed, value uint64) {
	t.Helper()
	for at, o := range w.Objects {
		now := behind.Objects[at].Label
		for _, p := range slices.Concat(o.Label, now) {
			was, is := levelOf(o.Label, p.Cat), levelOf(now, p.Cat)
			if o.Id == id && d.n == api.CaNewCat && p.Cat == value {
				continue
			}
			if is < was || is == api.Star && was != api.Star {
				t.Errorf("%v by %d: %d comes from %d to %d in %d", d, id, o.Id, was, is, p.Cat)
			}
		}
	}
}

// lists visits each list of a value, from without to within; what the visitor puts in its place is gone through in its stead.
func lists(v reflect.Value, visit func(reflect.Value)) {
	switch v.Kind() {
	case reflect.Struct:
		for i := range v.NumField() {
			lists(v.Field(i), visit)
		}
	case reflect.Slice:
		visit(v)
		fallthrough
	case reflect.Array:
		if v.Type().Elem().Kind() == reflect.Uint64 {
			return
		}
		for i := range v.Len() {
			lists(v.Index(i), visit)
		}
	}
}

// deep is a copy that shares no memory; a list that is there, but empty, stays so.
func deep[T any](x T) T {
	lists(reflect.ValueOf(&x).Elem(), func(l reflect.Value) {
		if !l.IsNil() {
			own := reflect.MakeSlice(l.Type(), l.Len(), l.Len())
			reflect.Copy(own, l)
			l.Set(own)
		}
	})
	return x
}

// roomy makes each list of a value one that has room for more behind its end, and each that is none an empty one.
func roomy[T any](x *T) {
	lists(reflect.ValueOf(x).Elem(), func(l reflect.Value) {
		own := reflect.MakeSlice(l.Type(), l.Len(), l.Len()+3)
		reflect.Copy(own, l)
		l.Set(own)
	})
}

// emptyLists counts the lists of a value that are there, but empty.
func emptyLists(x any) int {
	count := 0
	lists(reflect.ValueOf(x), func(l reflect.Value) {
		if l.Len() == 0 && !l.IsNil() {
			count++
		}
	})
	return count
}

// stretch is where a list stands in memory, with all that it has room for.
type stretch struct {
	from, to uintptr
	told     bool
}

// stretches are where the lists of a value stand.
func stretches(x any, told bool) []stretch {
	var out []stretch
	lists(reflect.ValueOf(x), func(l reflect.Value) {
		if l.Cap() > 0 {
			out = append(out, stretch{l.Pointer(), l.Pointer() + uintptr(l.Cap())*l.Type().Elem().Size(), told})
		}
	})
	return out
}

// overlap tells whether a list that was told stands where another one does. What was given may share with itself.
func overlap(all []stretch) bool {
	slices.SortFunc(all, func(a, b stretch) int { return cmp.Compare(a.from, b.from) })
	var endGiven, endTold uintptr
	for _, s := range all {
		if s.from < endTold || s.told && s.from < endGiven {
			return true
		}
		if s.told {
			endTold = max(endTold, s.to)
		} else {
			endGiven = max(endGiven, s.to)
		}
	}
	return false
}
