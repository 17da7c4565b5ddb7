package reach

import (
	"fmt"
	"math"
	"math/rand"
	"reflect"
	"slices"
	"testing"

	"curtilage/api"
	"curtilage/check"
	"curtilage/label"
	"curtilage/obj"
	"curtilage/sweep"
	"curtilage/tree"
)

// house is a small world: what all may see and change, what is secret (the first category at 3), what is trusted (at 0), and threads that are shown above what they have.
//
// In the Root (1): an open container (2), a secret (3) and a trusted one (4), things (10 to 12, 30), threads (13, 14, 29); 15 and 20 lie in several containers.
func house() api.World {
	secret, trusted, owner := one(api.Lev3), one(api.Lev0), one(api.Star)
	both := two(api.Lev3, api.Lev3)
	return world(
		box(root, 200, nil, 2, 3, 4, 10, 11, 12, 13, 14, 15, 20, 29, 30),
		box(2, 40, nil, 6, 15, 16, 17), box(3, 40, secret, 20, 22, 23, 24), box(4, 40, trusted, 15, 26, 27, 28),
		thing(api.KdSegment, 10, nil), thing(api.KdSegment, 11, secret), thing(api.KdSegment, 12, trusted),
		thing(api.KdThread, 13, owner), thing(api.KdThread, 14, nil), thing(api.KdThread, 29, trusted), thing(api.KdDevice, 30, two(api.Lev1, api.Lev2)),
		fixed(thing(api.KdGate, 15, nil)), thing(api.KdDevice, 16, nil), thing(api.KdSpace, 17, secret),
		box(6, 20, secret, 18, 19), thing(api.KdSegment, 18, secret), thing(api.KdThread, 19, owner),
		fixed(thing(api.KdSegment, 20, secret)), thing(api.KdThread, 22, owner), thing(api.KdThread, 23, secret),
		box(24, 10, both, 25), thing(api.KdSegment, 25, both),
		thing(api.KdSegment, 26, trusted), thing(api.KdSegment, 27, nil), thing(api.KdThread, 28, trusted))
}

// grid is a Root of a label, in it a container of each label that may lie there, and in each of these a thing of each label that may, and a thread of each.
func grid(top api.Label) api.World {
	all := []api.Object{box(root, 1000, top)}
	next := uint64(2)
	lay := func(at int, o api.Object) {
		if check.Place(all[at].Label, o.Label) {
			all[at].Links = append(all[at].Links, next)
			all = append(all, o)
			next++
		}
	}
	for _, l := range labelsFrom(api.Lev0, api.Lev3) {
		lay(0, box(next, 60, l))
	}
	others := []int{api.KdSegment, api.KdSpace, api.KdGate, api.KdDevice, api.KdContainer}
	for at := 1; all[at].Quota == 60; at++ {
		for _, l := range labelsFrom(api.Lev0, api.Lev3) {
			lay(at, small(thing(others[next%5], next, l)))
		}
		for _, l := range labelsFrom(api.Star, api.Lev3) {
			lay(at, small(thing(api.KdThread, next, l)))
		}
	}
	return world(all...)
}

// small is an object of the least Quota that it can have.
func small(o api.Object) api.Object {
	o.Quota = obj.Pages(o)
	return o
}

// full is a Root of as many links as there may be, with ids from 1 to the greatest one.
func full() api.World {
	links := []uint64{2, topId}
	for len(links) < topLinks {
		links = append(links, uint64(len(links))<<40)
	}
	all := []api.Object{box(root, 900, nil, links...)}
	for at, id := range links {
		all = append(all, thing(kinds()[at%6], id, one(at%3+api.Lev1)))
	}
	return world(all...)
}

// chain is a Root and containers, each in the one ahead of it, ever more secret, with a segment in the last one.
func chain() api.World {
	return world(
		box(50, 60, nil, 40), box(40, 50, one(api.Lev2), 60), box(60, 40, one(api.Lev3), 30),
		box(30, 30, two(api.Lev3, api.Lev2), 70), box(70, 20, two(api.Lev3, api.Lev3), 20),
		thing(api.KdSegment, 20, two(api.Lev3, api.Lev3)))
}

// wholes are worlds that are whole.
func wholes() map[string]api.World {
	return map[string]api.World{
		"a Root alone":        world(box(root, 1, nil)),
		"a secret Root alone": world(box(topId, 1, one(api.Lev3))),
		"a house":             house(),
		"a chain":             chain(),
		"a full Root":         full(),
	}
}

// grids are greater worlds that are whole.
func grids() map[string]api.World {
	return map[string]api.World{
		"a Root of no pairs": grid(nil),
		"a trusted Root":     grid(two(api.Lev0, api.Lev0)),
		"a secret Root":      grid(one(api.Lev3)),
		"a mixed Root":       grid(two(api.Lev0, api.Lev2)),
	}
}

// askers are threads of each label, of no world.
func askers() []api.Object {
	var out []api.Object
	for _, l := range labelsFrom(api.Star, api.Lev3) {
		out = append(out, asker(l))
	}
	return out
}

// strange are ids that are no object's of these worlds.
func strange() []uint64 { return []uint64{0, 999, topId - 1, topId + 1, 1 << 63, math.MaxUint64} }

// oddKinds are numbers that are no kind, but for 0, which stands for all of them.
func oddKinds() []int {
	return []int{-1, 7, -api.KdSegment, -api.KdThread, 1 << 32, 1<<32 + api.KdSegment, math.MinInt, math.MaxInt}
}

// The worlds of these tests are whole, the threads sound.
func TestWholes(t *testing.T) {
	for name, w := range wholes() {
		if !tree.Fit(w) {
			t.Errorf("%s is not whole", name)
		}
	}
	for name, w := range grids() {
		if !tree.Fit(w) {
			t.Errorf("%s is not whole", name)
		}
	}
	if n := len(grid(nil).Objects); n < 300 {
		t.Errorf("a Root of no pairs has %d objects", n)
	}
	for _, a := range askers() {
		if !obj.Sound(a) {
			t.Errorf("a thread of %v is not sound", a.Label)
		}
	}
}

// hold holds a call against the chapter's words, and tells its error.
func hold(t *testing.T, w api.World, th api.Object, a ask) api.Errno {
	t.Helper()
	want := api.OK
	if errs := a.errs(w, th); len(errs) > 0 {
		want = errs[0]
	}
	got, err := a.do(w, th)
	if err != want {
		t.Errorf("%s by a thread of %v: error %d, not %d", a.name, th.Label, err, want)
	}
	if err != api.OK && !reflect.DeepEqual(got, api.Object{}) {
		t.Errorf("%s by a thread of %v tells something beside error %d", a.name, th.Label, err)
	}
	if err == api.OK && want == api.OK && !obj.SameOne(got, *of(w, a.id)) {
		t.Errorf("%s by a thread of %v tells another object", a.name, th.Label)
	}
	return err
}

// asked is a call by a thread, and the error that is written out for it.
type asked struct {
	by   api.Object
	ask  ask
	want api.Errno
}

// holdRows holds rows in a world against what is written out, and against the chapter's words.
func holdRows(t *testing.T, w api.World, rows map[string][]asked) {
	t.Helper()
	for name, row := range rows {
		for _, r := range row {
			if err := hold(t, w, r.by, r.ask); err != r.want {
				t.Errorf("%s: %s by a thread of %v: error %d, not %d", name, r.ask.name, r.by.Label, err, r.want)
			}
		}
	}
}

// The threads of the written-out rows: of no pairs; one that owns the first category; at 3, at 2 and at 0 in it; and one that owns it, at 3 in the second one.
func plain() api.Object    { return asker(nil) }
func owner() api.Object    { return asker(one(api.Star)) }
func secret() api.Object   { return asker(one(api.Lev3)) }
func wary() api.Object     { return asker(one(api.Lev2)) }
func trusted() api.Object  { return asker(one(api.Lev0)) }
func ownerToo() api.Object { return asker(two(api.Star, api.Lev3)) }

// Example 1: what lies nowhere has no name; the Root is not written by a thread at 3.
func TestExample(t *testing.T) {
	w := api.World{Root: 1, Objects: []api.Object{{Id: 1, Kind: api.KdContainer, Quota: 3}}}
	th := api.Object{Id: 9, Kind: api.KdThread, Quota: 1, Label: one(api.Lev3), Thread: api.Thread{Clear: one(api.Lev3)}}
	if o, err := Look(w, th, api.Ref{Cont: 1, Id: 2}); err != api.ErrName || !reflect.DeepEqual(o, api.Object{}) {
		t.Errorf("Look of what lies nowhere: %v, error %d", o, err)
	}
	if o, err := Dir(w, th, 1, true); err != api.ErrLabel || !reflect.DeepEqual(o, api.Object{}) {
		t.Errorf("Dir of the Root to write: %v, error %d", o, err)
	}
	if o, err := Dir(w, th, 1, false); err != api.OK || !obj.SameOne(o, w.Objects[0]) {
		t.Errorf("Dir of the Root not to write: %v, error %d", o, err)
	}
}

// P17.1: Dir, written out.
func TestDir(t *testing.T) {
	rows := map[string][]asked{
		"the Root": {
			{plain(), dir(root, false), api.OK}, {plain(), dir(root, true), api.OK},
			{owner(), dir(root, false), api.OK}, {owner(), dir(root, true), api.OK},
			{secret(), dir(root, false), api.OK}, {secret(), dir(root, true), api.ErrLabel},
			{ownerToo(), dir(root, false), api.OK}, {ownerToo(), dir(root, true), api.ErrLabel}},
		"a container that may be seen, and not changed": {
			{secret(), dir(2, false), api.OK}, {secret(), dir(2, true), api.ErrLabel},
			{plain(), dir(4, false), api.OK}, {plain(), dir(4, true), api.ErrLabel},
			{ownerToo(), dir(3, false), api.OK}, {ownerToo(), dir(3, true), api.ErrLabel}},
		"a container that may be changed": {
			{plain(), dir(2, true), api.OK}, {secret(), dir(3, true), api.OK}, {secret(), dir(6, true), api.OK},
			{owner(), dir(3, true), api.OK}, {owner(), dir(4, true), api.OK}, {trusted(), dir(4, true), api.OK},
			{ownerToo(), dir(24, true), api.OK}, {asker(two(api.Star, api.Star)), dir(24, true), api.OK}},
		"a container that may not be seen, which is told ahead of that it may not be changed": {
			{plain(), dir(3, false), api.ErrName}, {plain(), dir(3, true), api.ErrName},
			{wary(), dir(3, true), api.ErrName}, {wary(), dir(6, false), api.ErrName},
			{trusted(), dir(root, false), api.ErrName}, {trusted(), dir(root, true), api.ErrName},
			{owner(), dir(24, false), api.ErrName}, {owner(), dir(24, true), api.ErrName},
			{secret(), dir(24, false), api.ErrName}, {secret(), dir(24, true), api.ErrName}},
		"a container in one that may not be seen": {
			{asker(two(api.Lev3, api.Star)), dir(24, false), api.OK}, {asker(two(api.Lev3, api.Star)), dir(24, true), api.OK}},
	}
	for _, th := range []api.Object{plain(), owner(), secret(), trusted()} {
		for _, id := range slices.Concat(strange(), []uint64{10, 11, 12, 13, 14, 15, 16, 17, 20, 26, 30}) {
			rows["no container"] = append(rows["no container"], asked{th, dir(id, false), api.ErrName}, asked{th, dir(id, true), api.ErrName})
		}
	}
	holdRows(t, house(), rows)
}

// P17.1: Look, written out.
func TestLook(t *testing.T) {
	name := func(d, id uint64) ask { return look(api.Ref{Cont: d, Id: id}) }
	rows := map[string][]asked{
		"what may be seen":               {{plain(), name(root, 10), api.OK}, {plain(), name(2, 16), api.OK}, {secret(), name(3, 23), api.OK}, {owner(), name(6, 18), api.OK}, {trusted(), name(4, 26), api.OK}},
		"what may not be seen itself":    {{plain(), name(root, 11), api.OK}, {plain(), name(2, 17), api.OK}, {plain(), name(root, 30), api.OK}, {trusted(), name(4, 27), api.OK}, {secret(), name(3, 24), api.OK}},
		"a container that may not be":    {{plain(), name(root, 3), api.OK}, {plain(), name(2, 6), api.OK}, {owner(), name(3, 24), api.OK}},
		"a thread that may not be":       {{plain(), name(root, 13), api.OK}, {secret(), name(3, 22), api.OK}, {secret(), name(6, 19), api.OK}},
		"in several containers, by each": {{plain(), name(root, 15), api.OK}, {plain(), name(2, 15), api.OK}, {plain(), name(4, 15), api.OK}, {owner(), name(3, 20), api.OK}, {owner(), name(root, 20), api.OK}},
		"by one that may not be seen":    {{plain(), name(3, 20), api.ErrName}, {plain(), name(root, 20), api.OK}, {trusted(), name(root, 15), api.ErrName}, {trusted(), name(2, 15), api.ErrName}, {trusted(), name(4, 15), api.OK}},
		"in another container alone":     {{plain(), name(root, 16), api.ErrName}, {plain(), name(2, 10), api.ErrName}, {owner(), name(root, 18), api.ErrName}, {owner(), name(2, 18), api.ErrName}, {plain(), name(4, 10), api.ErrName}, {owner(), name(3, 15), api.ErrName}},
		"what lies nowhere":              {{plain(), name(root, root), api.ErrName}, {plain(), name(2, root), api.ErrName}, {owner(), name(4, root), api.ErrName}},
		"the container itself":           {{plain(), name(2, 2), api.ErrName}, {owner(), name(3, 3), api.ErrName}},
		"the wrong way round":            {{plain(), name(2, root), api.ErrName}, {plain(), name(10, root), api.ErrName}, {owner(), name(6, 2), api.ErrName}},
		"in what is no container":        {{plain(), name(10, 10), api.ErrName}, {plain(), name(10, 16), api.ErrName}, {owner(), name(13, 13), api.ErrName}, {plain(), name(15, 10), api.ErrName}},
		"hidden, and not in it":          {{plain(), name(3, 10), api.ErrName}, {plain(), name(3, 999), api.ErrName}, {trusted(), name(root, 999), api.ErrName}},
	}
	for _, id := range strange() {
		rows["nothing's id"] = append(rows["nothing's id"], asked{plain(), name(root, id), api.ErrName}, asked{owner(), name(3, id), api.ErrName}, asked{plain(), name(id, 10), api.ErrName}, asked{owner(), name(id, id), api.ErrName})
	}
	holdRows(t, house(), rows)
}

// both are See and Change of a name, with the errors that are written out for them.
func both(by api.Object, d, id uint64, kind int, sees, changes api.Errno) []asked {
	r := api.Ref{Cont: d, Id: id}
	return []asked{{by, see(r, kind), sees}, {by, change(r, kind), changes}}
}

// P17.2: See and Change, written out.
func TestSeeChange(t *testing.T) {
	const anyKind, seg, thr = 0, api.KdSegment, api.KdThread
	rows := map[string][]asked{
		"kind 0": slices.Concat(
			both(plain(), root, 10, anyKind, api.OK, api.OK), both(plain(), root, 2, anyKind, api.OK, api.OK),
			both(plain(), 2, 15, anyKind, api.OK, api.OK), both(plain(), 2, 16, anyKind, api.OK, api.OK),
			both(owner(), 2, 17, anyKind, api.OK, api.OK), both(plain(), root, 14, anyKind, api.OK, api.OK)),
		"its own kind": slices.Concat(
			both(plain(), root, 10, seg, api.OK, api.OK), both(plain(), root, 2, api.KdContainer, api.OK, api.OK),
			both(plain(), 2, 15, api.KdGate, api.OK, api.OK), both(plain(), 2, 16, api.KdDevice, api.OK, api.OK),
			both(owner(), 2, 17, api.KdSpace, api.OK, api.OK), both(plain(), root, 14, thr, api.OK, api.OK)),
		"another kind": slices.Concat(
			both(plain(), root, 10, api.KdSpace, api.ErrKind, api.ErrKind), both(plain(), root, 2, seg, api.ErrKind, api.ErrKind),
			both(plain(), 2, 15, api.KdDevice, api.ErrKind, api.ErrKind), both(owner(), root, 13, api.KdGate, api.ErrKind, api.ErrKind)),
		"another kind, told ahead of labels": slices.Concat(
			both(plain(), root, 11, thr, api.ErrKind, api.ErrKind), both(plain(), root, 13, seg, api.ErrKind, api.ErrKind),
			both(secret(), root, 10, thr, api.ErrKind, api.ErrKind), both(plain(), root, 3, api.KdDevice, api.ErrKind, api.ErrKind)),
		"may be seen, and not changed": slices.Concat(
			both(secret(), root, 10, seg, api.OK, api.ErrLabel), both(plain(), root, 12, seg, api.OK, api.ErrLabel),
			both(secret(), root, 14, thr, api.OK, api.ErrLabel), both(plain(), 4, 28, thr, api.OK, api.ErrLabel),
			both(ownerToo(), 3, 22, anyKind, api.OK, api.ErrLabel), both(secret(), root, 2, anyKind, api.OK, api.ErrLabel)),
		"may not be seen": slices.Concat(
			both(plain(), root, 11, seg, api.ErrLabel, api.ErrLabel), both(plain(), 2, 17, anyKind, api.ErrLabel, api.ErrLabel),
			both(wary(), root, 20, seg, api.ErrLabel, api.ErrLabel), both(trusted(), 4, 27, seg, api.ErrLabel, api.ErrLabel),
			both(owner(), root, 30, api.KdDevice, api.ErrLabel, api.ErrLabel), both(owner(), 3, 24, anyKind, api.ErrLabel, api.ErrLabel)),
		"a thread is shown above what it owns": slices.Concat(
			both(plain(), root, 13, thr, api.ErrLabel, api.ErrLabel), both(secret(), root, 13, thr, api.ErrLabel, api.ErrLabel),
			both(secret(), 3, 22, anyKind, api.ErrLabel, api.ErrLabel), both(owner(), root, 13, thr, api.OK, api.OK),
			both(owner(), 3, 22, anyKind, api.OK, api.OK), both(ownerToo(), root, 13, thr, api.OK, api.ErrLabel)),
		"who owns what guards it": slices.Concat(
			both(owner(), root, 11, seg, api.OK, api.OK), both(owner(), root, 12, seg, api.OK, api.OK), both(owner(), root, 10, seg, api.OK, api.OK),
			both(owner(), 3, 20, seg, api.OK, api.OK), both(owner(), root, 20, seg, api.OK, api.OK), both(owner(), 3, 23, thr, api.OK, api.OK)),
		"the same by another container": slices.Concat(
			both(secret(), root, 20, seg, api.OK, api.OK), both(secret(), 3, 20, seg, api.OK, api.OK),
			both(plain(), 4, 15, api.KdGate, api.OK, api.OK), both(plain(), root, 15, api.KdGate, api.OK, api.OK)),
	}
	for _, kind := range oddKinds() {
		for _, id := range []uint64{2, 3, 10, 11, 13, 14, 15, 30} {
			rows["no kind"] = slices.Concat(rows["no kind"], both(plain(), root, id, kind, api.ErrKind, api.ErrKind))
		}
	}
	for _, kind := range append(oddKinds(), 0, 1, 2, 3, 4, 5, 6) {
		for _, id := range append(strange(), root, 16, 18) {
			rows["no name"] = slices.Concat(rows["no name"], both(plain(), root, id, kind, api.ErrName, api.ErrName), both(secret(), root, id, kind, api.ErrName, api.ErrName))
		}
		for _, d := range append(strange(), 3, 6, 10, 13, 15) {
			rows["no container that is seen"] = slices.Concat(rows["no container that is seen"], both(plain(), d, 20, kind, api.ErrName, api.ErrName), both(plain(), d, 10, kind, api.ErrName, api.ErrName))
		}
	}
	holdRows(t, house(), rows)
}

// asks are all calls of a name.
func asks(w api.World, r api.Ref) []ask {
	out := []ask{look(r), dir(r.Cont, false), dir(r.Cont, true), dir(r.Id, false), dir(r.Id, true)}
	some := []int{0, 7, -1}
	if o := of(w, r.Id); o != nil {
		some = append(some, o.Kind, o.Kind%6+1)
	}
	for _, kind := range some {
		out = append(out, see(r, kind), change(r, kind))
	}
	return out
}

// P17.1, P17.2: each pair of ids as a name, by a thread of each label, in each small world.
func TestEachName(t *testing.T) {
	for name, w := range wholes() {
		t.Run(name, func(t *testing.T) {
			all, threads := append(ids(w), strange()...), askers()
			was := deep(w)
			for _, d := range all {
				for at, id := range all {
					if len(all) > 60 && d != w.Root && at%7 > 0 {
						continue
					}
					calls := asks(w, api.Ref{Cont: d, Id: id})
					for _, th := range threads {
						for _, a := range calls {
							hold(t, w, th, a)
						}
					}
				}
			}
			if !reflect.DeepEqual(w, was) {
				t.Error("what was handed in is another one")
			}
		})
	}
}

// P17.1, P17.2: things and threads of each label in containers of each label, by a thread of each label; all errors are told.
func TestEachLabel(t *testing.T) {
	for name, w := range grids() {
		t.Run(name, func(t *testing.T) {
			told := map[api.Errno]int{}
			for _, r := range namesOf(w) {
				o := *of(w, r.Id)
				calls := []ask{look(r), see(r, 0), change(r, 0), see(r, o.Kind), change(r, o.Kind), see(r, o.Kind%6+1), change(r, o.Kind%6+1), dir(r.Id, false), dir(r.Id, true)}
				for _, th := range askers() {
					for _, a := range calls {
						told[hold(t, w, th, a)]++
					}
				}
			}
			for _, err := range []api.Errno{api.OK, api.ErrName, api.ErrLabel, api.ErrKind} {
				if told[err] == 0 {
					t.Errorf("error %d is never told", err)
				}
			}
			if len(told) != 4 {
				t.Errorf("told are %v", told)
			}
		})
	}
}

// P17.1, P17.2: where several errors apply, the first one that the chapter names is told; each pair that can be is met with.
func TestFirstError(t *testing.T) {
	pairs := map[string]int{}
	for _, w := range []api.World{house(), grid(nil)} {
		for _, r := range append(namesOf(w), api.Ref{Cont: 3, Id: 10}, api.Ref{Cont: 10, Id: 11}, api.Ref{Cont: root, Id: 18}) {
			for _, th := range askers() {
				for _, a := range []ask{dir(r.Cont, true), look(r), see(r, 99), change(r, 99), see(r, 0), change(r, 0)} {
					if errs := a.errs(w, th); len(errs) > 1 {
						pairs[fmt.Sprint(a.name[:3], errs[:2])]++
						hold(t, w, th, a)
					}
				}
			}
		}
	}
	for _, call := range []string{"See", "Cha"} {
		for _, errs := range [][]api.Errno{{api.ErrName, api.ErrKind}, {api.ErrName, api.ErrLabel}, {api.ErrKind, api.ErrLabel}, {api.ErrName, api.ErrName}} {
			if pairs[fmt.Sprint(call, errs)] == 0 {
				t.Errorf("%s: both of %v never apply", call, errs)
			}
		}
	}
	if pairs[fmt.Sprint("Dir", []api.Errno{api.ErrName, api.ErrLabel})] == 0 || pairs[fmt.Sprint("Loo", []api.Errno{api.ErrName, api.ErrName})] == 0 {
		t.Errorf("of Dir and Look there are not two errors at once: %v", pairs)
	}
}

// P17.2: a thread that asks for itself may see and change itself, where its container may be seen.
func TestItself(t *testing.T) {
	for _, w := range []api.World{house(), grid(nil), grid(one(api.Lev3))} {
		met := [2]int{}
		for _, r := range namesOf(w) {
			self := *of(w, r.Id)
			if self.Kind != api.KdThread {
				continue
			}
			want := api.OK
			if !maySee(self, *of(w, r.Cont)) {
				want = api.ErrName
			}
			met[want]++
			for _, a := range []ask{look(r), see(r, 0), see(r, api.KdThread), change(r, 0), change(r, api.KdThread)} {
				if err := hold(t, w, self, a); err != want {
					t.Errorf("%s by a thread of %v, itself: error %d, not %d", a.name, self.Label, err, want)
				}
			}
		}
		if met[api.OK] == 0 || met[api.ErrName] == 0 {
			t.Errorf("of threads there are %v", met)
		}
	}
}

// P17.1, P17.2: the thread need not be of the world; if one of its Id is, it is the one handed in that asks, and the one in the world that is told.
func TestNotOfTheWorld(t *testing.T) {
	w := house()
	for _, id := range append(ids(w), 999, topId) {
		for _, l := range labelsFrom(api.Star, api.Lev3) {
			for _, r := range namesOf(w) {
				for _, a := range []ask{look(r), see(r, 0), change(r, 0), dir(r.Cont, true)} {
					o, err := a.do(w, asker(l))
					same, sameErr := a.do(w, thing(api.KdThread, id, l))
					if err != sameErr || !obj.SameOne(o, same) {
						t.Fatalf("%s by a thread of %v is told error %d, if its Id is %d error %d", a.name, l, err, id, sameErr)
					}
				}
			}
		}
	}
	other := thing(api.KdThread, 14, one(api.Lev3))
	r := api.Ref{Cont: root, Id: 14}
	if o, err := See(w, other, r, api.KdThread); err != api.OK || len(o.Label) != 0 {
		t.Errorf("See: %v, error %d", o.Label, err)
	}
	if _, err := Change(w, other, r, api.KdThread); err != api.ErrLabel {
		t.Errorf("Change: error %d", err)
	}
}

// P17.1, P17.2: of the thread its Label alone counts, not what it is cleared for, or keeps.
func TestLabelAlone(t *testing.T) {
	w := house()
	for _, l := range labelsFrom(api.Star, api.Lev3) {
		th := asker(l)
		bare := api.Object{Id: 3, Kind: api.KdThread, Quota: 9, Label: l}
		bare.Thread.Clear = two(api.Lev3, api.Lev3)
		bare.Thread.State = api.ThHalt
		bare.Thread.Labs = [4]api.Label{two(api.Star, api.Star), two(api.Star, api.Star)}
		if !obj.Sound(bare) {
			t.Fatalf("a thread of %v is not sound", l)
		}
		for _, r := range namesOf(w) {
			for _, a := range []ask{look(r), see(r, 0), change(r, 0), dir(r.Cont, true)} {
				_, err := a.do(w, th)
				if _, other := a.do(w, bare); err != other {
					t.Fatalf("%s by threads of %v: error %d, or %d", a.name, l, err, other)
				}
			}
		}
	}
}

// P17.4: what may be changed may be seen, what may be seen may be named, and it is the same object; neither is so the other way round.
func TestChangeSeeName(t *testing.T) {
	for _, w := range []api.World{house(), chain(), grid(nil), grid(two(api.Lev0, api.Lev2))} {
		unchanged, unseen := 0, 0
		for _, r := range namesOf(w) {
			for _, kind := range []int{0, of(w, r.Id).Kind, 5} {
				for _, th := range askers() {
					named, noName := Look(w, th, r)
					seen, noSee := See(w, th, r, kind)
					changed, noChange := Change(w, th, r, kind)
					if noChange == api.OK && (noSee != api.OK || !obj.SameOne(changed, seen)) {
						t.Errorf("%v may be changed by %v, and not seen: error %d", r, th.Label, noSee)
					}
					if noSee == api.OK && (noName != api.OK || !obj.SameOne(seen, named)) {
						t.Errorf("%v may be seen by %v, and not named: error %d", r, th.Label, noName)
					}
					if noSee != api.OK && noSee != api.ErrLabel && noSee != noChange {
						t.Errorf("%v by %v: to see it is error %d, to change it %d", r, th.Label, noSee, noChange)
					}
					if noSee == api.OK && noChange == api.ErrLabel {
						unchanged++
					}
					if noName == api.OK && noSee == api.ErrLabel {
						unseen++
					}
				}
			}
			for _, th := range askers() {
				d, err := Dir(w, th, r.Cont, true)
				if same, not := Dir(w, th, r.Cont, false); err == api.OK && (not != api.OK || !obj.SameOne(d, same)) {
					t.Errorf("%d may be written by %v, and not seen: error %d", r.Cont, th.Label, not)
				}
			}
		}
		if unchanged == 0 || unseen == 0 {
			t.Errorf("seen and not changed are %d, named and not seen %d", unchanged, unseen)
		}
	}
}

// watchers are the labels of the two categories that have no level below 1.
func watchers() []api.Label { return labelsFrom(api.Lev1, api.Above) }

// watches tells whether an observer sees an object: others see a thread with ownership above all.
func watches(watch api.Label, o api.Object) bool {
	for _, p := range slices.Concat(watch, o.Label) {
		shown := levelOf(o.Label, p.Cat)
		if o.Kind == api.KdThread {
			shown = raised(shown)
		}
		if shown > levelOf(watch, p.Cat) {
			return false
		}
	}
	return true
}

// headOnly is what a container's readers see of any object.
func headOnly(o api.Object) api.Object {
	head := api.Object{Id: o.Id, Kind: o.Kind, Quota: o.Quota, Fixed: o.Fixed}
	if o.Kind != api.KdThread {
		head.Label = o.Label
	}
	return head
}

// sight is what an observer sees of a world: the objects, and the Heads of what lies in containers that it sees.
func sight(w api.World, watch api.Label) []api.Object {
	var out []api.Object
	heads := map[uint64]int{}
	for _, d := range w.Objects {
		if watches(watch, d) {
			out = append(out, d)
			for _, id := range d.Links {
				heads[id]++
			}
		}
	}
	for _, o := range w.Objects {
		if heads[o.Id] > 0 {
			out = append(out, headOnly(o))
		}
	}
	return out
}

// otherwise is an object that an observer does not see, with the same Head, and all else as it is drawn. Its label, if it is a thread, stays one that may lie where it does, and that the observer does not see.
func otherwise(draw *rand.Rand, w api.World, o api.Object, watch api.Label) api.Object {
	n := draw.Uint64() >> 4
	other := thing(o.Kind, o.Id, o.Label)
	switch o.Kind {
	case api.KdSegment:
		o.Data = []uint64{n, n + 1}[:draw.Intn(3)]
		o.Data = o.Data[:min(len(o.Data), 16*(o.Quota-1))]
	case api.KdSpace:
		o.Maps = append(other.Maps, api.Map{Va: 9, N: 1, Seg: n})
	case api.KdThread:
		l := two(draw.Intn(api.Above), draw.Intn(api.Above))
		d := *of(w, tree.Holders(w, o.Id)[0])
		if moved := thing(o.Kind, o.Id, l); check.Place(d.Label, l) && !watches(watch, moved) {
			o.Label, o.Thread = moved.Label, moved.Thread
		}
		o.Thread.Pc = n
	case api.KdGate:
		o.Gate = api.Gate{Grant: nil, Clear: one(api.Lev3), Arg: n}
	case api.KdDevice:
		o.In, o.Out = []uint64{n}, []uint64{n, n, n}
	}
	return o
}

// refilled is a world in which something else lies in a container that an observer does not see.
func refilled(draw *rand.Rand, w api.World, id uint64) api.World {
	for _, in := range of(w, id).Links {
		if draw.Intn(2) == 0 {
			w, _, _ = sweep.Unref(w, id, in)
		}
	}
	for range draw.Intn(4) {
		d := of(w, id)
		o := small(thing(kinds()[draw.Intn(6)], 5000+draw.Uint64()%5000, two(max(levelOf(d.Label, catA), draw.Intn(5)), max(levelOf(d.Label, catB), draw.Intn(5)))))
		if o.Kind != api.KdThread && len(label.Owned(o.Label)) > 0 {
			continue
		}
		w, _ = tree.Attach(w, id, o)
	}
	return w
}

// disguised is a world that an observer can't tell from another one: all that it does not see is another one, but for the Heads of what lies in containers that it sees.
func disguised(draw *rand.Rand, w api.World, watch api.Label) api.World {
	x := deep(w)
	x.Time = draw.Intn(1000)
	for _, o := range w.Objects {
		if now := of(x, o.Id); now != nil && now.Kind == api.KdContainer && !watches(watch, *now) {
			x = refilled(draw, x, o.Id)
		}
	}
	for _, o := range deep(x.Objects) {
		if !watches(watch, o) {
			x = obj.Put(x, otherwise(draw, x, o, watch))
		}
	}
	return x
}

// sameAnswers tells whether a call tells a thread the same of two worlds. Of what may be named, but not seen, that is all but what the Head does not have: Look tells the object for its kind and its quota.
func sameAnswers(a, b api.World, th api.Object, call ask) bool {
	one, errOne := call.do(a, th)
	two, errTwo := call.do(b, th)
	if call.name[:2] == "Lo" && !maySee(th, one) {
		one, two = obj.Head(one), obj.Head(two)
	}
	return errOne == errTwo && obj.SameOne(one, two)
}

// differ counts the calls, of all threads that an observer sees, or of those that it does not, that are told unlike things of two worlds.
func differ(t *testing.T, a, b api.World, watch api.Label, seen bool) int {
	t.Helper()
	count := 0
	names := namesOf(a)
	for _, r := range namesOf(b) {
		if !slices.Contains(names, r) {
			names = append(names, r)
		}
	}
	for _, id := range strange() {
		names = append(names, api.Ref{Cont: root, Id: id}, api.Ref{Cont: id, Id: 10})
	}
	for _, th := range askers() {
		if (len(check.Hides(th.Label, watch)) == 0) != seen {
			continue
		}
		for _, r := range names {
			for _, call := range []ask{dir(r.Cont, false), dir(r.Cont, true), dir(r.Id, true), look(r), see(r, 0), see(r, api.KdThread), change(r, 0), change(r, api.KdSegment)} {
				if !sameAnswers(a, b, th, call) {
					count++
					if seen {
						t.Errorf("an observer of %v sees a thread of %v, which is told unlike things: %s", watch, th.Label, call.name)
					}
				}
			}
		}
	}
	return count
}

// P17.3: two worlds that an observer can't tell apart tell whoever it sees the same; others they don't.
func TestHidden(t *testing.T) {
	hidden, unlike := 0, 0
	for name, w := range map[string]api.World{"a house": house(), "a chain": chain(), "a full Root": full()} {
		for _, watch := range watchers() {
			for seed := range int64(3) {
				x := disguised(rand.New(rand.NewSource(seed)), w, watch)
				if !tree.Fit(x) || !slices.EqualFunc(sight(w, watch), sight(x, watch), obj.SameOne) {
					t.Fatalf("%s, by an observer of %v and seed %d: it is not whole, or not like the other one", name, watch, seed)
				}
				if !slices.EqualFunc(w.Objects, x.Objects, obj.SameOne) {
					unlike++
				}
				differ(t, w, x, watch, true)
				if seed == 0 && differ(t, w, x, watch, false) > 0 {
					hidden++
				}
			}
		}
	}
	if unlike < 20 || hidden < 5 {
		t.Errorf("unlike are %d worlds, by %d of them hidden threads are told so", unlike, hidden)
	}
}

// P17.3: the same of a greater world, in which all labels lie in all that may hold them.
func TestHiddenGrid(t *testing.T) {
	w := grid(nil)
	for at, watch := range watchers() {
		if at%3 > 0 {
			continue
		}
		x := disguised(rand.New(rand.NewSource(int64(at))), w, watch)
		if !tree.Fit(x) || !slices.EqualFunc(sight(w, watch), sight(x, watch), obj.SameOne) {
			t.Fatalf("by an observer of %v: it is not whole, or not like the other one", watch)
		}
		differ(t, w, x, watch, true)
	}
}

// P17.3, written out: that a hidden container is there, and what lies in it, tells nobody anything; of a hidden thread its label does not.
func TestHiddenRows(t *testing.T) {
	with := world(box(root, 99, nil, 3, 5), box(3, 20, one(api.Lev3), 10), thing(api.KdThread, 5, one(api.Star)), thing(api.KdSegment, 10, one(api.Lev3)))
	without := world(box(root, 99, nil, 3, 5), box(3, 20, one(api.Lev3)), thing(api.KdThread, 5, one(api.Lev2)))
	without.Objects[2].Quota = with.Objects[2].Quota
	for _, th := range []api.Object{plain(), asker(two(api.Lev0, api.Lev1))} {
		for _, r := range []api.Ref{{Cont: root, Id: 3}, {Cont: root, Id: 5}, {Cont: root, Id: 10}, {Cont: 3, Id: 10}, {Cont: 10, Id: 3}, {Cont: 3, Id: 5}, {Cont: 999, Id: 5}} {
			for _, call := range []ask{dir(r.Cont, false), dir(r.Id, true), dir(r.Id, false), look(r), see(r, 0), see(r, api.KdSegment), change(r, 0), change(r, api.KdThread)} {
				if !sameAnswers(with, without, th, call) {
					t.Errorf("%s by a thread of %v tells them apart", call.name, th.Label)
				}
			}
		}
	}
	if sameAnswers(with, without, secret(), look(api.Ref{Cont: 3, Id: 10})) || sameAnswers(with, without, owner(), see(api.Ref{Cont: root, Id: 5}, 0)) {
		t.Error("who may see it is not told")
	}
}

// 0.5: no call changes what it is given; what it tells is new memory, each time, and has no empty list.
func TestNewMemory(t *testing.T) {
	w := house()
	for at := range w.Objects {
		o := &w.Objects[at]
		o.Links, o.Data = append(make([]uint64, 0, 80), o.Links...), append(make([]uint64, 0, 80), o.Data...)
	}
	empties(reflect.ValueOf(&w).Elem())
	for _, th := range []api.Object{owner(), plain(), secret(), *of(w, 13)} {
		for _, r := range namesOf(w) {
			for _, a := range []ask{dir(r.Cont, false), dir(r.Cont, true), look(r), see(r, 0), change(r, 0)} {
				wasWorld, wasThread := deep(w), deep(th)
				first, _ := a.do(w, th)
				again, _ := a.do(w, th)
				if !reflect.DeepEqual(w, wasWorld) || !reflect.DeepEqual(th, wasThread) {
					t.Fatalf("%s changes what it is given", a.name)
				}
				given := append(stretches(reflect.ValueOf(w), "w"), stretches(reflect.ValueOf(th), "t")...)
				told := append(stretches(reflect.ValueOf(first), "told"), stretches(reflect.ValueOf(again), "again")...)
				if s := shared(given, told); s != "" {
					t.Fatalf("%s shares %s", a.name, s)
				}
				if !reflect.DeepEqual(first, again) || !noEmpties(reflect.ValueOf(first)) {
					t.Fatalf("%s tells another thing the second time, or an empty list", a.name)
				}
			}
		}
	}
}

// odd are worlds that are not whole.
func odd() map[string]api.World {
	bad := api.Label{{Cat: 9, Lev: 9}, {Cat: 7, Lev: -3}, {Cat: 7, Lev: api.Above}, {Cat: 7, Lev: api.Lev1}}
	turned := house()
	slices.Reverse(turned.Objects)
	labelled := house()
	for at := range labelled.Objects {
		labelled.Objects[at].Label = bad
	}
	twice := house()
	twice.Objects = slices.Concat(twice.Objects, twice.Objects)
	return map[string]api.World{
		"nothing":          {},
		"no Root":          {Root: 77, Objects: house().Objects},
		"from the end":     turned,
		"all twice":        twice,
		"labels":           labelled,
		"itself":           world(box(root, 9, nil, root), box(2, 9, nil, 2)),
		"each other":       world(box(root, 9, nil, 2), box(2, 9, nil, root)),
		"links to nothing": world(box(root, 9, nil, 2, 3, 0, math.MaxUint64), thing(api.KdSegment, 3, nil)),
		"no kinds":         world(box(root, 9, nil, 2, 3), api.Object{Id: 2, Kind: -1, Links: []uint64{3}}, api.Object{Id: 3}),
		"links of no box":  world(box(root, 9, nil, 2), api.Object{Id: 2, Kind: api.KdSegment, Links: []uint64{3}}, thing(api.KdGate, 3, nil)),
		"all is owned":     world(box(root, 9, two(api.Star, api.Above), 2), thing(api.KdDevice, 2, two(api.Star, api.Star))),
	}
}

// 0.1: of worlds that are not whole, and of threads that are not sound, all calls end, none panics or changes what it is given, and beside an error nothing is told.
func TestOdd(t *testing.T) {
	long := make(api.Label, 5000)
	for at := range long {
		long[at] = api.Pair{Cat: uint64(at % 70), Lev: at%9 - 2}
	}
	threads := []api.Object{{}, plain(), owner(), box(root, 9, nil, 2), asker(api.Label{{Cat: 9, Lev: 77}, {Cat: 7, Lev: -5}}), asker(one(api.Above)), {Label: long, Kind: api.KdThread}}
	for name, w := range odd() {
		was := deep(w)
		for _, th := range threads {
			for _, r := range append(namesOf(w), api.Ref{}, api.Ref{Cont: root, Id: math.MaxUint64}, api.Ref{Cont: 2, Id: 2}) {
				for _, a := range asks(w, r) {
					if o, err := a.do(w, th); err != api.OK && !reflect.DeepEqual(o, api.Object{}) {
						t.Errorf("%s: %s tells something beside error %d", name, a.name, err)
					}
				}
			}
		}
		if !reflect.DeepEqual(w, was) {
			t.Errorf("%s is another one", name)
		}
	}
	for _, id := range []uint64{0, 2, math.MaxUint64} {
		if _, err := Look(odd()["links to nothing"], plain(), api.Ref{Cont: root, Id: id}); err != api.ErrName {
			t.Errorf("a link to nothing, %d: error %d", id, err)
		}
	}
}
