package sweep

import (
	"fmt"
	"math"
	"math/rand"
	"reflect"
	"slices"
	"testing"

	"curtilage/api"
	"curtilage/obj"
	"curtilage/perm"
	"curtilage/tree"
)

// everyKind is a Root with an object of each kind in it, none of them Fixed.
func everyKind() api.World {
	all := []api.Object{box(root, 100, 2, 3, 4, 5, 6, 7)}
	for at, kind := range kinds() {
		all = append(all, thing(kind, uint64(2+at), 3))
	}
	return world(all...)
}

// shed is a small world with a thing of each sort in it, and some room.
func shed() api.World {
	secret := pair(7, api.Lev3)
	device := thing(api.KdDevice, 10, 1)
	device.In, device.Out = count(4, 5), count(6, 7)
	space := fixed(labelled(thing(api.KdSpace, 11, 1), secret))
	space.Maps = []api.Map{{Va: 3, N: 4, Cont: 1, Seg: 4, Off: 1, Write: true}}
	busy := labelled(thread(12, 90, 91), pair(7, api.Star))
	busy.Thread.Regs[4], busy.Thread.Pc, busy.Thread.Alerts, busy.Thread.Labs[2] = 8, 9, []uint64{4, 4}, pair(5, api.Lev0)
	return world(
		box(root, 60, 2, 3, 4, 5, 12),
		box(2, 20, 6, 7, 11), labelled(box(3, 10, 8, 11), secret), fixed(segment(4, 2, 5)), thread(5, 50, 90),
		box(6, 8, 4, 9, 10, 11), segment(7, 4, 17), labelled(segment(8, 3, 1), secret), fixed(gate(9)), device, space, busy)
}

// web is a Root with containers in each other, the ids of which fall and rise downwards, and Fixed things that lie in several of them.
func web() api.World {
	return world(
		box(50, 900, 10, 60, 70, 90),
		box(60, 200, 40, 90, 30), box(40, 100, 55, 20, 30), box(55, 40, 45, 30, 35), box(45, 20, 90, 20, 80),
		box(10, 200, 65, 25, 20), box(65, 60, 5, 90, 35), box(5, 20, 90, 15),
		box(70, 10, 75), box(75, 5),
		fixed(segment(90, 3, 20)), fixed(gate(30)), fixed(gate(20)), fixed(gate(35)), gate(25), gate(80), thread(15, 7, 9))
}

// chain is a Root and containers, n in all, each in the one ahead of it, with a gate in the last one. The ids fall and rise by turns.
func chain(n int) api.World {
	var all []api.Object
	for at := range n {
		all = append(all, box(link(at), n+1-at, link(at+1)))
	}
	return world(append(all, gate(link(n)))...)
}

// link is the id of a link of a chain.
func link(at int) uint64 {
	switch {
	case at == 0:
		return root
	case at%2 == 0:
		return uint64(10000 - at)
	}
	return uint64(10000 + at)
}

// brim is a world of 1024 objects that use up all there is: a Root, in it so many containers, each in the one ahead of it, and in the last of these, containers of 60 gates each.
func brim(between int) api.World {
	var all []api.Object
	next := uint64(root)
	for range between + 1 {
		all = append(all, box(next, topRoot+1-int(next), next+1))
		next++
	}
	var boxes []uint64
	for next <= topRoot {
		inside := count(next+1, min(topRoot-int(next), 60))
		boxes, all = append(boxes, next), append(all, box(next, 1+len(inside), inside...))
		for _, id := range inside {
			all = append(all, gate(id))
		}
		next += 1 + uint64(len(inside))
	}
	all[between].Links = boxes
	return world(all...)
}

// comb is a Root with n containers, and 64 Fixed gates less so many, each in all of these, and in the Root, if they stay.
func comb(n int, stay bool) api.World {
	gates := count(100, topLinks-n)
	top := box(root, topRoot, count(2, n)...)
	var all []api.Object
	for _, id := range top.Links {
		all = append(all, box(id, topLinks, gates...))
	}
	for _, id := range gates {
		all = append(all, fixed(gate(id)))
	}
	if stay {
		top.Links = append(top.Links, gates...)
	}
	return world(append([]api.Object{top}, all...)...)
}

// wholes are worlds that are whole.
func wholes() map[string]api.World {
	return map[string]api.World{
		"a Root alone":  world(box(root, 1)),
		"every kind":    everyKind(),
		"a chain of 1":  chain(1),
		"a chain of 9":  chain(9),
		"a small house": shed(),
		"a web":         web(),
		"a comb":        comb(3, false),
		"a firm comb":   comb(5, true),
	}
}

// The worlds of these tests are whole, by chapter 14 and by what one comes to from the Root.
func TestWholes(t *testing.T) {
	all := wholes()
	all["a brim"], all["a deep brim"], all["a long chain"] = brim(0), brim(30), chain(topRoot-1)
	for name, w := range all {
		if !tree.Fit(w) || !slices.Equal(reached(w), ids(w)) || len(unheld(w)) > 0 {
			t.Errorf("%s is not whole", name)
		}
	}
}

// holdRefused holds that a name is none: ErrName, the world as it was, no Ids.
func holdRefused(t *testing.T, w api.World, d, id uint64) {
	t.Helper()
	x, lost, err := Unref(w, d, id)
	if err != api.ErrName || !obj.Same(x, w) || lost != nil {
		t.Errorf("Unref(%d, %d) in %v: %v, error %d, the world as it was: %v", d, id, few(ids(w)), lost, err, obj.Same(x, w))
	}
	if lost := Lost(w, d, id); lost != nil {
		t.Errorf("Lost(%d, %d) in %v: %v", d, id, few(ids(w)), lost)
	}
}

// holdUnref holds Unref and Lost of any name against the chapter's words, and tells the world behind it.
func holdUnref(t *testing.T, w api.World, d, id uint64) api.World {
	t.Helper()
	if !isName(w, d, id) {
		holdRefused(t, w, d, id)
		return w
	}
	want, gone := unrefOf(w, d, id)
	got, lost, err := Unref(w, d, id)
	if err != api.OK || !obj.Same(got, want) || !slices.Equal(lost, gone) {
		t.Errorf("Unref(%d, %d) in %v: %v of %v, error %d, the world is as it should be: %v", d, id, few(ids(w)), few(lost), few(gone), err, obj.Same(got, want))
	}
	if told := Lost(w, d, id); !slices.Equal(told, gone) {
		t.Errorf("Lost(%d, %d) in %v: %v of %v", d, id, few(ids(w)), few(told), few(gone))
	}
	holdJust(t, w, got, d, id, lost)
	holdWhole(t, w, got, d, id)
	return got
}

// holdJust holds P15.2: what stays is what one comes to from the Root, as it was, but for the container's links.
func holdJust(t *testing.T, w, got api.World, d, id uint64, lost []uint64) {
	t.Helper()
	if stays := reached(without(w, d, id)); !slices.Equal(ids(got), stays) {
		t.Errorf("behind Unref(%d, %d) there are %v, not %v", d, id, few(ids(got)), few(stays))
	}
	if out := unheld(got); len(out) > 0 {
		t.Errorf("behind Unref(%d, %d) %v lie nowhere", d, id, few(out))
	}
	if got.Time != w.Time || got.Key != w.Key || got.Root != w.Root {
		t.Errorf("behind Unref(%d, %d) it is time %d, the key %d, the Root %d", d, id, got.Time, got.Key, got.Root)
	}
	for _, o := range w.Objects {
		now, stays := obj.Find(got, o.Id)
		if stays == slices.Contains(lost, o.Id) {
			t.Errorf("Unref(%d, %d): that %d stays is %v, it is told as %v", d, id, o.Id, stays, few(lost))
		}
		if o.Id == d {
			at := slices.Index(o.Links, id)
			o.Links = slices.Concat(o.Links[:at], o.Links[at+1:])
		}
		if stays && !obj.SameOne(now, o) {
			t.Errorf("behind Unref(%d, %d) %d is another one", d, id, o.Id)
		}
	}
}

// holdWhole holds P15.3: the world is whole, no container has less Room, the one that let go has more by the object's Quota.
func holdWhole(t *testing.T, w, got api.World, d, id uint64) {
	t.Helper()
	if !tree.Fit(got) {
		t.Errorf("behind Unref(%d, %d) in %v it is not whole", d, id, few(ids(w)))
	}
	for _, o := range got.Objects {
		if o.Kind != api.KdContainer {
			continue
		}
		was, is, more := tree.Room(w, *one(w, o.Id)), tree.Room(got, o), 0
		if o.Id == d {
			more = one(w, id).Quota
		}
		if is < was || is != was+more {
			t.Errorf("behind Unref(%d, %d) %d has Room %d, not %d", d, id, o.Id, is, was+more)
		}
	}
}

// Example 1: a segment that lies in the Root alone goes; of what lies nowhere it is ErrName.
func TestExample(t *testing.T) {
	w := api.World{Root: 1, Objects: []api.Object{box(1, 3, 2), segment(2, 1, 0)}}
	x, lost, err := Unref(w, 1, 2)
	if err != api.OK || !slices.Equal(lost, []uint64{2}) || !obj.Same(x, api.World{Root: 1, Objects: []api.Object{box(1, 3)}}) {
		t.Errorf("a segment in the Root alone: %v, %v, error %d", x, lost, err)
	}
	holdUnref(t, w, 1, 2)
	holdRefused(t, w, 1, 3)
	holdRefused(t, x, 1, 2)
}

// P15.1: ErrName, written out.
func TestNoName(t *testing.T) {
	rows := map[string][][2]uint64{
		"d is no object":            {{0, 2}, {13, 2}, {99, 6}, {topId, 2}, {topId + 1, 2}, {math.MaxUint64, 4}},
		"neither is":                {{0, 0}, {99, 99}, {13, 99}, {math.MaxUint64, math.MaxUint64}, {topId, 0}},
		"id is no object":           {{1, 0}, {1, 13}, {2, 99}, {3, topId}, {6, topId + 1}, {1, math.MaxUint64}},
		"d is no container":         {{4, 4}, {4, 9}, {5, 2}, {7, 7}, {8, 3}, {9, 4}, {10, 10}, {11, 2}, {12, 5}, {5, 99}, {4, 0}},
		"id lies elsewhere alone":   {{1, 6}, {1, 7}, {1, 8}, {1, 9}, {2, 3}, {2, 5}, {2, 8}, {2, 9}, {3, 2}, {3, 7}, {6, 7}, {6, 12}},
		"id lies in several others": {{1, 11}, {2, 4}, {3, 4}},
		"d and id are the same":     {{1, 1}, {2, 2}, {3, 3}, {6, 6}, {4, 4}, {11, 11}},
		"id is the Root":            {{1, 1}, {2, 1}, {3, 1}, {6, 1}, {4, 1}, {5, 1}, {0, 1}, {99, 1}},
		"d lies in id":              {{2, 1}, {6, 2}, {11, 2}, {11, 3}, {6, 1}, {9, 6}},
	}
	w := shed()
	for name, row := range rows {
		for _, r := range row {
			if isName(w, r[0], r[1]) {
				t.Fatalf("%s: %d lies in %d", name, r[1], r[0])
			}
			holdRefused(t, w, r[0], r[1])
		}
	}
	alone := world(box(root, 1))
	for _, id := range []uint64{0, 1, 2, topId, math.MaxUint64} {
		holdRefused(t, alone, root, id)
		holdRefused(t, alone, id, root)
	}
}

// P15.1 to P15.3: each name and each that is none, in each world.
func TestEachName(t *testing.T) {
	for name, w := range wholes() {
		t.Run(name, func(t *testing.T) {
			was := deep(w)
			all := append(ids(w), 0, 27, topId, topId+1, math.MaxUint64)
			for _, d := range all {
				for _, id := range all {
					holdUnref(t, w, d, id)
				}
			}
			if !reflect.DeepEqual(w, was) {
				t.Error("what was handed in is another one")
			}
		})
	}
}

// row is a world, a name, and what goes by that.
type row struct {
	w     api.World
	d, id uint64
	want  []uint64
}

// holdRows holds rows against what is written out, and against the chapter's words.
func holdRows(t *testing.T, rows map[string]row) {
	t.Helper()
	for name, r := range rows {
		if !tree.Fit(r.w) || !isName(r.w, r.d, r.id) {
			t.Fatalf("%s: it is not whole, or no name", name)
		}
		x, lost, err := Unref(r.w, r.d, r.id)
		if err != api.OK || !slices.Equal(lost, r.want) || len(x.Objects) != len(r.w.Objects)-len(r.want) {
			t.Errorf("%s: %v goes, error %d, %v is left", name, lost, err, few(ids(x)))
		}
		holdUnref(t, r.w, r.d, r.id)
	}
}

// P15.1: an object of each kind that lies in d alone goes, by itself.
func TestAlone(t *testing.T) {
	w := everyKind()
	rows := map[string]row{}
	for at, kind := range kinds() {
		id := uint64(2 + at)
		rows[fmt.Sprint("kind ", kind)] = row{w, root, id, []uint64{id}}
		fast := thing(kind, 5, 2)
		fast.Fixed = kind != api.KdThread
		rows[fmt.Sprint("fixed kind ", kind)] = row{world(box(root, 9, 5), fast), root, 5, []uint64{5}}
		rows[fmt.Sprint("deep kind ", kind)] = row{world(box(root, 9, 9), box(9, 6, 5), fast), 9, 5, []uint64{5}}
		rows[fmt.Sprint("the container of kind ", kind)] = row{world(box(root, 9, 9), box(9, 6, 5), fast), root, 9, []uint64{5, 9}}
	}
	holdRows(t, rows)
}

// P15.1: what lies in d and one other, or two others, loses that link alone, and goes with the last one, in whatever order they go.
func TestSeveral(t *testing.T) {
	for _, kind := range kinds() {
		if kind == api.KdContainer || kind == api.KdThread {
			continue
		}
		o := fixed(thing(kind, 5, 2))
		three := world(box(root, 50, 2, 8, 9), box(2, 9, 5), box(8, 9, 5), box(9, 9, 5), o)
		for _, order := range [][3]uint64{{2, 8, 9}, {2, 9, 8}, {8, 2, 9}, {8, 9, 2}, {9, 2, 8}, {9, 8, 2}} {
			two := holdUnref(t, three, order[0], 5)
			one := holdUnref(t, two, order[1], 5)
			none := holdUnref(t, one, order[2], 5)
			if len(two.Objects) != 5 || len(one.Objects) != 5 || !slices.Equal(ids(none), []uint64{1, 2, 8, 9}) {
				t.Errorf("kind %d by %v: %v, %v, %v", kind, order, ids(two), ids(one), ids(none))
			}
			if !slices.Equal(tree.Holders(one, 5), order[2:]) || Lost(three, order[0], 5) != nil || Lost(two, order[1], 5) != nil {
				t.Errorf("kind %d by %v: it lies in %v", kind, order, tree.Holders(one, 5))
			}
			holdRefused(t, two, order[0], 5)
		}
	}
}

// P15.1: a container goes with what lies in it alone, and that with what lies in that.
func TestContainers(t *testing.T) {
	deepest := func(last ...api.Object) api.World {
		return world(append([]api.Object{box(root, 200, 9), box(9, 100, 4), box(4, 50, 7), box(7, 20, 3, 6)}, last...)...)
	}
	both := world(box(root, 99, 2), box(2, 50, 3, 4), box(3, 9, 5), box(4, 9, 5), fixed(gate(5)))
	apart := world(box(root, 99, 2, 4), box(2, 50, 3), box(3, 9, 5), box(4, 9, 5), fixed(gate(5)))
	nested := world(box(root, 99, 2), box(2, 50, 3, 5), box(3, 9, 5), fixed(gate(5)))
	holdRows(t, map[string]row{
		"nothing in it":                     {world(box(root, 9, 2), box(2, 5)), root, 2, []uint64{2}},
		"nothing in it, one beside it":      {world(box(root, 9, 2, 3), box(2, 3), box(3, 3)), root, 2, []uint64{2}},
		"one thing":                         {world(box(root, 9, 2), box(2, 5, 3), gate(3)), root, 2, []uint64{2, 3}},
		"one thing with less an id":         {world(box(root, 9, 8), box(8, 5, 3), gate(3)), root, 8, []uint64{3, 8}},
		"several":                           {world(box(root, 99, 5), box(5, 50, 2, 4, 6, 8), gate(2), segment(4, 3, 20), thread(6, 9, 12), box(8, 1)), root, 5, []uint64{2, 4, 5, 6, 8}},
		"a Fixed one that lies elsewhere":   {world(box(root, 9, 2, 3), box(2, 5, 3), fixed(gate(3))), root, 2, []uint64{2}},
		"Fixed ones of which one does":      {world(box(root, 99, 2, 3), box(2, 5, 3, 4), fixed(gate(3)), fixed(gate(4))), root, 2, []uint64{2, 4}},
		"a container in one in one":         {deepest(gate(3), box(6, 1)), root, 9, []uint64{3, 4, 6, 7, 9}},
		"the middle one":                    {deepest(gate(3), box(6, 1)), 9, 4, []uint64{3, 4, 6, 7}},
		"the last one":                      {deepest(gate(3), box(6, 1)), 4, 7, []uint64{3, 6, 7}},
		"what is in the last one":           {deepest(gate(3), box(6, 1)), 7, 3, []uint64{3}},
		"in two containers, both go":        {both, root, 2, []uint64{2, 3, 4, 5}},
		"in two containers, the first goes": {both, 2, 3, []uint64{3}},
		"in two containers, the last goes":  {both, 2, 4, []uint64{4}},
		"in two containers, one goes deep":  {apart, root, 2, []uint64{2, 3}},
		"in two containers, one goes":       {apart, root, 4, []uint64{4}},
		"in one that goes, and in its own":  {nested, root, 2, []uint64{2, 3, 5}},
		"in one that goes, in what stays":   {nested, 2, 3, []uint64{3}},
		"its link in what stays":            {nested, 2, 5, nil},
	})
}

// P15.1, P15.2: what goes in a web, in which things lie in several containers, the ids in any order.
func TestWeb(t *testing.T) {
	w := web()
	holdRows(t, map[string]row{
		"all in the one half":        {w, 50, 60, []uint64{30, 40, 45, 55, 60, 80}},
		"all in the other half":      {w, 50, 10, []uint64{5, 10, 15, 25, 65}},
		"what is in many":            {w, 50, 90, nil},
		"a container, deep":          {w, 60, 40, []uint64{40, 45, 55, 80}},
		"a container, deeper":        {w, 40, 55, []uint64{45, 55, 80}},
		"the last one":               {w, 55, 45, []uint64{45, 80}},
		"one with one that is empty": {w, 50, 70, []uint64{70, 75}},
	})
	x, lost, _ := Unref(w, 50, 60)
	y, more, _ := Unref(x, 50, 10)
	if !slices.Equal(lost, []uint64{30, 40, 45, 55, 60, 80}) || !slices.Equal(more, []uint64{5, 10, 15, 20, 25, 35, 65}) || !slices.Equal(ids(y), []uint64{50, 70, 75, 90}) {
		t.Errorf("both halves: %v, %v, left is %v", lost, more, ids(y))
	}
}

// orders are all orders of a list.
func orders(l []uint64) [][]uint64 {
	if len(l) == 0 {
		return [][]uint64{nil}
	}
	var out [][]uint64
	for at := range l {
		rest := slices.Concat(l[:at], l[at+1:])
		for _, o := range orders(rest) {
			out = append(out, append([]uint64{l[at]}, o...))
		}
	}
	return out
}

// P15.1: the Ids rise, in whatever order the objects go.
func TestRising(t *testing.T) {
	for _, n := range orders([]uint64{2, 3, 5, 1 << 40, topId}) {
		w := world(box(root, 99, n[0]), box(n[0], 50, n[1], n[2]), box(n[1], 9, n[3]), box(n[2], 20, n[3], n[4]), fixed(gate(n[3])), gate(n[4]))
		holdRows(t, map[string]row{fmt.Sprint(n): {w, root, n[0], []uint64{2, 3, 5, 1 << 40, topId}}})
		holdUnref(t, w, n[0], n[2])
	}
	for _, top := range []uint64{1, 30, topId} {
		w := world(box(top, 99, 20), box(20, 50, 10, 15, 40), box(10, 5, 25), box(40, 9, 12), gate(15), gate(25), gate(12))
		holdRows(t, map[string]row{fmt.Sprint("the Root is ", top): {w, top, 20, []uint64{10, 12, 15, 20, 25, 40}}})
	}
}

// roomy is a world in which each container has a Quota of what it uses and some more.
func roomy(w api.World) api.World {
	var grow func(d *api.Object) int
	grow = func(d *api.Object) int {
		if d.Kind == api.KdContainer {
			d.Quota = 1 + int(d.Id)
			for _, id := range d.Links {
				d.Quota += grow(one(w, id))
			}
		}
		return d.Quota
	}
	grow(one(w, w.Root))
	return w
}

// smalls are all whole worlds of four containers and two Fixed things, wherever these lie.
func smalls() []api.World {
	var out []api.World
	for up := range 4 * 4 * 4 {
		parents := []int{up % 4, up / 4 % 4, up / 16}
		for in := range 15 * 15 {
			all := []api.Object{box(1, 1), box(2, 1), box(4, 1), box(6, 1), fixed(gate(3)), fixed(segment(5, 2, 1))}
			for at, parent := range parents {
				all[parent].Links = append(all[parent].Links, all[at+1].Id)
			}
			for d := range 4 {
				if (in%15+1)>>d&1 == 1 {
					all[d].Links = append(all[d].Links, 3)
				}
				if (in/15+1)>>d&1 == 1 {
					all[d].Links = append(all[d].Links, 5)
				}
				slices.Sort(all[d].Links)
			}
			if w := world(all...); len(reached(w)) == len(all) {
				out = append(out, roomy(w))
			}
		}
	}
	return out
}

// P15.1 to P15.3: each name in all worlds of four containers and two things.
func TestAllSmall(t *testing.T) {
	all := smalls()
	if len(all) != 16*15*15 {
		t.Fatalf("there are %d worlds", len(all))
	}
	for at, w := range all {
		if !tree.Fit(w) {
			t.Fatalf("world %d is not whole", at)
		}
		for _, link := range linksOf(w) {
			holdUnref(t, w, link.Cont, link.Id)
		}
		for d := range uint64(8) {
			for id := range uint64(8) {
				if _, _, err := Unref(w, d, id); (err == api.OK) != isName(w, d, id) {
					t.Fatalf("Unref(%d, %d) in world %d: error %d", d, id, at, err)
				}
			}
		}
	}
}

// P15.2: two links that go leave the same, in either order, and the same goes in all.
func TestEitherOrder(t *testing.T) {
	all := []api.World{shed(), web(), chain(5), everyKind()}
	for at, w := range smalls() {
		if at%37 == 0 {
			all = append(all, w)
		}
	}
	for _, w := range all {
		links := linksOf(w)
		for at, a := range links {
			for _, b := range links[at+1:] {
				one, goneOne := bothGo(w, a, b)
				two, goneTwo := bothGo(w, b, a)
				if !obj.Same(one, two) || !slices.Equal(goneOne, goneTwo) {
					t.Fatalf("%v and %v in %v: %v, or %v", a, b, ids(w), goneOne, goneTwo)
				}
			}
		}
	}
}

// bothGo is a world behind two links that go, and what goes by them, rising. The second one may be gone with the first.
func bothGo(w api.World, a, b api.Ref) (api.World, []uint64) {
	w, first, _ := Unref(w, a.Cont, a.Id)
	w, second, _ := Unref(w, b.Cont, b.Id)
	return w, slices.Sorted(slices.Values(append(first, second...)))
}

// P15.2: a world that is taken apart, link by link in any order, comes to its Root alone, and each object goes once.
func TestTakenApart(t *testing.T) {
	for name, w := range wholes() {
		for seed := range int64(4) {
			draw := rand.New(rand.NewSource(seed))
			x, gone := w, []uint64(nil)
			for links := linksOf(x); len(links) > 0; links = linksOf(x) {
				link := links[draw.Intn(len(links))]
				gone = append(gone, Lost(x, link.Cont, link.Id)...)
				x = holdUnref(t, x, link.Cont, link.Id)
			}
			slices.Sort(gone)
			if len(x.Objects) != 1 || x.Objects[0].Id != w.Root || tree.Room(x, x.Objects[0]) != x.Objects[0].Quota-1 {
				t.Errorf("%s by seed %d: left is %v", name, seed, ids(x))
			}
			if want := slices.DeleteFunc(ids(w), func(id uint64) bool { return id == w.Root }); !slices.Equal(gone, want) {
				t.Errorf("%s by seed %d: %v went", name, seed, gone)
			}
		}
	}
}

// fresh is a new object of a kind that is drawn, with an id by the world's key that no thread's numbers give.
func fresh(draw *rand.Rand, key, n uint64) api.Object {
	id := perm.Name(key, n)
	switch draw.Intn(8) {
	case 0:
		return segment(id, 3, draw.Intn(33))
	case 1:
		return thread(id, 1<<40+10*n, 1<<40+10*n+10)
	case 2, 3, 4:
		return box(id, 1+draw.Intn(60))
	}
	return fixed(gate(id))
}

// grown is a world with something more in it, if there is room: a new object, or a link more to one.
func grown(draw *rand.Rand, w api.World, n uint64) api.World {
	boxes := slices.DeleteFunc(slices.Clone(w.Objects), func(o api.Object) bool { return o.Kind != api.KdContainer })
	d := boxes[draw.Intn(len(boxes))].Id
	x, err := tree.Attach(w, d, fresh(draw, w.Key, n))
	if draw.Intn(2) == 0 {
		x, err = tree.Link(w, d, w.Objects[draw.Intn(len(w.Objects))].Id)
	}
	if err != api.OK {
		return w
	}
	return x
}

// P15.3: a whole world is whole behind rows of calls, whichever they are, that lay things and let them go.
func TestRows(t *testing.T) {
	for seed := range int64(10) {
		draw := rand.New(rand.NewSource(seed))
		w := world(box(perm.Name(5, 1<<50), topRoot))
		most, sorts := 0, [3]int{}
		for step := range 700 {
			w = grown(draw, w, 1<<50+1+uint64(step))
			most = max(most, len(w.Objects))
			if step%5 > 0 {
				continue
			}
			d, id := w.Objects[draw.Intn(len(w.Objects))].Id, w.Objects[draw.Intn(len(w.Objects))].Id
			if links := linksOf(w); draw.Intn(4) > 0 && len(links) > 0 {
				link := links[draw.Intn(len(links))]
				d, id = link.Cont, link.Id
			}
			sorts[min(2, len(Lost(w, d, id)))]++
			w = holdUnref(t, w, d, id)
		}
		if most < 20 || slices.Contains(sorts[:], 0) {
			t.Errorf("by seed %d there were at most %d objects, none, one or several went %v times", seed, most, sorts)
		}
	}
}

// P15.3: the Room of what lets go, written out: the Quota of what it let go comes back to it, and nowhere else.
func TestRoom(t *testing.T) {
	w := shed()
	rows := []struct {
		d, id uint64
		rooms map[uint64]int
	}{
		{1, 2, map[uint64]int{1: 60 - 1 - 10 - 2 - 1 - 1, 3: 5}},
		{1, 4, map[uint64]int{1: 60 - 1 - 20 - 10 - 1 - 1, 2: 6, 3: 5, 6: 2}},
		{6, 4, map[uint64]int{1: 25, 2: 6, 3: 5, 6: 4}},
		{2, 6, map[uint64]int{1: 25, 2: 14, 3: 5}},
		{3, 11, map[uint64]int{1: 25, 2: 6, 3: 6, 6: 2}},
		{2, 7, map[uint64]int{1: 25, 2: 10, 3: 5, 6: 2}},
		{9, 9, map[uint64]int{1: 25, 2: 6, 3: 5, 6: 2}},
	}
	for _, r := range rows {
		x, _, _ := Unref(w, r.d, r.id)
		got := map[uint64]int{}
		for _, o := range x.Objects {
			if o.Kind == api.KdContainer {
				got[o.Id] = tree.Room(x, o)
			}
		}
		if !reflect.DeepEqual(got, r.rooms) {
			t.Errorf("behind Unref(%d, %d) there is %v", r.d, r.id, got)
		}
	}
}

// P15.1, P15.2: a chain of as many objects as there may be goes from any of its links on.
func TestChain(t *testing.T) {
	w := chain(topRoot - 1)
	if len(w.Objects) != topRoot {
		t.Fatalf("there are %d objects", len(w.Objects))
	}
	for _, at := range []int{0, 1, 2, 500, topRoot - 3, topRoot - 2} {
		x, lost, err := Unref(w, link(at), link(at+1))
		if err != api.OK || len(lost) != topRoot-1-at || !slices.IsSorted(lost) || len(x.Objects) != at+1 || !tree.Fit(x) {
			t.Errorf("from %d on: %d go, %d are left, error %d", at, len(lost), len(x.Objects), err)
		}
		holdUnref(t, w, link(at), link(at+1))
		holdRefused(t, w, link(at+1), link(at))
	}
	holdRefused(t, w, link(0), link(2))
	holdRefused(t, w, link(topRoot-1), link(topRoot-2))
}

// P15.1 to P15.3: a world of as many objects as there may be.
func TestBrim(t *testing.T) {
	w := brim(0)
	x := w
	for _, d := range w.Objects[0].Links {
		in := *one(w, d)
		holdUnref(t, w, d, in.Links[len(in.Links)/2])
		gone, lost, err := Unref(x, root, d)
		if err != api.OK || !slices.Equal(lost, append([]uint64{d}, in.Links...)) || !tree.Fit(gone) {
			t.Errorf("%d: %d go, error %d", d, len(lost), err)
		}
		x = gone
	}
	if !obj.Same(x, changed(w, func(w *api.World) { w.Objects = []api.Object{box(root, topRoot)} })) {
		t.Errorf("left are %v", few(ids(x)))
	}
	for _, between := range []int{1, 2, 30} {
		w := brim(between)
		if got := holdUnref(t, w, root, 2); len(w.Objects) != topRoot || !slices.Equal(ids(got), []uint64{root}) || !slices.Equal(Lost(w, root, 2), count(2, topRoot-1)) {
			t.Errorf("of %d there are %d left", len(w.Objects), len(got.Objects))
		}
	}
}

// P15.1: containers of as many links as there may be, all to the same things, which go with the last one, or stay.
func TestComb(t *testing.T) {
	for _, stay := range []bool{false, true} {
		for _, n := range []int{1, 2, 3, 7} {
			w := comb(n, stay)
			for d := uint64(2); d < uint64(2+n); d++ {
				want := []uint64{d}
				if !stay && d == uint64(1+n) {
					want = append(want, count(100, topLinks-n)...)
				}
				if got := Lost(w, root, d); !slices.Equal(got, want) {
					t.Errorf("of %d that stay %v, %d: %v goes", n, stay, d, few(got))
				}
				w = holdUnref(t, w, root, d)
			}
		}
	}
	full := world(box(root, topRoot, count(2, topLinks)...))
	for _, id := range full.Objects[0].Links {
		full.Objects = append(full.Objects, gate(id))
	}
	for _, id := range []uint64{2, 3, 33, topLinks, topLinks + 1} {
		holdUnref(t, full, root, id)
	}
}

// what is all that Unref tells.
type what struct {
	w    api.World
	lost []uint64
	err  api.Errno
}

// holdNew holds that a call changes nothing that it is given, and tells new memory, the same each time.
func holdNew[T any](t *testing.T, name string, w api.World, call func(api.World) T) {
	t.Helper()
	was := deep(w)
	first := call(w)
	if !reflect.DeepEqual(w, was) {
		t.Errorf("%s changes what it is given", name)
	}
	told := stretches(reflect.ValueOf(first), "told")
	if s := shared(stretches(reflect.ValueOf(w), "w"), told); s != "" {
		t.Errorf("%s shares %s", name, s)
	}
	if again := call(w); !reflect.DeepEqual(first, again) || shared(told, stretches(reflect.ValueOf(again), "again")) != "" {
		t.Errorf("%s tells another thing the second time, or shares with the first", name)
	}
}

// alikes is a world whose labels all stand in one place of memory, and whose lists have room behind their ends.
func alikes() api.World {
	w := shed()
	one := append(make(api.Label, 0, 5), pair(7, api.Lev3)...)
	for at := range w.Objects {
		o := &w.Objects[at]
		if len(o.Label) > 0 && o.Kind != api.KdThread {
			o.Label = one
		}
		o.Links, o.Data = slices.Grow(o.Links, 9), slices.Grow(o.Data, 9)
	}
	w.Objects = slices.Grow(w.Objects, 9)
	return w
}

// 0.5: what is told is new memory, also beside an error; no two lists of it share any, and nothing that was given is another one.
func TestNothingShared(t *testing.T) {
	for _, w := range []api.World{shed(), alikes(), web(), everyKind(), world(box(root, 3))} {
		all := append(ids(w), 27)
		for _, d := range all {
			for _, id := range all {
				holdNew(t, fmt.Sprintf("Unref(%d, %d)", d, id), w, func(w api.World) what {
					x, lost, err := Unref(w, d, id)
					return what{x, lost, err}
				})
				holdNew(t, fmt.Sprintf("Lost(%d, %d)", d, id), w, func(w api.World) []uint64 { return Lost(w, d, id) })
			}
		}
	}
}

// 0.5: lists that were given with room behind their ends are not written there.
func TestNothingBehindTheEnd(t *testing.T) {
	links, inner := []uint64{2, 4, 6, 111, 222, 333}, []uint64{2, 5, 444, 555}
	marks := append([]api.Object{box(root, 90), fixed(gate(2)), gate(4), gate(5), box(6, 20)}, shed().Objects...)
	marks[0].Links, marks[4].Links = links[:3], inner[:2]
	was, wasLinks, wasInner := deep(marks), slices.Clone(links), slices.Clone(inner)
	w := api.World{Root: root, Objects: marks[:5]}
	if !tree.Fit(w) {
		t.Fatal("it is not whole")
	}
	for _, link := range append(linksOf(w), api.Ref{Cont: root, Id: 5}) {
		holdUnref(t, w, link.Cont, link.Id)
		if !slices.Equal(links, wasLinks) || !slices.Equal(inner, wasInner) || !reflect.DeepEqual(marks, was) {
			t.Errorf("by %v something is written: %v, %v", link, links, inner)
		}
	}
}

// 0.7: an empty list is none, whatever came in.
func TestNoneIsNone(t *testing.T) {
	for _, w := range []api.World{shed(), everyKind(), world(box(root, 9, 2), gate(2))} {
		empty := changed(w, func(w *api.World) { empties(reflect.ValueOf(w).Elem()) })
		for _, d := range append(ids(w), 27) {
			for _, id := range append(ids(w), 27) {
				x, lost, err := Unref(empty, d, id)
				if !noLists(reflect.ValueOf(x)) || !noLists(reflect.ValueOf(lost)) || !noLists(reflect.ValueOf(Lost(empty, d, id))) {
					t.Errorf("Unref(%d, %d) tells an empty list", d, id)
				}
				if y, _, otherErr := Unref(w, d, id); !obj.Same(x, y) || err != otherErr {
					t.Errorf("Unref(%d, %d) tells another thing of empty lists", d, id)
				}
			}
		}
	}
}

// odds are worlds that are not whole, and not even fit: with rings, lists that fall, what is there twice, and numbers that can't be.
func odds() []api.World {
	long := box(3, math.MinInt, count(1, 3000)...)
	wild := api.Object{Id: math.MaxUint64, Kind: -1, Label: api.Label{{Cat: 9, Lev: 77}, {Cat: 2, Lev: -5}}, Quota: math.MaxInt, Fixed: true, Links: []uint64{9, 9, 0, 5, math.MaxUint64}}
	return []api.World{
		{}, {Root: 5}, {Time: math.MinInt, Key: 3, Root: math.MaxUint64, Objects: []api.Object{wild, wild, long, {}}},
		{Objects: []api.Object{{Links: []uint64{0, 1}}, box(1, 1, 0)}},
		world(box(1, 9, 1)), world(box(1, 9, 2), box(2, 9, 1)), world(box(1, 9), box(2, 9, 3), box(3, 9, 4), box(4, 9, 2)), world(long, long, box(2, 3, 2)),
		world(box(1, 9, 2), box(2, 9, 3), box(3, 9, 2, 4), box(4, 9, 5), box(5, 9, 4, 3)), world(box(1, 9, 2, 99), box(2, 9, 77, 99)),
		{Root: 1, Objects: []api.Object{box(9, 3, 1), box(5, 3, 9), box(1, 3, 5), thread(4, 9, 3), segment(4, 0, 99)}},
		{Root: 1, Objects: []api.Object{box(1, 9, 2), {Id: 2, Kind: api.KdContainer, Links: slices.Repeat([]uint64{3, 2, 2}, 50)}, box(3, 1, 2)}},
		{Root: 1, Objects: []api.Object{wild, wild, wild, thread(math.MaxUint64, math.MaxUint64, 0)}},
		{Root: 1, Objects: slices.Repeat([]api.Object{box(1, 5, 1, 2)}, 3000)},
	}
}

// 0.1, 0.4: every call ends and none panics, also of worlds that are not whole or fit.
func TestUnfitEnds(t *testing.T) {
	some := []uint64{0, 1, 2, 3, 4, 5, 9, 77, 99, topId, topId + 1, math.MaxUint64}
	for _, w := range odds() {
		if tree.Fit(w) {
			t.Errorf("%v is whole", few(ids(w)))
		}
		was := deep(w)
		for _, d := range some {
			for _, id := range some {
				Unref(w, d, id)
				Lost(w, d, id)
			}
		}
		if !reflect.DeepEqual(w, was) {
			t.Errorf("%v is another one behind the calls", few(ids(w)))
		}
	}
}
