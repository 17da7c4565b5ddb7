package mem

import (
	"fmt"
	"math"
	"math/rand"
	"reflect"
	"slices"
	"testing"

	"curtilage/api"
	"curtilage/obj"
	"curtilage/sweep"
	"curtilage/tree"
)

// The labels of the written-out rows: of no pairs; one that owns the first category; at 3, at 2 and at 0 in it.
func plain() api.Label   { return nil }
func owner() api.Label   { return one(api.Star) }
func secret() api.Label  { return one(api.Lev3) }
func wary() api.Label    { return one(api.Lev2) }
func trusted() api.Label { return one(api.Lev0) }

// house is a small world: an open container (2), a secret (3) and a trusted one (4); segments (10 to 20), address spaces (30 to 39), a gate (40), a device (41), threads (42, 43). 14, 15 and 35 lie in several containers.
func house() api.World {
	other := two(api.Lev1, api.Lev2)
	return world(
		box(root, 400, plain(), 2, 3, 4, 10, 11, 12, 13, 14, 15, 20, 30, 31, 32, 35, 36, 38, 39, 40, 41, 42, 43),
		box(2, 60, plain(), 15, 35, 37), box(3, 60, secret(), 14, 16, 19, 33), box(4, 60, trusted(), 15, 17, 18, 34, 35),
		segment(10, plain(), 40), segment(11, secret(), 16), segment(12, trusted(), 20), segment(13, plain(), 0),
		fixed(segment(14, secret(), 17)), fixed(segment(15, plain(), 33)),
		segment(16, secret(), 16), segment(17, trusted(), 32), segment(18, plain(), 1), segment(19, two(api.Lev3, api.Lev3), 5), segment(20, other, 9),
		space(30, plain(), chart()...),
		space(31, secret(), open(mapOf(0, 2, root, 10, 0)), open(mapOf(2, 1, root, 11, 0)), open(mapOf(3, 1, 3, 16, 0)), open(mapOf(4, 1, 3, 19, 0))),
		space(32, trusted(), open(mapOf(0, 1, root, 12, 0)), open(mapOf(1, 1, 4, 17, 0)), open(mapOf(2, 1, 4, 18, 0)), mapOf(3, 1, root, 10, 0)),
		space(33, secret(), open(mapOf(0, 1, 3, 16, 0)), open(mapOf(5, 2, 3, 14, 0)), open(mapOf(7, 1, root, 14, 1))),
		space(34, trusted(), open(mapOf(0, 2, 4, 17, 0)), mapOf(2, 1, 4, 18, 0), open(mapOf(3, 1, 4, 15, 0)), open(mapOf(4, 1, root, 12, 0))),
		fixed(space(35, plain(), open(mapOf(0, 2, root, 10, 1)), open(mapOf(8, 1, 2, 15, 0)), open(mapOf(9, 1, 4, 15, 0)))),
		space(36, plain()), space(37, plain(), strays()...), space(38, plain(), open(mapOf(0, topVa, root, 10, 0))),
		space(39, other, open(mapOf(0, 1, root, 20, 0)), open(mapOf(1, 1, root, 10, 0)), open(mapOf(2, 1, root, 11, 0)), open(mapOf(3, 1, root, 40, 0)), open(mapOf(4, 1, root, 18, 0))),
		api.Object{Id: 40, Kind: api.KdGate, Quota: 1}, api.Object{Id: 41, Kind: api.KdDevice, Quota: 1, In: []uint64{5, 6}, Out: []uint64{7}},
		thread(42, owner(), ref(root, 30)), thread(43, plain(), ref(root, 31)))
}

// chart are as many maps as there may be, of segments that may be seen, and of such as may not.
func chart() []api.Map {
	return []api.Map{
		open(mapOf(0, 1, root, 10, 0)), mapOf(1, 4, root, 10, 1), mapOf(5, 1, root, 10, 0),
		open(mapOf(7, 2, root, 11, 0)), open(mapOf(9, 3, root, 12, 0)), open(mapOf(12, 1, root, 13, 0)),
		open(mapOf(13, 1, root, 14, 0)), mapOf(14, 1, 3, 14, 0),
		open(mapOf(20, 2, 2, 15, 0)), mapOf(22, 2, 4, 15, 1), open(mapOf(30, 1, 3, 16, 0)),
		open(mapOf(40, 1, root, 999, 0)), open(mapOf(41, 1, 999, 10, 0)), open(mapOf(42, 1, root, 40, 0)), open(mapOf(43, 1, root, 42, 0)),
		open(mapOf(topVa-1, 1, root, 10, 1)),
	}
}

// strays are maps of what is nowhere, of what is no segment, and of pages that no segment has.
func strays() []api.Map {
	return []api.Map{
		mapOf(0, 1, 0, 0, 0), open(mapOf(1, 1, root, 16, 0)), open(mapOf(2, 1, root, 2, 0)), open(mapOf(3, 1, 2, 37, 0)),
		open(mapOf(4, 1, 10, 10, 0)), open(mapOf(5, 1, root, root, 0)), open(mapOf(6, 1, root, 41, 0)), open(mapOf(7, 1, root, 43, 0)),
		open(mapOf(8, 1, root, 10, topVa-1)), open(mapOf(9, topVa-10, root, 10, 1)),
	}
}

// grid is a Root that all may see, in it a segment of each label, and an address space that all may see with a map of each.
func grid() api.World {
	low := two(api.Lev0, api.Lev0)
	all := []api.Object{box(root, 100, low)}
	var maps []api.Map
	for at, l := range labelsFrom(api.Lev0) {
		id := uint64(10 + at)
		all = append(all, segment(id, l, 20+at))
		maps = append(maps, open(mapOf(3*at, 3, root, id, 0)))
	}
	all = append(all, space(5, low, maps...))
	for _, o := range all[1:] {
		all[0].Links = append(all[0].Links, o.Id)
	}
	slices.Sort(all[0].Links)
	return world(all...)
}

// great is a world of a segment that uses up all the Root has, and an address space of 16 maps that has no page left.
func great() api.World {
	var maps []api.Map
	for at := range 16 {
		maps = append(maps, open(mapOf(at*topVa/16, topVa/16, greatRoot, topId, 100*at)))
	}
	return world(box(greatRoot, 1024, nil, 2, topId), space(2, nil, maps...), segment(topId, nil, 1021*pageLen))
}

// many is a world of many segments in many containers, and an address space with maps of some.
func many() api.World {
	all := []api.Object{box(root, 1024, nil, 2), space(2, nil)}
	for d := range uint64(8) {
		in := box(10+d, 121, nil)
		for n := range uint64(60) {
			o := segment(100*(d+1)+n, nil, 3)
			in.Links, all = append(in.Links, o.Id), append(all, o)
		}
		all[1].Maps = append(all[1].Maps, open(mapOf(int(d), 1, in.Id, in.Links[7*d], 0)))
		all[0].Links, all = append(all[0].Links, in.Id), append(all, in)
	}
	return world(all...)
}

// wholes are worlds that are whole.
func wholes() map[string]api.World {
	return map[string]api.World{
		"a Root alone": world(box(root, 3, nil)), "a house": house(), "a grid": grid(), "a great segment": great(), "many segments": many(),
	}
}

// names are what a Space may be: those of all address spaces, and such as are none, or name something else.
func names(w api.World) []api.Ref {
	out := []api.Ref{{}, ref(2, 30), ref(3, 31), ref(root, 33), ref(999, 30), ref(root, 999), ref(root, 10), ref(root, 11), ref(root, 42), ref(root, 2), ref(30, 30), ref(10, 30), ref(root, root), ref(math.MaxUint64, math.MaxUint64)}
	for _, d := range w.Objects {
		for _, id := range d.Links {
			if of(w, id).Kind == api.KdSpace {
				out = append(out, ref(d.Id, id))
			}
		}
	}
	return out
}

// someLabels are those that threads of a house are told apart by; all 25 ask in a grid.
func someLabels() []api.Label {
	var out []api.Label
	for lev := api.Star; lev <= api.Lev3; lev++ {
		out = append(out, one(lev), two(api.Lev1, lev))
	}
	return append(out, two(api.Star, api.Star), two(api.Lev3, api.Lev3), two(api.Star, api.Lev2), two(api.Lev0, api.Lev0))
}

// page is the address of a page's word.
func page(n, word int) uint64 { return uint64(n*pageLen + word) }

// beyond are addresses that have no page; most would come to one that has a map if they were taken modulo something.
func beyond() []uint64 {
	return []uint64{topAddr, topAddr + 1, topAddr + 83, 2*topAddr - 1, 1 << 25, 1<<32 + 3, 1<<36 + 3, 1 << 63, 1<<63 + 3, math.MaxUint64 - 15, math.MaxUint64}
}

// addresses are those of an address space's pages at the ends of its maps, and of such as have none.
func addresses(o *api.Object) []uint64 {
	all := []int{0, 2, 6, topVa - 1}
	if o != nil {
		for _, m := range o.Maps {
			all = append(all, m.Va-1, m.Va, m.Va+1, m.Va+m.N-1, m.Va+m.N)
		}
	}
	slices.Sort(all)
	out := beyond()
	for _, n := range slices.Compact(all) {
		if n >= 0 {
			out = append(out, page(n, 0), page(n, 3), page(n, 8), page(n, 15))
		}
	}
	return out
}

// The worlds of these tests are whole, the threads sound.
func TestWholes(t *testing.T) {
	for name, w := range wholes() {
		if !tree.Fit(w) {
			t.Errorf("%s is not whole", name)
		}
	}
	for _, l := range labelsFrom(api.Star) {
		if !obj.Sound(by(l, ref(root, 30))) {
			t.Errorf("a thread of %v is not sound", l)
		}
	}
	if n := len(chart()); n != api.MaxMaps {
		t.Errorf("the chart has %d maps", n)
	}
}

// Example 1: a thread without an address space loads nothing.
func TestExample(t *testing.T) {
	w := api.World{Root: 1, Objects: []api.Object{{Id: 1, Kind: api.KdContainer, Quota: 3}}}
	th := api.Object{Id: 9, Kind: api.KdThread, Quota: 1}
	for _, addr := range append(beyond(), 0, 5, topAddr-1) {
		if word, ok := Load(w, th, addr); ok || word != 0 {
			t.Errorf("Load of %d: %d, %v", addr, word, ok)
		}
		if _, _, _, err := Walk(w, th, addr); err != api.ErrName {
			t.Errorf("Walk of %d: error %d", addr, err)
		}
		if behind, ok := Store(w, th, addr, 7); ok || !obj.Same(behind, w) {
			t.Errorf("Store to %d: %v", addr, ok)
		}
	}
}

// P18.1, P18.2: each address at the ends of maps, by threads of many labels and each Space, in each world.
func TestEach(t *testing.T) {
	for name, w := range wholes() {
		t.Run(name, func(t *testing.T) {
			t.Parallel()
			was, labels := deep(w), someLabels()
			switch name {
			case "a grid":
				labels = labelsFrom(api.Star)
			case "a great segment", "many segments":
				labels = []api.Label{plain(), secret()}
			}
			for _, l := range labels {
				for _, r := range names(w) {
					th := by(l, r)
					for _, addr := range addresses(of(w, r.Id)) {
						hold(t, w, th, addr)
					}
				}
			}
			if !reflect.DeepEqual(w, was) {
				t.Error("what was handed in is another one")
			}
		})
	}
}

// walked is an address of a thread, and what is written out for it.
type walked struct {
	by    api.Object
	addr  uint64
	err   api.Errno
	id    uint64
	at    uint64
	write bool
}

// fails are addresses of a thread, of which each is an error.
func fails(by api.Object, err api.Errno, addrs ...uint64) []walked {
	var out []walked
	for _, addr := range addrs {
		out = append(out, walked{by: by, addr: addr, err: err})
	}
	return out
}

// lies is an address of a thread that lies in a segment.
func lies(by api.Object, addr, id, at uint64, write bool) []walked {
	return []walked{{by, addr, api.OK, id, at, write}}
}

// holdRows holds rows in a house against what is written out, and against the chapter's words.
func holdRows(t *testing.T, rows map[string][]walked) {
	t.Helper()
	w := house()
	for name, row := range rows {
		for _, r := range row {
			o, at, write, err := Walk(w, r.by, r.addr)
			if err != r.err || o.Id != r.id || at != r.at || write != r.write {
				t.Errorf("%s: Walk of %d in %v by %v: error %d, object %d, word %d, to write %v; not error %d, object %d, word %d, to write %v",
					name, r.addr, r.by.Thread.Space, r.by.Label, err, o.Id, at, write, r.err, r.id, r.at, r.write)
			}
			if r.err == api.OK && !slices.Equal(o.Data, segment(r.id, nil, len(o.Data)).Data) {
				t.Errorf("%s: Walk of %d tells other words", name, r.addr)
			}
			hold(t, w, r.by, r.addr)
		}
	}
}

// P18.1: the Space, written out. Its error is told ahead of that the address has no page.
func TestSpaceRows(t *testing.T) {
	all := append(beyond(), 0, 35, page(6, 0), topAddr-1)
	in := func(l api.Label, d, id uint64) api.Object { return by(l, ref(d, id)) }
	rows := map[string][]walked{
		"none":                           append(fails(in(plain(), 0, 0), api.ErrName, all...), fails(in(owner(), 0, 0), api.ErrName, all...)...),
		"in one that may not be seen":    slices.Concat(fails(in(plain(), 3, 33), api.ErrName, all...), fails(in(wary(), 3, 33), api.ErrName, all...), fails(in(trusted(), root, 30), api.ErrName, all...), fails(in(trusted(), 2, 35), api.ErrName, all...)),
		"where it does not lie":          slices.Concat(fails(in(plain(), 2, 30), api.ErrName, all...), fails(in(plain(), root, 37), api.ErrName, all...), fails(in(owner(), 3, 34), api.ErrName, all...)),
		"nowhere":                        slices.Concat(fails(in(plain(), 999, 30), api.ErrName, all...), fails(in(plain(), root, 999), api.ErrName, all...), fails(in(plain(), root, 0), api.ErrName, all...), fails(in(plain(), 0, 30), api.ErrName, all...)),
		"in what is no container":        slices.Concat(fails(in(plain(), 30, 30), api.ErrName, all...), fails(in(plain(), 10, 30), api.ErrName, all...), fails(in(owner(), 42, 30), api.ErrName, all...)),
		"of another kind":                slices.Concat(fails(in(plain(), root, 10), api.ErrKind, all...), fails(in(plain(), root, 2), api.ErrKind, all...), fails(in(plain(), root, 40), api.ErrKind, all...), fails(in(plain(), root, 41), api.ErrKind, all...), fails(in(plain(), root, 43), api.ErrKind, all...)),
		"of another kind, not seen":      slices.Concat(fails(in(plain(), root, 11), api.ErrKind, all...), fails(in(plain(), root, 42), api.ErrKind, all...), fails(in(plain(), root, 3), api.ErrKind, all...)),
		"that may not be seen":           slices.Concat(fails(in(plain(), root, 31), api.ErrLabel, all...), fails(in(wary(), root, 31), api.ErrLabel, all...), fails(in(plain(), root, 39), api.ErrLabel, all...), fails(in(trusted(), 4, 35), api.ErrLabel, all...)),
		"without maps":                   fails(in(plain(), root, 36), api.ErrRange, all...),
		"that may be seen":               slices.Concat(lies(in(secret(), root, 31), 19, 10, 19, true), lies(in(secret(), 3, 33), 5, 16, 5, true), lies(in(owner(), 3, 33), 5, 16, 5, true), lies(in(trusted(), 4, 34), 31, 17, 31, true), lies(in(plain(), root, 32), 7, 12, 7, true)),
		"one, by each of its containers": slices.Concat(lies(in(plain(), root, 35), 0, 10, 16, true), lies(in(plain(), 2, 35), 0, 10, 16, true), lies(in(plain(), 4, 35), 0, 10, 16, true), lies(in(secret(), 2, 35), 0, 10, 16, true)),
	}
	holdRows(t, rows)
}

// P18.1: the page, and the map that has it, written out.
func TestPageRows(t *testing.T) {
	th, all, stray := by(plain(), ref(root, 30)), by(plain(), ref(root, 38)), by(plain(), ref(2, 37))
	rows := map[string][]walked{
		"no page":                       slices.Concat(fails(th, api.ErrRange, beyond()...), fails(all, api.ErrRange, beyond()...), fails(stray, api.ErrRange, beyond()...)),
		"a page without a map":          slices.Concat(fails(th, api.ErrRange, page(6, 0), page(6, 15), page(15, 0), page(19, 15), page(31, 0), page(44, 0), page(topVa-2, 15)), fails(stray, api.ErrRange, page(topVa-1, 0), page(topVa-1, 15))),
		"a map's first page":            slices.Concat(lies(th, page(0, 0), 10, 0, true), lies(th, page(1, 0), 10, 16, false), lies(th, page(9, 0), 12, 0, true), lies(th, page(20, 0), 15, 0, true), lies(th, page(22, 0), 15, 16, false)),
		"a map's last page":             slices.Concat(lies(th, page(0, 15), 10, 15, true), lies(th, page(21, 15), 15, 31, true), lies(th, page(23, 0), 15, 32, false)),
		"the page behind it":            slices.Concat(lies(th, page(5, 3), 10, 3, false), fails(th, api.ErrRange, page(24, 0), page(6, 0)), lies(th, page(22, 3), 15, 19, false)),
		"the address space's last page": slices.Concat(lies(th, topAddr-1, 10, 31, true), lies(th, topAddr-16, 10, 16, true), fails(all, api.ErrRange, topAddr-1)),
		"all pages by one map":          slices.Concat(lies(all, 0, 10, 0, true), lies(all, 35, 10, 35, true), lies(all, 39, 10, 39, true), fails(all, api.ErrRange, 40, 48, page(1000, 7))),
		"not from page 0 on":            slices.Concat(lies(stray, page(9, 0), 10, 16, true), lies(stray, page(10, 7), 10, 39, true), fails(stray, api.ErrRange, page(10, 8), page(11, 0), page(topVa-2, 15))),
	}
	holdRows(t, rows)
}

// P18.1: what a map names, and the words that it has, written out.
func TestMapRows(t *testing.T) {
	in := func(l api.Label) api.Object { return by(l, ref(root, 30)) }
	stray := by(plain(), ref(2, 37))
	rows := map[string][]walked{
		"nothing":                  slices.Concat(fails(in(plain()), api.ErrName, page(40, 0), page(40, 15), page(41, 3)), fails(stray, api.ErrName, 0, 15), fails(in(owner()), api.ErrName, page(40, 0), page(41, 0))),
		"what lies elsewhere":      fails(stray, api.ErrName, page(1, 0), page(4, 0), page(5, 0)),
		"in one that is not seen":  slices.Concat(fails(in(plain()), api.ErrName, page(14, 0), page(30, 0), page(30, 15)), fails(in(wary()), api.ErrName, page(14, 0), page(30, 0))),
		"what is of another kind":  slices.Concat(fails(in(plain()), api.ErrKind, page(42, 0), page(42, 15)), fails(stray, api.ErrKind, page(2, 0), page(3, 0), page(6, 0), page(7, 0))),
		"of another kind, hidden":  fails(in(plain()), api.ErrKind, page(43, 0), page(43, 15)),
		"what may not be seen":     slices.Concat(fails(in(plain()), api.ErrLabel, page(7, 0), page(7, 15), page(13, 0)), fails(in(wary()), api.ErrLabel, page(7, 0), page(13, 3))),
		"not seen, and no word":    fails(in(plain()), api.ErrLabel, page(8, 0), page(8, 15)),
		"what may be seen":         slices.Concat(lies(in(secret()), page(7, 0), 11, 0, true), lies(in(secret()), page(13, 3), 14, 3, true), lies(in(secret()), page(14, 3), 14, 3, false), lies(in(owner()), page(30, 15), 16, 15, true), lies(in(owner()), page(9, 2), 12, 2, true)),
		"the last word":            slices.Concat(lies(in(plain()), page(2, 7), 10, 39, false), lies(in(secret()), page(7, 15), 11, 15, true), lies(in(plain()), page(10, 3), 12, 19, true), lies(by(plain(), ref(root, 32)), page(2, 0), 18, 0, true)),
		"behind the last word":     slices.Concat(fails(in(plain()), api.ErrRange, page(2, 8), page(2, 15), page(3, 0), page(4, 15), page(10, 4), page(11, 0), page(23, 1)), fails(in(secret()), api.ErrRange, page(8, 0)), fails(by(plain(), ref(root, 32)), api.ErrRange, page(2, 1))),
		"a segment without words":  slices.Concat(fails(in(plain()), api.ErrRange, page(12, 0), page(12, 15)), fails(in(owner()), api.ErrRange, page(12, 0))),
		"as far as a map can come": fails(stray, api.ErrRange, page(8, 0), page(8, 15)),
		"whoever may write it":     slices.Concat(lies(in(secret()), page(0, 0), 10, 0, true), lies(in(wary()), page(0, 1), 10, 1, true), lies(in(plain()), page(9, 1), 12, 1, true), lies(in(owner()), page(5, 1), 10, 1, false)),
	}
	holdRows(t, rows)
}

// P18.1: where several errors apply, the first one that the chapter names is told; all pairs that can be are met with.
func TestFirstError(t *testing.T) {
	w := house()
	pairs := map[[2]wrong]int{}
	for _, l := range someLabels() {
		for _, r := range names(w) {
			th := by(l, r)
			for _, addr := range addresses(of(w, r.Id)) {
				errs := walkOf(w, th, addr).errs
				for at, later := range errs {
					for _, first := range errs[:at] {
						pairs[[2]wrong{first, later}]++
					}
				}
				if len(errs) > 1 && pairs[[2]wrong{errs[0], errs[1]}] < 20 {
					hold(t, w, th, addr)
				}
			}
		}
	}
	name, kind, lab, far := api.ErrName, api.ErrKind, api.ErrLabel, api.ErrRange
	for _, want := range [][2]wrong{
		{{"space", name}, {"space", kind}}, {{"space", name}, {"space", lab}}, {{"space", kind}, {"space", lab}},
		{{"space", name}, {"page", far}}, {{"space", kind}, {"page", far}}, {{"space", lab}, {"page", far}},
		{{"space", name}, {"map", name}}, {{"space", name}, {"map", kind}}, {{"space", name}, {"map", lab}}, {{"space", name}, {"word", far}},
		{{"space", lab}, {"map", name}}, {{"space", lab}, {"map", kind}}, {{"space", lab}, {"map", lab}}, {{"space", lab}, {"word", far}},
		{{"map", name}, {"map", kind}}, {{"map", name}, {"map", lab}}, {{"map", kind}, {"map", lab}},
		{{"map", name}, {"word", far}}, {{"map", kind}, {"word", far}}, {{"map", lab}, {"word", far}},
	} {
		if pairs[want] == 0 {
			t.Errorf("both of %v never apply", want)
		}
	}
}

// P18.2: beside each of Walk's errors Load tells nothing, and Store leaves the world as it was.
func TestBesideErrors(t *testing.T) {
	w := house()
	in := func(d, id uint64) api.Object { return by(plain(), ref(d, id)) }
	chart, stray := in(root, 30), in(2, 37)
	for name, row := range map[string][]walked{
		"no Space": fails(in(0, 0), api.ErrName, 0), "a hidden container": fails(in(3, 33), api.ErrName, 0), "another kind": fails(in(root, 10), api.ErrKind, 0), "a hidden Space": fails(in(root, 31), api.ErrLabel, 0),
		"no page": fails(chart, api.ErrRange, topAddr), "no map": fails(chart, api.ErrRange, page(6, 0)),
		"no segment": fails(chart, api.ErrName, page(40, 0)), "a hidden container of one": fails(chart, api.ErrName, page(30, 0)), "no segment's kind": fails(stray, api.ErrKind, page(6, 0)), "a hidden segment": fails(chart, api.ErrLabel, page(7, 0)),
		"no word": fails(chart, api.ErrRange, page(3, 0)),
	} {
		r := row[0]
		if _, _, _, err := Walk(w, r.by, r.addr); err != r.err {
			t.Errorf("%s: error %d, not %d", name, err, r.err)
		}
		if word, ok := Load(w, r.by, r.addr); ok || word != 0 {
			t.Errorf("%s: Load: %d, %v", name, word, ok)
		}
		if behind, ok := Store(w, r.by, r.addr, 7); ok || !reflect.DeepEqual(behind, house()) {
			t.Errorf("%s: Store: %v, as it was: %v", name, ok, obj.Same(behind, w))
		}
	}
}

// P18.2: Store, written out: by maps that may be written, and such as may not; to segments that the thread may change, and such as it may only see.
func TestStoreRows(t *testing.T) {
	type row struct {
		by   api.Label
		in   api.Ref
		addr uint64
		ok   bool
	}
	chart := ref(root, 30)
	for name, rows := range map[string][]row{
		"may be changed, by a map to write": {
			{plain(), chart, 0, true}, {plain(), chart, page(20, 3), true}, {plain(), chart, topAddr - 1, true}, {plain(), ref(root, 38), 39, true},
			{secret(), chart, page(7, 0), true}, {secret(), chart, page(13, 0), true}, {secret(), ref(root, 31), page(3, 0), true}, {trusted(), ref(4, 34), 31, true},
			{owner(), chart, 0, true}, {owner(), chart, page(7, 0), true}, {owner(), chart, page(9, 0), true}, {owner(), chart, page(30, 0), true}},
		"by a map not to write": {
			{plain(), chart, page(1, 0), false}, {plain(), chart, page(5, 3), false}, {plain(), chart, page(22, 0), false}, {secret(), chart, page(14, 0), false}, {owner(), chart, page(14, 0), false}, {owner(), chart, page(5, 0), false}},
		"may be seen, and not changed": {
			{secret(), chart, 0, false}, {wary(), chart, 0, false}, {plain(), chart, page(9, 0), false}, {secret(), chart, page(20, 0), false}, {secret(), ref(root, 31), 3, false},
			{plain(), ref(4, 34), 0, false}, {two(api.Star, api.Lev2), chart, 0, false}, {two(api.Star, api.Lev2), chart, page(7, 0), false}, {two(api.Lev1, api.Lev2), ref(root, 39), page(1, 0), false}},
		"neither": {{secret(), chart, page(5, 0), false}, {plain(), chart, page(40, 0), false}, {trusted(), ref(4, 34), page(3, 0), false}},
		"above 1": {{two(api.Lev1, api.Lev2), ref(root, 39), 0, true}, {two(api.Star, api.Lev2), ref(root, 39), 8, true}, {two(api.Lev1, api.Star), ref(root, 39), page(1, 0), true}},
	} {
		for _, r := range rows {
			w := house()
			th := by(r.by, r.in)
			behind, ok := Store(w, th, r.addr, 77)
			if ok != r.ok || obj.Same(behind, w) == r.ok {
				t.Errorf("%s: Store to %d in %v by %v: %v, the world as it was: %v", name, r.addr, r.in, r.by, ok, obj.Same(behind, w))
			}
			if word, _ := Load(behind, th, r.addr); r.ok && word != 77 {
				t.Errorf("%s: Load of %d in %v by %v: %d", name, r.addr, r.in, r.by, word)
			}
			hold(t, w, th, r.addr)
		}
	}
}

// reader is a thread, and an address of it.
type reader struct {
	by   api.Object
	addr uint64
}

// readers are threads of some labels with all addresses of each Space.
func readers(w api.World) []reader {
	var out []reader
	for _, l := range []api.Label{plain(), secret(), trusted(), owner(), wary(), two(api.Star, api.Star)} {
		for _, r := range names(w) {
			for _, addr := range addresses(of(w, r.Id)) {
				out = append(out, reader{by(l, r), addr})
			}
		}
	}
	return out
}

// writers are those that store something, each word by at most two of them.
func writers(w api.World) []reader {
	var out []reader
	met := map[uint64]int{}
	for _, r := range readers(w) {
		s := walkOf(w, r.by, r.addr)
		if s.stores(w, r.by) && met[of(w, s.id).Data[s.at]] < 2 {
			met[of(w, s.id).Data[s.at]]++
			out = append(out, r)
		}
	}
	return out
}

// P18.3: what was stored is loaded by whoever's address comes to the same word, and what all others load stays.
func TestStored(t *testing.T) {
	t.Parallel()
	w := house()
	var all []reader
	for at, r := range readers(w) {
		if walkOf(w, r.by, r.addr).err() == api.OK || at%7 == 0 {
			all = append(all, r)
		}
	}
	again, others := 0, 0
	for at, from := range writers(w) {
		if at%2 > 0 {
			continue
		}
		there := walkOf(w, from.by, from.addr)
		behind := holdStore(t, w, from.by, from.addr, uint64(7+at), there)
		for _, to := range all {
			s := walkOf(w, to.by, to.addr)
			want, wantOk := Load(w, to.by, to.addr)
			if s.err() == api.OK && s.id == there.id && s.at == there.at {
				want = uint64(7 + at)
				again++
				if !slices.Equal(to.by.Label, from.by.Label) && to.addr != from.addr {
					others++
				}
			}
			if got, ok := Load(behind, to.by, to.addr); got != want || ok != wantOk {
				t.Fatalf("behind Store to %d in %v, Load of %d in %v by %v: %d, %v, not %d, %v", from.addr, from.by.Thread.Space, to.addr, to.by.Thread.Space, to.by.Label, got, ok, want, wantOk)
			}
		}
	}
	if again < 200 || others < 50 {
		t.Errorf("the same word was loaded %d times, by others elsewhere %d times", again, others)
	}
}

// P18.3, written out: the same word by another address, by another map and Space, by another thread, and by another container of the same segment.
func TestStoredRows(t *testing.T) {
	w := house()
	was := deep(w)
	chart := ref(root, 30)
	for _, to := range []struct {
		from reader
		also []reader
	}{
		{reader{by(plain(), chart), 3}, []reader{{by(plain(), chart), page(5, 3)}, {by(secret(), chart), 3}, {by(secret(), ref(root, 31)), 3}, {by(plain(), ref(root, 38)), 3}, {by(plain(), ref(root, 32)), page(3, 3)}}},
		{reader{by(plain(), ref(4, 35)), 3}, []reader{{by(plain(), chart), page(1, 3)}, {by(plain(), chart), page(topVa-1, 3)}, {by(plain(), ref(2, 37)), page(9, 3)}, {by(secret(), ref(root, 31)), page(1, 3)}}},
		{reader{by(plain(), chart), page(21, 3)}, []reader{{by(plain(), chart), page(22, 3)}}},
		{reader{by(owner(), chart), page(20, 3)}, []reader{{by(plain(), ref(root, 35)), page(8, 3)}, {by(plain(), ref(2, 35)), page(9, 3)}}},
		{reader{by(secret(), chart), page(13, 3)}, []reader{{by(owner(), chart), page(14, 3)}, {by(secret(), ref(3, 33)), page(5, 3)}}},
		{reader{by(secret(), ref(3, 33)), page(7, 0)}, []reader{{by(secret(), ref(3, 33)), page(6, 0)}}},
		{reader{by(trusted(), ref(4, 34)), 5}, []reader{{by(trusted(), ref(4, 34)), 5}, {by(plain(), ref(root, 32)), page(1, 5)}, {by(owner(), ref(root, 32)), page(1, 5)}}},
	} {
		behind, ok := Store(w, to.from.by, to.from.addr, 1<<63+5)
		if !ok {
			t.Fatalf("Store to %d in %v by %v: false", to.from.addr, to.from.by.Thread.Space, to.from.by.Label)
		}
		for _, r := range append(to.also, to.from) {
			if word, ok := Load(behind, r.by, r.addr); !ok || word != 1<<63+5 {
				t.Errorf("behind Store to %d in %v, Load of %d in %v by %v: %d, %v", to.from.addr, to.from.by.Thread.Space, r.addr, r.by.Thread.Space, r.by.Label, word, ok)
			}
			if word, ok := Load(w, r.by, r.addr); !ok || word == 1<<63+5 {
				t.Errorf("the world ahead of Store is another one: Load of %d: %d, %v", r.addr, word, ok)
			}
		}
	}
	if !reflect.DeepEqual(w, was) {
		t.Error("what was handed in is another one")
	}
}

// P18.3: any word is stored as it is, also one that is there, and 0.
func TestAnyWord(t *testing.T) {
	th := by(plain(), ref(root, 30))
	for _, addr := range []uint64{0, 15, page(20, 0), page(21, 15), topAddr - 1} {
		w := house()
		here, _ := Load(w, th, addr)
		same, ok := Store(w, th, addr, here)
		if !ok || !obj.Same(same, w) {
			t.Errorf("Store to %d of what is there: %v", addr, ok)
		}
		for _, v := range []uint64{0, 1, 1 << 31, 1 << 32, 1<<63 - 1, 1 << 63, math.MaxUint64, 5} {
			w, ok = Store(w, th, addr, v)
			if word, loaded := Load(w, th, addr); !ok || !loaded || word != v {
				t.Errorf("Store of %d to %d: %v, then Load: %d, %v", v, addr, ok, word, loaded)
			}
		}
	}
}

// P18.3: words are stored at unlike places in either order; of two at one place the later one stays.
func TestEitherOrder(t *testing.T) {
	w := house()
	all := writers(w)
	if len(all) < 50 {
		t.Fatalf("%d writers", len(all))
	}
	unlike, like := 0, 0
	for _, a := range all {
		first, _ := Store(w, a.by, a.addr, 71)
		for _, b := range all {
			there := walkOf(w, b.by, b.addr)
			second, _ := Store(w, b.by, b.addr, 72)
			ab, ok := Store(first, b.by, b.addr, 72)
			ba, okToo := Store(second, a.by, a.addr, 71)
			here := walkOf(w, a.by, a.addr)
			if !ok || !okToo {
				t.Fatalf("behind one Store the other one is false: %v, %v", a, b)
			}
			same := here.id == there.id && here.at == there.at
			if same {
				like++
				of(ba, here.id).Data[here.at] = 72
				if word, _ := Load(ab, a.by, a.addr); word != 72 {
					t.Errorf("of two words at one place the first one stays: %d", word)
				}
			} else {
				unlike++
			}
			if !obj.Same(ab, ba) {
				t.Errorf("in either order: %d in %v and %d in %v", a.addr, a.by.Thread.Space, b.addr, b.by.Thread.Space)
			}
		}
	}
	if like <= len(all) || unlike < 1000 {
		t.Errorf("%d writers at one place, %d at unlike ones", like, unlike)
	}
}

// P18.2, P18.3: rows of drawn calls of all threads, in one world after another.
func TestDrawnRows(t *testing.T) {
	for seed := range int64(6) {
		draw := rand.New(rand.NewSource(seed))
		for name, w := range map[string]api.World{"house": house(), "grid": grid()} {
			all := readers(w)
			if name == "grid" {
				for _, l := range labelsFrom(api.Star) {
					for addr := range uint64(400) {
						all = append(all, reader{by(l, ref(root, 5)), addr})
					}
				}
			}
			stored := 0
			for range 1500 {
				r := all[draw.Intn(len(all))]
				want := holdWalk(t, w, r.by, r.addr)
				holdLoad(t, w, r.by, r.addr, want)
				w = holdStore(t, w, r.by, r.addr, draw.Uint64()>>draw.Intn(64), want)
				if want.stores(w, r.by) {
					stored++
				}
			}
			if stored < 30 || !tree.Fit(w) {
				t.Errorf("%s, seed %d: %d were stored, whole behind all: %v", name, seed, stored, tree.Fit(w))
			}
		}
	}
}

// P18.3: behind Store a whole world is whole, and the greatest ones are stored to.
func TestGreat(t *testing.T) {
	th := by(nil, ref(greatRoot, 2))
	w, last := great(), uint64(1021*pageLen-1)
	for at := range uint64(16) {
		first, want := 1600*at, api.OK
		if first > last {
			want = api.ErrRange
		}
		_, word, write, err := Walk(w, th, at*topAddr/16)
		if err != want || err == api.OK && (word != first || !write) {
			t.Errorf("Walk of map %d: word %d, to write %v, error %d, not word %d, error %d", at, word, write, err, first, want)
		}
	}
	for _, addr := range []uint64{last, last - 1600 + topAddr/16} {
		w = holdStore(t, w, th, addr, addr, walkOf(w, th, addr))
		if word, ok := Load(w, th, last); !ok || word != addr {
			t.Errorf("the last word: %d, %v", word, ok)
		}
		hold(t, w, th, addr+1)
	}
	x, th := many(), by(nil, ref(root, 2))
	for d := range uint64(8) {
		for word := range uint64(4) {
			addr := d*pageLen + word
			x = holdStore(t, x, th, addr, d, walkOf(x, th, addr))
		}
	}
	if !tree.Fit(w) || !tree.Fit(x) {
		t.Error("what is told is not whole")
	}
}

// P18.4: of a segment of each label, by a thread of each label: loaded is what may be seen, stored what may be changed, too.
func TestWithinLabels(t *testing.T) {
	w := grid()
	met := map[[2]bool]int{}
	for _, l := range labelsFrom(api.Star) {
		th := by(l, ref(root, 5))
		for at, label := range labelsFrom(api.Lev0) {
			sees, changes := true, true
			for _, cat := range []uint64{catA, catB} {
				sees = sees && (levelOf(l, cat) == api.Star || levelOf(label, cat) <= levelOf(l, cat))
				changes = changes && (levelOf(l, cat) == api.Star || levelOf(label, cat) == levelOf(l, cat))
			}
			met[[2]bool{sees, changes}]++
			addr := page(3*at, 3)
			word, ok := Load(w, th, addr)
			if ok != sees || ok != (word != 0) {
				t.Errorf("Load of a segment of %v by a thread of %v: %d, %v", label, l, word, ok)
			}
			behind, ok := Store(w, th, addr, 5)
			if ok != changes || ok == obj.Same(behind, w) {
				t.Errorf("Store to a segment of %v by a thread of %v: %v", label, l, ok)
			}
			hold(t, w, th, addr)
		}
	}
	if len(met) != 3 {
		t.Errorf("met with are %v", met)
	}
}

// P18.4: whatever is stored, of all objects only a segment that the thread may change is another one.
func TestChangedAlone(t *testing.T) {
	w := house()
	stored := 0
	for _, r := range readers(w) {
		behind, ok := Store(w, r.by, r.addr, 7)
		for at, o := range behind.Objects {
			if was := w.Objects[at]; !obj.SameOne(o, was) {
				stored++
				if !ok || was.Kind != api.KdSegment || !maySee(r.by, was) || !mayWrite(r.by, was) {
					t.Errorf("Store to %d in %v by %v: %d is another one", r.addr, r.by.Thread.Space, r.by.Label, o.Id)
				}
			}
		}
	}
	if stored < 100 {
		t.Errorf("%d were stored", stored)
	}
}

// disguised is a world in which all words and maps that a thread may not see are other ones, or less or more of them, and nothing lies in containers that it may not see, but for the Root.
func disguised(w api.World, th api.Object) api.World {
	x := deep(w)
	for _, d := range w.Objects {
		if d.Kind == api.KdContainer && d.Id != root && !maySee(th, d) {
			for _, id := range d.Links {
				x, _, _ = sweep.Unref(x, d.Id, id)
			}
		}
	}
	for at := range x.Objects {
		o := &x.Objects[at]
		if maySee(th, *o) {
			continue
		}
		switch o.Kind {
		case api.KdSegment:
			o.Data = []uint64{5, 6, 7, 8, 9}[:min(5, pageLen*(o.Quota-1))]
		case api.KdSpace:
			o.Maps = []api.Map{open(mapOf(0, topVa, root, 10, 0))}
		}
	}
	return x
}

// P18.4: what a thread may not see plays no part in anything that it is told; to who may see it, it does.
func TestHidden(t *testing.T) {
	t.Parallel()
	w := house()
	unlike, others := 0, 0
	for _, l := range someLabels() {
		x := disguised(w, by(l, api.Ref{}))
		if !tree.Fit(x) {
			t.Fatalf("disguised for %v it is not whole", l)
		}
		if !obj.Same(w, x) {
			unlike++
		}
		for _, r := range names(w) {
			th, all := by(l, r), by(two(api.Star, api.Star), r)
			for _, addr := range addresses(of(w, r.Id)) {
				o, at, write, err := Walk(w, th, addr)
				o2, at2, write2, err2 := Walk(x, th, addr)
				if !obj.SameOne(o, o2) || at != at2 || write != write2 || err != err2 {
					t.Errorf("Walk of %d in %v by %v: error %d or %d", addr, r, l, err, err2)
				}
				word, ok := Load(w, th, addr)
				if word2, ok2 := Load(x, th, addr); word != word2 || ok != ok2 {
					t.Errorf("Load of %d in %v by %v: %d, %v, or %d, %v", addr, r, l, word, ok, word2, ok2)
				}
				if err == api.OK || addr%3 == 0 {
					_, ok = Store(w, th, addr, 5)
					if _, ok2 := Store(x, th, addr, 5); ok != ok2 {
						t.Errorf("Store to %d in %v by %v: %v or %v", addr, r, l, ok, ok2)
					}
				}
				word, ok = Load(w, all, addr)
				if word2, ok2 := Load(x, all, addr); word != word2 || ok != ok2 {
					others++
				}
			}
		}
	}
	if unlike < 10 || others < 100 {
		t.Errorf("unlike are %d worlds, to those who may see it %d words", unlike, others)
	}
}

// P18.1, P18.2: the thread need not be of the world; if one of its Id is, or another thing, it is the one handed in that counts, and what is there stays.
func TestNotOfTheWorld(t *testing.T) {
	w := house()
	for _, o := range append(deep(w.Objects), api.Object{Id: topId}, api.Object{Id: 999}) {
		for _, l := range []api.Label{plain(), secret(), owner()} {
			for _, r := range []api.Ref{ref(root, 30), ref(root, 31), {}} {
				for _, addr := range []uint64{0, 3, page(5, 3), page(7, 0), page(40, 0)} {
					hold(t, w, thread(o.Id, l, r), addr)
				}
			}
		}
	}
	mine := *of(w, 43)
	if _, ok := Load(w, mine, 3); ok {
		t.Error("the world's own thread loads by a Space that it may not see")
	}
	if word, ok := Load(w, thread(43, plain(), ref(root, 30)), 3); !ok || word != wordOf(10, 3) {
		t.Errorf("a thread of its Id, with another Space: %d, %v", word, ok)
	}
	if word, ok := Load(w, *of(w, 42), page(7, 3)); !ok || word != wordOf(11, 3) {
		t.Errorf("a thread of the world: %d, %v", word, ok)
	}
}

// P18.1, P18.2: of the thread its Label and its Space alone count.
func TestLabelAndSpaceAlone(t *testing.T) {
	w := house()
	for _, l := range []api.Label{plain(), secret(), owner(), wary(), two(api.Lev0, api.Lev3)} {
		for _, r := range names(w) {
			th := by(l, r)
			other := deep(th)
			other.Id, other.Quota = 3, 9
			other.Thread.Clear = two(api.Lev3, api.Lev3)
			other.Thread.State, other.Thread.Pc, other.Thread.Handler, other.Thread.Vector = api.ThWait, 33, 34, 35
			other.Thread.Wait = api.Wait{Ref: ref(root, 38), Index: 4, Val: 5}
			other.Thread.Alerts, other.Thread.Span = []uint64{6, 7}, api.Span{Lo: 8, Hi: 9}
			other.Thread.Labs = [4]api.Label{two(api.Star, api.Star), nil, secret()}
			other.Thread.Regs[3] = 10
			if !obj.Sound(other) {
				t.Fatalf("a thread of %v is not sound", l)
			}
			for _, addr := range addresses(of(w, r.Id)) {
				hold(t, w, other, addr)
			}
		}
	}
}

// calls are all three calls of an address, and what they tell, whatever it is.
func calls(w api.World, th api.Object, addr uint64) []any {
	o, at, write, err := Walk(w, th, addr)
	word, loaded := Load(w, th, addr)
	behind, stored := Store(w, th, addr, 5)
	return []any{o, at, write, err, word, loaded, behind, stored}
}

// 0.5: no call changes what it is given; what it tells is new memory, each time, and has no empty list.
func TestNewMemory(t *testing.T) {
	w := house()
	roomy(&w)
	for _, l := range []api.Label{plain(), secret(), owner()} {
		for _, r := range []api.Ref{{}, ref(root, 30), ref(root, 31), ref(2, 37), ref(root, 10)} {
			th := by(l, r)
			roomy(&th)
			wasWorld, wasThread := deep(w), deep(th)
			for _, addr := range []uint64{0, 3, page(1, 3), page(2, 15), page(5, 3), page(6, 0), page(7, 0), page(9, 0), page(12, 0), page(13, 0), page(40, 0), page(42, 0), topAddr} {
				first, again := calls(w, th, addr), calls(w, th, addr)
				if !reflect.DeepEqual(w, wasWorld) || !reflect.DeepEqual(th, wasThread) {
					t.Fatalf("%d in %v by %v: what it is given is another one", addr, r, l)
				}
				if !reflect.DeepEqual(first, again) {
					t.Fatalf("%d in %v by %v: another thing is told the second time", addr, r, l)
				}
				all := append(stretches(w, false), stretches(th, false)...)
				for _, told := range append(first, again...) {
					all = append(all, stretches(told, true)...)
					if n := emptyLists(told); n > 0 {
						t.Errorf("%d in %v by %v: %d empty lists are told", addr, r, l, n)
					}
				}
				if shares(all) {
					t.Fatalf("%d in %v by %v: what is told shares memory", addr, r, l)
				}
			}
		}
	}
}

// odd are worlds that are not whole.
func odd() map[string]api.World {
	bad := api.Label{{Cat: 9, Lev: 9}, {Cat: 7, Lev: -3}, {Cat: 7, Lev: api.Above}, {Cat: 7, Lev: api.Lev1}}
	changed := func(does func(*api.Object)) api.World {
		w := house()
		for at := range w.Objects {
			does(&w.Objects[at])
		}
		return w
	}
	mapped := func(l ...api.Map) api.World { return changed(func(o *api.Object) { o.Maps = l }) }
	turned, twice := house(), house()
	slices.Reverse(turned.Objects)
	twice.Objects = slices.Concat(twice.Objects, twice.Objects)
	return map[string]api.World{
		"nothing": {}, "no Root": {Root: 77, Objects: house().Objects}, "from the end": turned, "all twice": twice,
		"labels":             changed(func(o *api.Object) { o.Label = bad }),
		"all are spaces":     changed(func(o *api.Object) { o.Kind = api.KdSpace }),
		"all are segments":   changed(func(o *api.Object) { o.Kind = api.KdSegment }),
		"no kinds":           changed(func(o *api.Object) { o.Kind = -o.Kind }),
		"all link all":       changed(func(o *api.Object) { o.Links = []uint64{root, 2, 10, 30, math.MaxUint64} }),
		"quotas":             changed(func(o *api.Object) { o.Quota = math.MinInt }),
		"maps below 0":       mapped(mapOf(-5, 9, root, 10, -3), open(mapOf(-1, -1, root, 10, math.MinInt))),
		"maps without end":   mapped(open(mapOf(0, math.MaxInt, root, 10, math.MaxInt)), open(mapOf(math.MaxInt, math.MaxInt, root, 10, 0))),
		"maps that fall":     mapped(open(mapOf(9, 4, root, 10, 0)), open(mapOf(3, 9, root, 10, 0)), open(mapOf(0, 9, root, 10, 1<<60))),
		"maps that wrap":     mapped(open(mapOf(0, topVa, root, 10, 1<<60)), open(mapOf(0, topVa, root, 10, -1<<60))),
		"maps upon maps":     mapped(slices.Repeat([]api.Map{open(mapOf(0, topVa, root, 10, -1))}, 99)...),
		"an object of Id 0":  world(box(root, 9, nil, 0), segment(0, nil, 3), space(5, nil, open(mapOf(0, 1, root, 0, 0)))),
		"itself, and itself": world(box(root, 9, nil, root, 2), box(2, 9, nil, 2), space(30, nil, open(mapOf(0, 9, 30, 30, 0)))),
	}
}

// 0.1: of worlds that are not whole, and of threads that are not sound, all calls end, none panics or changes what it is given.
func TestOdd(t *testing.T) {
	long := make(api.Label, 3000)
	for at := range long {
		long[at] = api.Pair{Cat: uint64(at % 70), Lev: at%9 - 2}
	}
	for name, w := range odd() {
		t.Run(name, func(t *testing.T) {
			was := deep(w)
			for _, l := range []api.Label{nil, owner(), two(api.Above, api.Above), {{Cat: 9, Lev: 77}, {Cat: 7, Lev: -5}}, long} {
				for _, r := range []api.Ref{{}, ref(root, 30), ref(root, 5), ref(root, 10), ref(root, root), ref(2, 37), ref(30, 30), ref(root, math.MaxUint64)} {
					for _, kind := range []int{api.KdThread, api.KdSegment, -1} {
						th := by(l, r)
						th.Kind = kind
						for _, addr := range []uint64{0, 3, page(2, 7), page(9, 15), topAddr - 1, topAddr, math.MaxUint64} {
							told := calls(w, th, addr)
							if err := told[3]; err != api.OK && fmt.Sprint(told[:6]...) != fmt.Sprint(api.Object{}, uint64(0), false, err, uint64(0), false) {
								t.Errorf("%d in %v: something is told beside error %v", addr, r, err)
							}
						}
					}
				}
			}
			if !reflect.DeepEqual(w, was) {
				t.Error("what was handed in is another one")
			}
		})
	}
}
