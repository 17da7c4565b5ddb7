package tree

import (
	"cmp"
	"fmt"
	"math"
	"math/rand"
	"reflect"
	"slices"
	"testing"

	"curtilage/api"
	"curtilage/obj"
	"curtilage/perm"
)

// everyKind is a Root with an object of each kind in it, none of them Fixed.
func everyKind() api.World {
	all := []api.Object{box(root, 100, 2, 3, 4, 5, 6, 7)}
	for at, kind := range kinds() {
		all = append(all, thing(kind, uint64(2+at), 3))
	}
	return world(all...)
}

// chain is a Root and containers, n in all, each in the one ahead of it, with a gate in the last one. The ids fall and rise by turns, so that what is above is not always less.
func chain(n int) api.World {
	id := func(at int) uint64 {
		if at == 0 {
			return root
		}
		if at%2 == 0 {
			return uint64(10000 - at)
		}
		return uint64(10000 + at)
	}
	var all []api.Object
	for at := range n {
		all = append(all, box(id(at), n+1-at, id(at+1)))
	}
	return world(append(all, thing(api.KdGate, id(n), 1))...)
}

// brim is a Root of Quota 1024 with as many objects: containers of 60 gates each.
func brim() api.World {
	all := []api.Object{box(root, topRoot)}
	left, next := topRoot-1, uint64(2)
	for left > 0 {
		n := min(left-1, 60)
		d := box(next, n+1, count(next+1, n)...)
		all[0].Links = append(all[0].Links, next)
		all = append(append(all, d), gates(nil, d.Links...)...)
		left, next = left-n-1, next+uint64(n)+1
	}
	return world(all...)
}

// house is a Root with containers that are open, secret, full and tight, in every mixture, and with one of 63 links, in which all kinds of things lie.
func house() api.World {
	secret := pair(7, api.Lev3)
	all := []api.Object{
		box(root, topRoot, 10, 20, 30, 40, 50, 60, 70, 80, 90, 95, 96),
		box(10, 50, 11, 12, 13, 14, 15, 16, 17, 18),
		fixed(segment(11, 3, 20)), segment(12, 9, 50), labelled(thread(13, 100, 200), pair(9, api.Star)),
		box(14, 5), fixed(thing(api.KdGate, 15, 1)), thing(api.KdDevice, 16, 2), thing(api.KdSpace, 17, 1), fixed(labelled(segment(18, 4, 0), secret)),
		labelled(box(20, 30, 21, 22, 23), secret),
		fixed(labelled(segment(21, 2, 0), secret)), labelled(thread(22, 200, 300), pair(7, api.Star)), labelled(thing(api.KdGate, 23, 6), secret),
		box(30, 100, append(count(300, 63), 15)...),
		box(40, 74, count(400, 63)...),
		box(50, 1),
		labelled(box(60, 65, count(600, 64)...), secret),
		box(70, 65, count(700, 64)...),
		labelled(box(80, 1), secret),
		labelled(box(90, 100, count(900, 64)...), secret),
		fixed(box(95, 20)),
		box(96, 3, 97), fixed(segment(97, 2, 0)),
	}
	all = append(all, gates(nil, slices.Concat(count(300, 63), count(400, 63), count(700, 64))...)...)
	return world(append(all, gates(secret, append(count(600, 64), count(900, 64)...)...)...)...)
}

// shed is a small world with a thing of each sort in it, and some room.
func shed() api.World {
	secret := pair(7, api.Lev3)
	return world(
		box(root, 60, 2, 3, 4, 5, 12),
		box(2, 20, 6, 7, 11), labelled(box(3, 10, 8), secret), fixed(segment(4, 2, 5)), thread(5, 50, 90),
		box(6, 8, 9, 10, 11), segment(7, 4, 17), labelled(segment(8, 3, 1), secret), fixed(thing(api.KdGate, 9, 2)), thing(api.KdDevice, 10, 1),
		fixed(labelled(thing(api.KdSpace, 11, 1), secret)), labelled(thread(12, 90, 91), pair(7, api.Star)))
}

// wholes are worlds that are whole.
func wholes() map[string]api.World {
	return map[string]api.World{
		"a Root of 1":        world(box(root, 1)),
		"a Root of 3":        world(box(root, 3)),
		"a Root of 1024":     world(box(root, topRoot)),
		"another Root":       world(box(topId, 5, 1), thing(api.KdGate, 1, 4)),
		"every kind":         everyKind(),
		"a chain of 2":       chain(2),
		"a chain of 9":       chain(9),
		"a small house":      shed(),
		"a house":            house(),
		"one to the brim":    brim(),
		"a chain to the end": chain(topRoot - 1),
	}
}

// P14.1: what the tests take for whole is.
func TestFitWholes(t *testing.T) {
	for name, w := range wholes() {
		if !isWhole(w) || !Fit(w) {
			t.Errorf("%s is %v, by the words %v", name, Fit(w), isWhole(w))
		}
	}
}

// holdFit holds Fit of a world against what is awaited, and that against the chapter's words.
func holdFit(t *testing.T, why string, w api.World, want bool) {
	t.Helper()
	if isWhole(w) != want {
		t.Fatalf("%s: by the words it is %v", why, !want)
	}
	if got := Fit(w); got != want {
		t.Errorf("%s: it is %v", why, got)
	}
}

// Example 1: a Root of Quota 3 alone is whole; a segment of Quota 3 is too much, one of Quota 2 takes all.
func TestExample(t *testing.T) {
	w := api.World{Root: 1, Objects: []api.Object{{Id: 1, Kind: api.KdContainer, Quota: 3}}}
	if !Fit(w) {
		t.Error("a Root of Quota 3 alone is not whole")
	}
	if x, err := Attach(w, 1, segment(2, 3, 0)); err != api.ErrQuota || !obj.Same(x, w) {
		t.Errorf("a segment of Quota 3: %v", err)
	}
	x, err := Attach(w, 1, segment(2, 2, 0))
	if err != api.OK || !slices.Equal(ids(x), []uint64{1, 2}) || Room(x, x.Objects[0]) != 0 || !Fit(x) {
		t.Errorf("a segment of Quota 2: %v, %v", x, err)
	}
}

// P14.1: what is not fit by chapter 13 is not whole.
func TestFitUnfit(t *testing.T) {
	holdFit(t, "nothing", api.World{}, false)
	holdFit(t, "nothing with a Root", api.World{Root: 1}, false)
	rows := map[string]func(*api.World){
		"time below 0":     func(w *api.World) { w.Time = -1 },
		"too late":         func(w *api.World) { w.Time = 1<<40 + 1 },
		"falling":          func(w *api.World) { w.Objects[3], w.Objects[4] = w.Objects[4], w.Objects[3] },
		"twice":            func(w *api.World) { w.Objects = slices.Insert(w.Objects, 3, w.Objects[3]) },
		"no kind":          func(w *api.World) { w.Objects[9].Kind = 7 },
		"no Quota":         func(w *api.World) { w.Objects[9].Quota = 0 },
		"no label":         func(w *api.World) { w.Objects[9].Label = pair(4, api.Above) },
		"too many words":   func(w *api.World) { w.Objects[6].Data = make([]uint64, 49) },
		"another's part":   func(w *api.World) { w.Objects[6].Out = []uint64{1} },
		"links that fall":  func(w *api.World) { slices.Reverse(w.Objects[0].Links) },
		"links twice":      func(w *api.World) { w.Objects[0].Links[1] = w.Objects[0].Links[0] },
		"a thread is fast": func(w *api.World) { w.Objects[4].Fixed = true },
	}
	for name, does := range rows {
		holdFit(t, name, changed(shed(), does), false)
	}
	holdFit(t, "the last time", changed(shed(), func(w *api.World) { w.Time = 1 << 40 }), true)
	holdFit(t, "the first time", changed(shed(), func(w *api.World) { w.Time = 0 }), true)
}

// P14.1: the Root is an object, a container, in none, with a Quota of at most 1024.
func TestFitRoot(t *testing.T) {
	w := everyKind()
	for _, id := range append(ids(w), 0, 99, topId, topId+1, math.MaxUint64) {
		holdFit(t, fmt.Sprint("the Root is ", id), changed(w, func(w *api.World) { w.Root = id }), id == root)
	}
	for _, kind := range kinds() {
		holdFit(t, fmt.Sprint("alone there is kind ", kind), world(thing(kind, root, 3)), kind == api.KdContainer)
	}
	for _, quota := range []int{1, 2, 1023, 1024, 1025, 4096} {
		holdFit(t, fmt.Sprint("the Root's Quota is ", quota), world(box(root, quota)), quota <= topRoot)
		if quota > 1 {
			holdFit(t, fmt.Sprint("the Root's Quota, used, is ", quota), world(box(root, quota, 2), segment(2, quota-1, 0)), quota <= topRoot)
		}
	}
	holdFit(t, "the Root is in itself", world(box(root, 9, root)), false)
	holdFit(t, "the Root is in a container that is in it", world(box(root, 9, 2), box(2, 3, root)), false)
	holdFit(t, "the Root is in a container that is nowhere", world(box(root, 9), box(2, 30, root)), false)
	holdFit(t, "a Root that is Fixed", world(fixed(box(root, 9))), true)
	holdFit(t, "the Root is in two", world(box(root, 9, 2, 3), box(2, 3, root), box(3, 3, root)), false)
}

// P14.1: each link is an object's.
func TestFitLinks(t *testing.T) {
	for _, w := range []api.World{world(box(root, 9)), everyKind(), shed(), house()} {
		for _, o := range w.Objects {
			if o.Kind != api.KdContainer || len(o.Links) == topLinks {
				continue
			}
			for _, id := range []uint64{27, 1000, topId} {
				holdFit(t, fmt.Sprintf("%d links %d", o.Id, id), linkOf(w, o.Id, id), false)
			}
		}
	}
	for _, id := range []uint64{0, topId + 1} {
		holdFit(t, fmt.Sprintf("a link to %d", id), world(box(root, 9, id)), false)
	}
}

// P14.1: each object but the Root lies in one container at least; a container, a thread, and what is not Fixed, in one at most.
func TestFitHolders(t *testing.T) {
	for _, kind := range kinds() {
		for _, fast := range []bool{false, true} {
			o := thing(kind, 5, 2)
			o.Fixed = fast
			if kind == api.KdThread && fast {
				continue
			}
			many := fast && kind != api.KdContainer
			for n, want := range []bool{false, true, many, many} {
				w := world(box(root, 100, 2, 3, 4), box(2, 20), box(3, 20), box(4, 20), o)
				for _, d := range []uint64{2, 3, 4}[:n] {
					w = linkOf(w, d, 5)
				}
				holdFit(t, fmt.Sprintf("kind %d, Fixed %v, in %d containers", kind, fast, n), w, want)
			}
			both := world(box(root, 100, 2, 5), box(2, 20, 5), o)
			holdFit(t, fmt.Sprintf("kind %d, Fixed %v, in the Root and in what is in it", kind, fast), both, many)
		}
	}
}

// P14.1: from each container one comes up to the Root. (Where one does not, what is used is too much as well.)
func TestFitLoops(t *testing.T) {
	top := box(root, 900)
	rows := map[string]api.World{
		"itself":                    world(top, box(2, 9, 2)),
		"itself, and a thing":       world(top, box(2, 9, 2, 3), thing(api.KdGate, 3, 1)),
		"each other":                world(top, box(2, 9, 3), box(3, 9, 2)),
		"each other, unlike":        world(top, box(2, 900, 3), box(3, 9, 2)),
		"each other, and a thing":   world(top, box(2, 900, 3), box(3, 9, 2, 4), thing(api.KdGate, 4, 1)),
		"three":                     world(top, box(2, 9, 3), box(3, 9, 4), box(4, 9, 2)),
		"a way into a ring":         world(top, box(2, 9, 3, 5), box(3, 9, 4), box(4, 9, 2), box(5, 3)),
		"the Root and another":      world(box(root, 900, 2), box(2, 9, root)),
		"below the Root, itself":    world(box(root, 900, 2), box(2, 9, 2)),
		"below the Root":            world(box(root, 900, 2), box(2, 100, 3), box(3, 9, 2)),
		"one that is nowhere":       world(top, box(2, 9)),
		"below one that is nowhere": world(top, box(2, 9, 3), box(3, 3, 4), thing(api.KdGate, 4, 1)),
	}
	for name, w := range rows {
		holdFit(t, name, w, false)
	}
}

// P14.1: each container's use is at most its Quota.
func TestFitUses(t *testing.T) {
	rows := map[string]struct {
		w    api.World
		want bool
	}{
		"alone":                       {world(box(root, 1)), true},
		"just as much":                {world(box(root, 3, 2), segment(2, 2, 0)), true},
		"one more":                    {world(box(root, 3, 2), segment(2, 3, 0)), false},
		"of several just as much":     {world(box(root, 10, 2, 3, 4), segment(2, 4, 33), thing(api.KdGate, 3, 3), box(4, 2)), true},
		"of several one more":         {world(box(root, 10, 2, 3, 4), segment(2, 4, 33), thing(api.KdGate, 3, 4), box(4, 2)), false},
		"a container's just as much":  {world(box(root, 90, 2), box(2, 5, 3, 4), thing(api.KdGate, 3, 2), thing(api.KdDevice, 4, 2)), true},
		"a container's one more":      {world(box(root, 90, 2), box(2, 5, 3, 4), thing(api.KdGate, 3, 2), thing(api.KdDevice, 4, 3)), false},
		"a deep one's just as much":   {world(box(root, 90, 2), box(2, 50, 3), box(3, 2, 4), thing(api.KdSpace, 4, 1)), true},
		"a deep one's one more":       {world(box(root, 90, 2), box(2, 50, 3), box(3, 2, 4), thing(api.KdSpace, 4, 2)), false},
		"what is Fixed counts twice":  {world(box(root, 6, 2, 3), box(2, 2, 3), fixed(thing(api.KdSpace, 3, 2))), false},
		"what is Fixed counts once":   {world(box(root, 6, 2, 3), box(2, 3, 3), fixed(thing(api.KdSpace, 3, 2))), true},
		"a Quota that nothing uses":   {world(box(root, 6, 2), segment(2, 5, 0)), true},
		"all 1024":                    {world(box(root, 1024, 2), segment(2, 1023, 16352)), true},
		"1024 and one more":           {world(box(root, 1024, 2), segment(2, 1024, 0)), false},
		"the greatest Quota in a one": {world(box(root, 1, 2), segment(2, 4096, 0)), false},
	}
	for name, r := range rows {
		holdFit(t, name, r.w, r.want)
	}
	for name, w := range map[string]api.World{"brim": brim(), "chain": chain(20)} {
		for _, o := range w.Objects {
			less := with(w, o.Id, func(o *api.Object) { o.Quota-- })
			holdFit(t, fmt.Sprintf("%s: %d has one less", name, o.Id), less, false)
		}
	}
}

// levels are all that a kept label may have of a category, 1 as no pair.
func levels() []api.Label {
	return []api.Label{pair(7, api.Star), pair(7, api.Lev0), nil, pair(7, api.Lev2), pair(7, api.Lev3)}
}

// P14.1: what lies in a container may by its label: level by level, and kind by kind.
func TestFitLabels(t *testing.T) {
	for _, kind := range kinds() {
		for _, in := range levels()[1:] {
			for _, l := range levels() {
				if kind != api.KdThread && levelOf(l, 7) == api.Star {
					continue
				}
				o := labelled(thing(kind, 3, 1), l)
				want := levelOf(l, 7) == api.Star || levelOf(in, 7) <= max(levelOf(l, 7), api.Lev1)
				w := world(box(root, 9, 2), labelled(box(2, 5, 3), in), o)
				holdFit(t, fmt.Sprintf("kind %d with %v in %v", kind, l, in), w, want && levelOf(in, 7) >= api.Lev0)
				holdFit(t, fmt.Sprintf("kind %d with %v in a Root of %v", kind, l, in), world(labelled(box(root, 9, 3), in), o), want)
			}
		}
	}
	two := api.Label{{Cat: 4, Lev: api.Lev3}, {Cat: 7, Lev: api.Lev2}}
	for name, r := range map[string]struct {
		l    api.Label
		want bool
	}{
		"the same": {two, true}, "more": {api.Label{{Cat: 4, Lev: api.Lev3}, {Cat: 7, Lev: api.Lev3}}, true}, "none": {nil, false},
		"only the first": {pair(4, api.Lev3), false}, "only the second": {pair(7, api.Lev2), false}, "the first less": {api.Label{{Cat: 4, Lev: api.Lev2}, {Cat: 7, Lev: api.Lev2}}, false},
		"one more": {api.Label{{Cat: 4, Lev: api.Lev3}, {Cat: 5, Lev: api.Lev0}, {Cat: 7, Lev: api.Lev2}}, true},
	} {
		holdFit(t, name, world(labelled(box(root, 9, 2), two), labelled(segment(2, 1, 0), r.l)), r.want)
	}
	open, shut := box(2, 5, 4), labelled(box(3, 5, 4), two)
	holdFit(t, "the second container forbids it", world(box(root, 20, 2, 3), open, shut, fixed(segment(4, 1, 0))), false)
	holdFit(t, "the second container allows it", world(box(root, 20, 2, 3), open, shut, labelled(fixed(segment(4, 1, 0)), two)), true)
}

// P14.1: threads' Spans are apart.
func TestFitSpans(t *testing.T) {
	rows := map[string]struct {
		a, b api.Span
		want bool
	}{
		"both none":          {api.Span{}, api.Span{}, true},
		"the same":           {api.Span{Lo: 3, Hi: 9}, api.Span{Lo: 3, Hi: 9}, false},
		"one behind another": {api.Span{Lo: 3, Hi: 9}, api.Span{Lo: 9, Hi: 12}, true},
		"one in common":      {api.Span{Lo: 3, Hi: 10}, api.Span{Lo: 9, Hi: 12}, false},
		"one within another": {api.Span{Lo: 3, Hi: 10}, api.Span{Lo: 5, Hi: 6}, false},
		"none, within":       {api.Span{Lo: 3, Hi: 10}, api.Span{Lo: 5, Hi: 5}, true},
		"far from another":   {api.Span{Lo: 3, Hi: 10}, api.Span{Lo: 1 << 60, Hi: 1<<60 + 1}, true},
		"begin alike":        {api.Span{Lo: 3, Hi: 10}, api.Span{Lo: 3, Hi: 4}, false},
		"end alike":          {api.Span{Lo: 3, Hi: 10}, api.Span{Lo: 9, Hi: 10}, false},
		"the last ones":      {api.Span{Lo: topId - 1, Hi: topId}, api.Span{Lo: topId - 1, Hi: topId}, false},
	}
	for name, r := range rows {
		for _, s := range [][2]api.Span{{r.a, r.b}, {r.b, r.a}} {
			a, b := thread(3, s[0].Lo, s[0].Hi), thread(4, s[1].Lo, s[1].Hi)
			holdFit(t, name, world(box(root, 9, 3, 4), a, b), r.want)
			holdFit(t, name+", elsewhere", world(box(root, 9, 2, 4), box(2, 2, 3), a, b), r.want)
			b.Thread.State = api.ThHalt
			holdFit(t, name+", halted", world(box(root, 9, 3, 4), a, b), r.want)
			holdFit(t, name+", with one between", world(box(root, 9, 2, 3, 4), a, b, thread(2, 20, 30)), r.want)
		}
	}
}

// P14.1: no object's Id is still to be given of a thread: not the Root's, not its own, not any other's, by the world's Key.
func TestFitNames(t *testing.T) {
	rooms := func(key, lo, hi uint64) api.World {
		w := world(box(root, 30, 2, 3, 6), box(2, 9, 4, 5), thread(3, lo, hi), segment(4, 1, 0), thread(5, 0, 0), box(6, 1))
		w.Key = key
		return w
	}
	for _, key := range []uint64{0, 1, 5, 1 << 40, math.MaxUint64} {
		for _, id := range []uint64{1, 2, 3, 4, 5, 6} {
			n := perm.Number(key, id)
			why := fmt.Sprintf("key %d, id %d: ", key, id)
			holdFit(t, why+"just its number", rooms(key, n, n+1), false)
			holdFit(t, why+"up to it", rooms(key, n-min(n, 5), n), true)
			holdFit(t, why+"and one more", rooms(key, n-min(n, 5), n+1), false)
			holdFit(t, why+"from behind it on", rooms(key, n+1, n+5), true)
			holdFit(t, why+"none", rooms(key, n, n), true)
			holdFit(t, why+"by another key", rooms(key+1, n, n+1), true)
		}
		holdFit(t, "all numbers", rooms(key, 0, topId), false)
	}
	nobody, last := perm.Number(5, 77), perm.Name(5, topId-1)
	holdFit(t, "the number of an Id that is no object's", world(box(root, 9, 2), thread(2, nobody, nobody+1)), true)
	holdFit(t, "the last number", world(box(root, 9, 2, last), thread(2, topId-1, topId), segment(last, 1, 0)), false)
	holdFit(t, "all but the last number", world(box(root, 9, 2, last), thread(2, topId-2, topId-1), segment(last, 1, 0)), true)
}

// P14.1: all worlds of three containers and a thing with any links between them, and to nothing, are whole by the chapter's words, or not.
func TestFitAllLinks(t *testing.T) {
	targets := []uint64{1, 2, 3, 4, 9}
	leaves := []api.Object{thread(4, 0, 9), segment(4, 2, 3), fixed(segment(4, 2, 3))}
	wholes := 0
	for mask := range 1 << 15 {
		boxes := []api.Object{box(1, 100), box(2, 50), box(3, 20)}
		for at := range 15 {
			if mask>>at&1 == 1 {
				boxes[at/5].Links = append(boxes[at/5].Links, targets[at%5])
			}
		}
		for _, leaf := range leaves {
			w := api.World{Root: 1, Objects: append(slices.Clone(boxes), leaf)}
			want := isWhole(w)
			if got := Fit(w); got != want {
				t.Fatalf("%v of %v, %v, %v with kind %d, Fixed %v", got, boxes[0].Links, boxes[1].Links, boxes[2].Links, leaf.Kind, leaf.Fixed)
			}
			if want {
				wholes++
			}
		}
	}
	if wholes != 26 {
		t.Errorf("%d are whole", wholes)
	}
}

// draws is a world that differs from a whole one in some things.
func draws(draw *rand.Rand, w api.World, n int) api.World {
	w = deep(w)
	for range n {
		at := &w.Objects[draw.Intn(len(w.Objects))]
		other := w.Objects[draw.Intn(len(w.Objects))]
		switch draw.Intn(9) {
		case 0:
			at.Quota = max(1, at.Quota+draw.Intn(5)-2)
		case 1:
			at.Fixed = !at.Fixed && at.Kind != api.KdThread
		case 2:
			at.Label = pair(uint64(7+draw.Intn(2)), []int{api.Lev0, api.Lev2, api.Lev3}[draw.Intn(3)])
		case 3:
			at.Label = nil
		case 4, 5:
			if at.Kind == api.KdContainer && !slices.Contains(at.Links, other.Id) {
				at.Links = append(at.Links, other.Id)
				slices.Sort(at.Links)
			}
		case 6:
			if len(at.Links) > 0 {
				gone := draw.Intn(len(at.Links))
				at.Links = slices.Delete(at.Links, gone, gone+1)
			}
		case 7:
			if at.Kind == api.KdThread {
				n := perm.Number(w.Key, other.Id)
				at.Thread.Span = api.Span{Lo: n - min(n, uint64(draw.Intn(2))), Hi: n + uint64(draw.Intn(2))}
			}
		case 8:
			w.Root = other.Id
		}
	}
	return w
}

// P14.1: Fit of drawn worlds is what the chapter's words say.
func TestFitDrawn(t *testing.T) {
	draw := rand.New(rand.NewSource(14))
	seen := map[bool]int{}
	for _, w := range []api.World{everyKind(), chain(5), shed()} {
		for step := range 6000 {
			x := draws(draw, w, 1+step%5)
			want := isWhole(x)
			if got := Fit(x); got != want {
				t.Fatalf("%+v is %v", x, got)
			}
			seen[want]++
		}
	}
	if seen[true] < 1000 || seen[false] < 1000 {
		t.Errorf("of what was drawn %v was whole", seen)
	}
}

// P14.1: Uses and Room of each kind: a container 1, and the Quotas of all in it; another one its Pages. Links to nothing use nothing.
func TestUses(t *testing.T) {
	for _, kind := range kinds() {
		for _, quota := range []int{1, 5, 4096} {
			o := thing(kind, 900, quota)
			for name, w := range wholes() {
				if got, left := Uses(w, o), Room(w, o); got != 1 || left != quota-1 {
					t.Errorf("kind %d of Quota %d uses %d in %s, has %d left", kind, quota, got, name, left)
				}
			}
		}
	}
	for words, want := range map[int]int{0: 1, 1: 2, 16: 2, 17: 3, 32: 3, 33: 4, 65520: 4096} {
		o := segment(900, 4096, words)
		if got, left := Uses(shed(), o), Room(shed(), o); got != want || left != 4096-want {
			t.Errorf("a segment of %d words uses %d, has %d left", words, got, left)
		}
	}
	device := thing(api.KdDevice, 900, 4)
	device.In, device.Out = count(1, 64), count(1, 1024)
	if Uses(shed(), device) != 1 || Room(shed(), device) != 3 {
		t.Errorf("a full device uses %d", Uses(shed(), device))
	}
}

// P14.1: what containers use, written out: whatever lies in what lies in them, and what is still free of a Quota, counts once, as Quota.
func TestUsesContainers(t *testing.T) {
	w := shed()
	for id, want := range map[uint64]int{1: 1 + 20 + 10 + 2 + 1 + 1, 2: 1 + 8 + 4 + 1, 3: 1 + 3, 6: 1 + 2 + 1 + 1, 4: 2, 7: 3, 8: 2, 5: 1, 9: 1, 10: 1, 11: 1} {
		o := *one(w, id)
		if got, left := Uses(w, o), Room(w, o); got != want || left != o.Quota-want {
			t.Errorf("%d uses %d, has %d left", id, got, left)
		}
	}
	rows := []struct {
		links []uint64
		want  int
	}{
		{nil, 1}, {[]uint64{99}, 1}, {[]uint64{27, 99, topId}, 1}, {[]uint64{2}, 21}, {[]uint64{2, 99}, 21}, {[]uint64{2, 27, 99}, 21},
		{[]uint64{2, 3, 4}, 33}, {[]uint64{1}, 61}, {[]uint64{1, 2, 3, 4, 5, 6, 7, 8, 9, 10, 11, 12}, 1 + 60 + 20 + 10 + 2 + 1 + 8 + 4 + 3 + 2 + 1 + 1 + 1},
		{count(900, 64), 1},
	}
	for _, r := range rows {
		for _, id := range []uint64{1, 2, 900} {
			d := box(id, 30, r.links...)
			if got, left := Uses(w, d), Room(w, d); got != r.want || left != 30-r.want {
				t.Errorf("%d with links %v uses %d, has %d left", id, r.links, got, left)
			}
		}
	}
	if d := box(900, 30, 1, 2); Uses(api.World{}, d) != 1 || Room(api.World{}, d) != 29 {
		t.Errorf("where there is nothing, a container uses %d", Uses(api.World{}, d))
	}
	great := api.World{Objects: []api.Object{segment(1, 4096, 0), segment(2, 4096, 0), box(3, 1, 1, 2, 3)}}
	if d := great.Objects[2]; Uses(great, d) != 8194 || Room(great, d) != -8193 {
		t.Errorf("two great ones, and itself, use %d, %d is left", Uses(great, d), Room(great, d))
	}
}

// fits are drawn worlds that are fit by chapter 13, with links wherever they go.
func fits(draw *rand.Rand) api.World {
	w := api.World{Key: draw.Uint64(), Root: uint64(1 + draw.Intn(12))}
	for id := uint64(1); id <= 12; id++ {
		if draw.Intn(5) == 0 {
			continue
		}
		o := thing(kinds()[draw.Intn(6)], id, 1+draw.Intn(6))
		if draw.Intn(2) == 0 {
			o = box(id, 1+draw.Intn(20))
			for to := uint64(1); to <= 14; to++ {
				if draw.Intn(4) == 0 {
					o.Links = append(o.Links, to)
				}
			}
		}
		if o.Kind == api.KdSegment {
			o.Data = make([]uint64, draw.Intn(16*(o.Quota-1)+1))
		}
		w.Objects = append(w.Objects, o)
	}
	return w
}

// P14.1: Fit, Uses, Room and Holders of drawn worlds that are fit, and no more, are what the chapter's words say.
func TestFitsDrawn(t *testing.T) {
	draw := rand.New(rand.NewSource(41))
	for range 4000 {
		w := fits(draw)
		if !obj.Fit(w) {
			t.Fatalf("%+v is not fit", w)
		}
		if got, want := Fit(w), isWhole(w); got != want {
			t.Fatalf("%+v is %v", w, got)
		}
		for _, o := range w.Objects {
			want := usesOf(w, o)
			if got, left := Uses(w, o), Room(w, o); got != want || left != o.Quota-want {
				t.Fatalf("%d of %+v uses %d, has %d left", o.Id, w, got, left)
			}
		}
		for id := range uint64(16) {
			if got := Holders(w, id); !slices.Equal(got, holdersOf(w, id)) {
				t.Fatalf("%d of %+v lies in %v", id, w, got)
			}
		}
	}
}

// P14.1: Holders, written out: of what lies in none, one and several, and of what is no object.
func TestHolders(t *testing.T) {
	rows := map[uint64][]uint64{1: nil, 2: {1}, 3: {1}, 4: {1}, 5: {1}, 6: {2}, 7: {2}, 8: {3}, 9: {6}, 10: {6}, 11: {2, 6}, 0: nil, 13: nil, 99: nil, topId: nil, topId + 1: nil, math.MaxUint64: nil}
	for id, want := range rows {
		if got := Holders(shed(), id); !slices.Equal(got, want) || want == nil && got != nil {
			t.Errorf("%d lies in %v", id, got)
		}
	}
	all := []api.Object{box(root, 500), fixed(segment(500, 1, 0))}
	for id := uint64(2); id < 60; id++ {
		all[0].Links = append(all[0].Links, id)
		all = append(all, box(id, 2, 500))
	}
	if got := Holders(world(all...), 500); !slices.Equal(got, count(2, 58)) {
		t.Errorf("what lies in 58 lies in %v", got)
	}
	odd := world(box(root, 9, 2, 77), box(2, 9, 2, 77), segment(3, 1, 0), box(5, 9, 1))
	for id, want := range map[uint64][]uint64{1: {5}, 2: {1, 2}, 3: nil, 5: nil, 77: {1, 2}, 78: nil} {
		if got := Holders(odd, id); !slices.Equal(got, want) {
			t.Errorf("in a world that is not whole %d lies in %v", id, got)
		}
	}
}

// P14.1: Above, written out: none of the Root, and of no object; of what lies in several the first container, and what is above that.
func TestAbove(t *testing.T) {
	rows := map[uint64][]uint64{1: nil, 2: {1}, 3: {1}, 4: {1}, 5: {1}, 6: {2, 1}, 7: {2, 1}, 8: {3, 1}, 9: {6, 2, 1}, 10: {6, 2, 1}, 11: {2, 1}, 0: nil, 13: nil, 99: nil, topId: nil, topId + 1: nil, math.MaxUint64: nil}
	for id, want := range rows {
		if got := Above(shed(), id); !slices.Equal(got, want) || want == nil && got != nil {
			t.Errorf("above %d are %v", id, got)
		}
	}
	far := world(box(9, 50, 5, 4), box(4, 20, 8), box(5, 20, 2, 7), box(8, 10, 3, 7), fixed(segment(7, 1, 0)), box(2, 3, 7), thing(api.KdGate, 3, 1))
	for id, want := range map[uint64][]uint64{7: {2, 5, 9}, 3: {8, 4, 9}, 2: {5, 9}, 8: {4, 9}, 5: {9}, 9: nil} {
		if got := Above(far, id); !slices.Equal(got, want) || !Fit(far) {
			t.Errorf("above %d are %v", id, got)
		}
	}
}

// P14.1: Above of all in all worlds is what the chapter's words say, also of what lies 1022 containers deep.
func TestAboveByWords(t *testing.T) {
	for name, w := range wholes() {
		for _, id := range append(few(ids(w)), 0, 27, topId+1) {
			want, _ := aboveOf(w, id)
			if one(w, id) == nil {
				want = nil
			}
			if got := Above(w, id); !slices.Equal(got, want) {
				t.Errorf("%s: above %d are %v", name, id, few(got))
			}
		}
	}
	deepest := chain(topRoot - 1)
	if got := Above(deepest, 10000+topRoot-1); len(got) != topRoot-1 || got[len(got)-1] != root {
		t.Errorf("above the last one of a chain are %d", len(got))
	}
}

// behind are the errors of a deed: the first one that applies, and one that applies as well.
type behind struct{ first, other api.Errno }

// holdDeed holds a deed against the chapter's words: the first error that applies is told, beside it the world as it was; else the world behind it, which is whole. It tells all errors that apply.
func holdDeed(t *testing.T, w api.World, d deed) []api.Errno {
	t.Helper()
	errs := d.errs(w)
	got, err := d.do(w)
	if len(errs) > 0 {
		if err != errs[0] || !obj.Same(got, w) {
			t.Errorf("%s in %v: error %d, of %v, the world as it was: %v", d.name, few(ids(w)), err, errs, obj.Same(got, w))
		}
		return errs
	}
	if err != api.OK || !obj.Same(got, d.then(w)) {
		t.Errorf("%s in %v: error %d, the world is as it should be: %v", d.name, few(ids(w)), err, obj.Same(got, d.then(w)))
	}
	if !Fit(got) || !isWhole(got) {
		t.Errorf("%s in %v: it is not whole then", d.name, few(ids(w)))
	}
	return errs
}

// holdAll holds deeds, and that all mixtures of two errors that are awaited, and each error alone, and none, were there.
func holdAll(t *testing.T, w api.World, deeds []deed, alone []api.Errno, both []behind) {
	t.Helper()
	seen := map[behind]int{}
	for _, d := range deeds {
		errs := holdDeed(t, w, d)
		switch len(errs) {
		case 0:
			seen[behind{}]++
		case 1:
			seen[behind{first: errs[0]}]++
		default:
			for _, other := range errs[1:] {
				seen[behind{errs[0], other}]++
			}
		}
	}
	if seen[behind{}] == 0 {
		t.Error("nothing went well")
	}
	for _, err := range alone {
		if seen[behind{first: err}] == 0 {
			t.Errorf("error %d was not told for itself", err)
		}
	}
	for _, b := range both {
		if seen[b] == 0 {
			t.Errorf("error %d was not told ahead of error %d", b.first, b.other)
		}
	}
}

// pairsOf are all mixtures of two of a row of errors, the first one first, but some.
func pairsOf(row []api.Errno, but ...behind) []behind {
	var out []behind
	for at, first := range row {
		for _, other := range row[at+1:] {
			if !slices.Contains(but, behind{first, other}) {
				out = append(out, behind{first, other})
			}
		}
	}
	return out
}

// P14.2: Attach with each error, and with any two at once: the first one that the chapter names is told.
func TestAttachErrors(t *testing.T) {
	w := house()
	var deeds []deed
	for _, d := range []uint64{0, 1, 10, 11, 13, 15, 16, 18, 20, 27, 30, 40, 50, 60, 70, 80, 90, 95, topId + 1} {
		for at, kind := range kinds() {
			for _, id := range []uint64{5, 12, 1, topId} {
				for _, l := range []api.Label{nil, pair(7, api.Lev3), pair(7, api.Star)} {
					quota := []int{1, 9, 10, 36, 4096}[(at+len(deeds))%5]
					o := thing(kind, id, quota)
					if kind == api.KdContainer && len(deeds)%2 == 0 {
						o.Links = []uint64{777}
					}
					if len(l) == 0 || l[0].Lev != api.Star || kind == api.KdThread {
						deeds = append(deeds, attach(d, labelled(o, l)))
					}
				}
			}
		}
	}
	row := []api.Errno{api.ErrName, api.ErrKind, api.ErrThere, api.ErrLabel, api.ErrFull, api.ErrQuota}
	// What is no object has neither kind, label, links nor room, what is no container no links.
	holdAll(t, w, deeds, row, pairsOf(row, behind{api.ErrName, api.ErrKind}, behind{api.ErrName, api.ErrLabel}, behind{api.ErrName, api.ErrFull}, behind{api.ErrName, api.ErrQuota}, behind{api.ErrKind, api.ErrFull}))
}

// P14.2: Attach, written out.
func TestAttach(t *testing.T) {
	rows := []struct {
		d    uint64
		o    api.Object
		want api.Errno
	}{
		{27, segment(5, 1, 0), api.ErrName}, {0, segment(5, 1, 0), api.ErrName}, {topId + 1, segment(12, 1, 0), api.ErrName}, {5, box(5, 1), api.ErrName},
		{11, segment(5, 1, 0), api.ErrKind}, {13, segment(5, 1, 0), api.ErrKind}, {15, segment(12, 1, 0), api.ErrKind}, {16, segment(5, 4096, 0), api.ErrKind}, {17, box(5, 1), api.ErrKind},
		{10, segment(12, 1, 0), api.ErrThere}, {10, segment(10, 1, 0), api.ErrThere}, {10, segment(1, 1, 0), api.ErrThere}, {20, segment(300, 1, 0), api.ErrThere}, {50, box(50, 1), api.ErrThere},
		{20, segment(5, 1, 0), api.ErrLabel}, {60, segment(5, 1, 0), api.ErrLabel}, {90, segment(5, 400, 0), api.ErrLabel}, {80, box(5, 1, 9), api.ErrLabel},
		{20, labelled(segment(5, 1, 0), pair(7, api.Lev2)), api.ErrLabel}, {20, labelled(segment(5, 1, 0), pair(8, api.Lev3)), api.ErrLabel},
		{20, labelled(segment(5, 1, 0), pair(7, api.Lev3)), api.OK}, {20, labelled(thread(5, 0, 9), pair(7, api.Star)), api.OK}, {20, labelled(thread(5, 0, 9), pair(8, api.Star)), api.ErrLabel},
		{10, labelled(segment(5, 1, 0), pair(7, api.Lev0)), api.OK}, {10, labelled(box(5, 1), pair(7, api.Lev3)), api.OK},
		{30, segment(5, 1, 0), api.ErrFull}, {30, segment(5, 36, 0), api.ErrFull}, {30, box(5, 1, 9), api.ErrFull}, {70, segment(5, 1, 0), api.ErrFull}, {90, labelled(segment(5, 1, 0), pair(7, api.Lev3)), api.ErrFull},
		{40, segment(5, 1, 0), api.OK}, {40, segment(5, 10, 144), api.OK}, {40, segment(5, 11, 0), api.ErrQuota},
		{50, segment(5, 1, 0), api.ErrQuota}, {50, segment(5, 4096, 0), api.ErrQuota},
		{10, segment(5, 23, 0), api.OK}, {10, segment(5, 24, 0), api.ErrQuota},
		{14, segment(5, 4, 0), api.OK}, {14, segment(5, 5, 0), api.ErrQuota}, {95, segment(5, 19, 0), api.OK}, {95, segment(5, 20, 0), api.ErrQuota},
		{10, box(5, 1), api.OK}, {10, box(5, 23), api.OK}, {10, fixed(box(5, 23)), api.OK}, {10, box(5, 23, 9), api.ErrQuota}, {10, box(5, 23, 11), api.ErrQuota}, {10, box(5, 1, 5), api.ErrQuota},
		{10, fixed(segment(5, 2, 16)), api.OK}, {10, thing(api.KdGate, topId, 1), api.OK}, {10, thing(api.KdSpace, 2, 1), api.OK}, {10, thing(api.KdDevice, 5, 1), api.OK}, {10, thread(5, 300, 400), api.OK},
	}
	w := house()
	for _, r := range rows {
		holdDeed(t, w, attach(r.d, r.o))
		if _, err := Attach(w, r.d, r.o); err != r.want || !obj.Sound(r.o) {
			t.Errorf("%s: error %d", attach(r.d, r.o).name, err)
		}
	}
}

// P14.2: to a container of 63 links one more is attached, to one of 64 none; the links rise, wherever the new one comes to stand.
func TestAttachLinks(t *testing.T) {
	w := world(box(root, topRoot))
	for n := range topLinks {
		id := uint64(2 + n*37%topLinks)
		x, err := Attach(w, root, segment(id, 2, 3))
		if err != api.OK || len(x.Objects[0].Links) != n+1 || !slices.IsSorted(x.Objects[0].Links) || !slices.Contains(x.Objects[0].Links, id) || !Fit(x) {
			t.Fatalf("behind %d there are %v, error %d", n, x.Objects[0].Links, err)
		}
		w = x
	}
	if x, err := Attach(w, root, segment(900, 1, 0)); err != api.ErrFull || !obj.Same(x, w) {
		t.Errorf("the 65th: error %d", err)
	}
	if Room(w, w.Objects[0]) != topRoot-1-2*topLinks {
		t.Errorf("there are %d left", Room(w, w.Objects[0]))
	}
}

// P14.2: an object comes as it is, all else stays: what is told has all its parts.
func TestAttachAsItIs(t *testing.T) {
	full := labelled(thread(40, 500, 600), api.Label{{Cat: 3, Lev: api.Star}, {Cat: 7, Lev: api.Lev3}})
	full.Quota, full.Thread.Regs[4], full.Thread.Pc, full.Thread.Alerts, full.Thread.Labs[2] = 3, 8, 9, []uint64{4, 4}, pair(5, api.Lev0)
	gate := fixed(labelled(thing(api.KdGate, 40, 2), pair(9, api.Lev2)))
	gate.Gate = api.Gate{Grant: pair(3, api.Star), Clear: pair(3, api.Lev3), Space: api.Ref{Cont: 4, Id: 5}, Pc: 6, Arg: 7}
	device := thing(api.KdDevice, 40, 2)
	device.In, device.Out = count(4, 5), count(6, 7)
	space := thing(api.KdSpace, 40, 1)
	space.Maps = []api.Map{{Va: 3, N: 4, Cont: 1, Seg: 4, Off: 1, Write: true}}
	words := segment(40, 4, 0)
	words.Data = count(100, 41)
	for _, o := range []api.Object{full, gate, device, space, words, box(40, 5), fixed(box(40, 1))} {
		for _, w := range []api.World{shed(), everyKind()} {
			holdDeed(t, w, attach(root, o))
			x, err := Attach(w, root, o)
			if got, found := obj.Find(x, 40); err != api.OK || !found || !obj.SameOne(got, o) {
				t.Errorf("kind %d is there as %+v, error %d", o.Kind, got, err)
			}
			if x.Time != w.Time || x.Key != w.Key || x.Root != w.Root || !slices.Equal(Holders(x, 40), []uint64{root}) {
				t.Errorf("kind %d: there is more that is another one", o.Kind)
			}
		}
	}
}

// P14.3: Link with each error, and with any two at once: the first one that the chapter names is told.
func TestLinkErrors(t *testing.T) {
	w := house()
	var deeds []deed
	for _, d := range []uint64{0, 1, 10, 11, 13, 14, 15, 16, 20, 27, 30, 40, 50, 60, 70, 80, 90, 95, 96, topId + 1} {
		for _, id := range []uint64{0, 1, 10, 11, 12, 13, 14, 15, 16, 17, 18, 20, 21, 22, 23, 27, 30, 95, 97, 300, 400, 600, topId, math.MaxUint64} {
			deeds = append(deeds, link(d, id))
		}
	}
	row := []api.Errno{api.ErrName, api.ErrKind, api.ErrBusy, api.ErrThere, api.ErrLabel, api.ErrFull, api.ErrQuota}
	// What lies in a container may by its label; of two of which one is no object, only the other's kind, and whether it is Fixed, is known. What is no container has no links.
	but := []behind{{api.ErrThere, api.ErrLabel}, {api.ErrName, api.ErrThere}, {api.ErrName, api.ErrLabel}, {api.ErrName, api.ErrFull}, {api.ErrName, api.ErrQuota}}
	holdAll(t, w, deeds, row, pairsOf(row, but...))
}

// P14.3: Link, written out.
func TestLink(t *testing.T) {
	rows := []struct {
		d, id uint64
		want  api.Errno
	}{
		{27, 11, api.ErrName}, {10, 27, api.ErrName}, {27, 28, api.ErrName}, {27, 14, api.ErrName}, {27, 12, api.ErrName}, {11, 27, api.ErrName}, {0, 11, api.ErrName}, {10, 0, api.ErrName}, {topId + 1, 11, api.ErrName}, {10, math.MaxUint64, api.ErrName},
		{15, 11, api.ErrKind}, {13, 11, api.ErrKind}, {11, 11, api.ErrKind}, {12, 12, api.ErrKind}, {14, 13, api.ErrKind}, {14, 10, api.ErrKind}, {14, 95, api.ErrKind}, {95, 95, api.ErrKind}, {10, 14, api.ErrKind}, {10, 13, api.ErrKind}, {10, 1, api.ErrKind}, {1, 1, api.ErrKind}, {20, 14, api.ErrKind}, {30, 14, api.ErrKind}, {50, 13, api.ErrKind},
		{14, 12, api.ErrBusy}, {10, 12, api.ErrBusy}, {10, 16, api.ErrBusy}, {20, 17, api.ErrBusy}, {30, 16, api.ErrBusy}, {50, 12, api.ErrBusy}, {70, 700, api.ErrBusy},
		{10, 11, api.ErrThere}, {10, 15, api.ErrThere}, {30, 15, api.ErrThere}, {10, 18, api.ErrThere}, {20, 21, api.ErrThere},
		{20, 11, api.ErrLabel}, {80, 11, api.ErrLabel}, {60, 11, api.ErrLabel}, {90, 15, api.ErrLabel},
		{30, 11, api.ErrFull}, {70, 15, api.ErrFull}, {60, 18, api.ErrFull}, {90, 21, api.ErrFull},
		{50, 11, api.ErrQuota}, {50, 15, api.ErrQuota}, {80, 21, api.ErrQuota},
		{14, 11, api.OK}, {1, 11, api.OK}, {1, 15, api.OK}, {95, 18, api.OK}, {20, 18, api.OK}, {10, 21, api.OK}, {40, 11, api.OK}, {40, 15, api.OK}, {14, 15, api.OK}, {14, 18, api.OK},
	}
	w := house()
	for _, r := range rows {
		holdDeed(t, w, link(r.d, r.id))
		if _, err := Link(w, r.d, r.id); err != r.want {
			t.Errorf("Link(%d, %d): error %d", r.d, r.id, err)
		}
	}
}

// P14.3: a Quota that is the Room is linked, one more is not; and 64 links are all, also of what lies elsewhere.
func TestLinkEdges(t *testing.T) {
	for quota := 1; quota <= 5; quota++ {
		for size := 1; size <= 6; size++ {
			w := world(box(root, 30, 2, 3, 4), box(2, quota), fixed(segment(3, size, 0)), segment(4, 1, 0))
			want := api.OK
			if size > quota-1 {
				want = api.ErrQuota
			}
			holdDeed(t, w, link(2, 3))
			if x, err := Link(w, 2, 3); err != want || err == api.OK && (Room(x, x.Objects[1]) != quota-1-size || !slices.Equal(Holders(x, 3), []uint64{1, 2})) {
				t.Errorf("Quota %d in %d: error %d", size, quota, err)
			}
		}
	}
	for _, n := range []int{62, 63, 64} {
		all := append(gates(nil, count(100, n)...), box(root, 300, 2, 3), box(2, 200, count(100, n)...), fixed(segment(3, 1, 0)))
		w := world(all[n:]...)
		w = changed(w, func(w *api.World) { w.Objects = append(w.Objects, all[:n]...) })
		holdDeed(t, w, link(2, 3))
		if _, err := Link(w, 2, 3); (err == api.OK) != (n < 64) || (err == api.ErrFull) != (n == 64) {
			t.Errorf("one more than %d: error %d", n, err)
		}
	}
}

// P14.3: what is Fixed lies in one, in two, in three containers, and where each one's Room goes.
func TestLinkMore(t *testing.T) {
	for _, kind := range kinds() {
		w := world(box(root, 100, 2, 3, 4, 5), box(2, 9), box(3, 9), box(4, 9), thing(kind, 5, 2))
		_, err := Link(w, 2, 5)
		if single := kind == api.KdContainer || kind == api.KdThread; single != (err == api.ErrKind) || !single && err != api.ErrBusy {
			t.Errorf("kind %d that is not Fixed: error %d", kind, err)
		}
		w, err = Fix(w, 5)
		if err != api.OK {
			continue
		}
		for at, d := range []uint64{3, 2, 4} {
			holdDeed(t, w, link(d, 5))
			x, err := Link(w, d, 5)
			if err != api.OK || len(Holders(x, 5)) != at+2 || Room(x, *one(x, d)) != 6 || Room(x, *one(x, root)) != Room(w, *one(w, root)) {
				t.Fatalf("kind %d in %v: error %d", kind, Holders(x, 5), err)
			}
			if again, err := Link(x, d, 5); err != api.ErrThere || !obj.Same(again, x) {
				t.Errorf("kind %d twice in %d: error %d", kind, d, err)
			}
			w = x
		}
	}
}

// P14.3: Fix of each kind, of what is Fixed already, and of nothing.
func TestFix(t *testing.T) {
	w := everyKind()
	for at, kind := range kinds() {
		id := uint64(2 + at)
		want := api.OK
		if kind == api.KdContainer || kind == api.KdThread {
			want = api.ErrKind
		}
		holdDeed(t, w, fix(id))
		x, err := Fix(w, id)
		if err != want || one(x, id).Fixed != (err == api.OK) {
			t.Errorf("kind %d: error %d", kind, err)
		}
		holdDeed(t, x, fix(id))
		if again, err := Fix(x, id); err != want || !obj.Same(again, x) {
			t.Errorf("kind %d again: error %d", kind, err)
		}
	}
	for _, id := range []uint64{0, 27, topId, topId + 1, math.MaxUint64} {
		if x, err := Fix(w, id); err != api.ErrName || !obj.Same(x, w) {
			t.Errorf("Fix of %d: error %d", id, err)
		}
	}
	for _, id := range []uint64{root, 95, 10, 13} {
		if x, err := Fix(house(), id); err != api.ErrKind || !obj.Same(x, house()) {
			t.Errorf("Fix of %d: error %d", id, err)
		}
	}
	for _, id := range ids(house()) {
		holdDeed(t, house(), fix(id))
	}
}

// P14.4: Move with each error, and with any two at once: the first one that the chapter names is told.
func TestMoveErrors(t *testing.T) {
	w := house()
	var deeds []deed
	for _, d := range []uint64{0, 1, 10, 11, 13, 14, 20, 27, 30, 50, topId + 1} {
		for _, id := range []uint64{0, 1, 10, 11, 12, 13, 14, 15, 16, 17, 20, 22, 23, 27, 50, 95, 300, math.MaxUint64} {
			for _, n := range []int{math.MinInt, -4097, -4096, -5, -1, 0, 1, 4, 4096, 4097, math.MaxInt} {
				deeds = append(deeds, move(d, id, n))
			}
		}
	}
	row := []api.Errno{api.ErrName, api.ErrBusy, api.ErrArg, api.ErrQuota}
	// What can't be added can't come to be a Quota either, so ErrArg is never alone.
	holdAll(t, w, deeds, []api.Errno{api.ErrName, api.ErrBusy, api.ErrQuota}, pairsOf(row))
}

// P14.4: Move, written out.
func TestMove(t *testing.T) {
	rows := []struct {
		d, id uint64
		n     int
		want  api.Errno
	}{
		{27, 12, 1, api.ErrName}, {0, 12, 1, api.ErrName}, {10, 27, 1, api.ErrName}, {1, 12, 1, api.ErrName}, {11, 12, 1, api.ErrName}, {12, 12, 1, api.ErrName}, {13, 12, 0, api.ErrName}, {20, 12, 4097, api.ErrName}, {27, 11, 1, api.ErrName}, {20, 11, 9999, api.ErrName},
		{1, 1, 1, api.ErrName}, {1, 1, 0, api.ErrName}, {10, 1, 0, api.ErrName}, {0, 1, -1, api.ErrName},
		{10, 11, 1, api.ErrBusy}, {10, 11, 0, api.ErrBusy}, {10, 15, 4097, api.ErrBusy}, {30, 15, 0, api.ErrBusy}, {1, 95, 1, api.ErrBusy}, {10, 18, 4000, api.ErrBusy},
		{10, 12, -4097, api.ErrArg}, {10, 12, 4097, api.ErrArg}, {10, 12, math.MinInt, api.ErrArg}, {10, 12, math.MaxInt, api.ErrArg}, {10, 12, -4096, api.ErrQuota}, {10, 12, 4096, api.ErrQuota}, {10, 12, 0, api.OK},
		{10, 12, 1, api.OK}, {10, 12, 23, api.OK}, {10, 12, 24, api.ErrQuota}, {10, 12, -1, api.OK}, {10, 12, -4, api.OK}, {10, 12, -5, api.ErrQuota}, {10, 12, -9, api.ErrQuota}, {10, 12, -10, api.ErrQuota},
		{10, 16, -1, api.OK}, {10, 16, -2, api.ErrQuota}, {10, 16, -3, api.ErrQuota}, {10, 17, -1, api.ErrQuota}, {10, 17, 0, api.OK}, {10, 13, 2, api.OK}, {10, 13, -1, api.ErrQuota},
		{10, 14, -4, api.OK}, {10, 14, -5, api.ErrQuota}, {10, 14, 23, api.OK}, {10, 14, 24, api.ErrQuota},
		{1, 10, -23, api.OK}, {1, 10, -24, api.ErrQuota}, {1, 10, -50, api.ErrQuota}, {1, 10, -51, api.ErrQuota}, {1, 50, 1, api.OK}, {1, 50, -1, api.ErrQuota}, {1, 60, -1, api.ErrQuota}, {1, 60, 1, api.OK}, {1, 30, -35, api.OK}, {1, 30, -36, api.ErrQuota},
		{20, 22, 17, api.OK}, {20, 23, 20, api.OK}, {20, 23, 21, api.ErrQuota}, {60, 600, 0, api.OK}, {60, 600, 1, api.ErrQuota}, {60, 600, -1, api.ErrQuota},
		{1, 10, 514, api.OK}, {1, 10, 515, api.ErrQuota}, {1, 80, 514, api.OK}, {1, 80, 515, api.ErrQuota},
	}
	w := house()
	for _, r := range rows {
		holdDeed(t, w, move(r.d, r.id, r.n))
		x, err := Move(w, r.d, r.id, r.n)
		if err != r.want {
			t.Errorf("Move(%d, %d, %d): error %d", r.d, r.id, r.n, err)
		}
		if err == api.OK && (one(x, r.id).Quota != one(w, r.id).Quota+r.n || Room(x, *one(x, r.d)) != Room(w, *one(w, r.d))-r.n) {
			t.Errorf("Move(%d, %d, %d): the Quota is %d then, the Room %d", r.d, r.id, r.n, one(x, r.id).Quota, Room(x, *one(x, r.d)))
		}
	}
}

// P14.4: all n from -4098 to 4098, of a segment, a container and a gate in a Root of 1024.
func TestMoveAll(t *testing.T) {
	w := world(box(root, topRoot, 2, 3, 4), segment(2, 500, 800), box(3, 100, 5), thing(api.KdGate, 4, 2), segment(5, 30, 0))
	for n := -topMove - 2; n <= topMove+2; n++ {
		for id, least := range map[uint64]int{2: -449, 3: -69, 4: -1} {
			want := api.OK
			if n < -4096 || n > 4096 {
				want = api.ErrArg
			} else if n < least || n > 421 {
				want = api.ErrQuota
			}
			if errs := moveErrs(w, root, id, n); want != api.OK && errs[0] != want || want == api.OK && errs != nil {
				t.Fatalf("by the words Move of %d by %d is %v", id, n, errs)
			}
			x, err := Move(w, root, id, n)
			quota := one(w, id).Quota
			if want == api.OK {
				quota += n
			}
			if err != want || one(x, id).Quota != quota {
				t.Errorf("Move of %d by %d: error %d, the Quota is %d then", id, n, err, one(x, id).Quota)
			}
		}
	}
}

// P14.4: a Quota comes to be 1 at least, and 4096 at most. (Where all is whole, it uses no less, and there is never so much Room: so here it is not.)
func TestMoveBounds(t *testing.T) {
	great := world(box(root, 4096, 2), box(2, 4000, 3), thing(api.KdGate, 3, 3))
	for n, want := range map[int]api.Errno{95: api.OK, 96: api.ErrQuota, 97: api.ErrQuota, -3996: api.OK, -3997: api.ErrQuota, -4000: api.ErrQuota, -4001: api.ErrQuota} {
		if x, err := Move(great, root, 2, n); err != want || err == api.OK && one(x, 2).Quota != 4000+n {
			t.Errorf("Move by %d: error %d", n, err)
		}
	}
	for n, want := range map[int]api.Errno{-3: api.ErrQuota, -2: api.OK, -1: api.OK, 0: api.OK} {
		if x, err := Move(great, 2, 3, n); err != want || err == api.OK && one(x, 3).Quota != 3+n {
			t.Errorf("Move to %d: error %d", 3+n, err)
		}
	}
}

// newIds hands out ids that nobody has, and that are of numbers which no thread of the tests has.
type newIds struct{ key, next uint64 }

// take is one more id.
func (n *newIds) take() uint64 {
	n.next++
	return perm.Name(n.key, 1<<50+n.next)
}

// drawn is a deed that is drawn: mostly of what is there, sometimes of what is not.
func drawn(draw *rand.Rand, w api.World, fresh *newIds) deed {
	any := func() uint64 {
		if draw.Intn(20) == 0 {
			return uint64(draw.Intn(3)) * (topId - 1)
		}
		return w.Objects[draw.Intn(len(w.Objects))].Id
	}
	in := func() uint64 {
		for range 30 {
			if o := one(w, any()); o != nil && o.Kind == api.KdContainer {
				return o.Id
			}
		}
		return any()
	}
	switch draw.Intn(8) {
	case 0, 1, 2:
		return attach(in(), made(draw, fresh))
	case 3:
		return fix(any())
	case 4, 5:
		return link(in(), any())
	}
	d := in()
	id := any()
	if o := one(w, d); o != nil && len(o.Links) > 0 && draw.Intn(4) > 0 {
		id = o.Links[draw.Intn(len(o.Links))]
	}
	return move(d, id, draw.Intn(40)-20)
}

// made is a new object that is drawn.
func made(draw *rand.Rand, fresh *newIds) api.Object {
	o := thing(kinds()[draw.Intn(6)], fresh.take(), 1+draw.Intn(9))
	if draw.Intn(3) == 0 {
		o = thing(api.KdContainer, o.Id, 1+draw.Intn(60))
	}
	switch o.Kind {
	case api.KdSegment:
		o.Data = make([]uint64, draw.Intn(16*(o.Quota-1)+1))
	case api.KdContainer:
		if draw.Intn(20) == 0 {
			o.Links = []uint64{9}
		}
	case api.KdThread:
		o.Thread.Span = api.Span{Lo: 1<<40 + 10*fresh.next, Hi: 1<<40 + 10*fresh.next + 10}
	}
	o.Fixed = o.Kind != api.KdThread && draw.Intn(3) == 0
	if draw.Intn(3) == 0 {
		o = labelled(o, pair(uint64(7+draw.Intn(2)), []int{api.Lev0, api.Lev2, api.Lev3}[draw.Intn(3)]))
	}
	return o
}

// holdTogether holds P14.6 of a world: no more pages are used than the Root's Quota, and there are no more objects.
func holdTogether(t *testing.T, w api.World) {
	t.Helper()
	pages, quota := 0, one(w, w.Root).Quota
	for _, o := range w.Objects {
		pages += pagesOf(o)
	}
	if pages > quota || len(w.Objects) > quota || len(w.Objects) > topRoot {
		t.Fatalf("%d objects use %d pages of %d", len(w.Objects), pages, quota)
	}
}

// P14.5, P14.6: a whole world is whole behind rows of calls, whichever they are; no more is used than the Root's Quota, and there are no more objects.
func TestRowsOfDeeds(t *testing.T) {
	for _, quota := range []int{1, 2, 5, 30, 200, topRoot} {
		draw := rand.New(rand.NewSource(int64(quota)))
		w := world(box(root, quota))
		fresh := &newIds{key: w.Key}
		well := 0
		for range 700 {
			d := drawn(draw, w, fresh)
			if len(holdDeed(t, w, d)) == 0 {
				well++
			}
			w, _ = d.do(w)
			holdTogether(t, w)
		}
		if quota > 5 && well < 40 {
			t.Errorf("with Quota %d only %d went well", quota, well)
		}
	}
}

// P14.5, P14.6: rows of calls in worlds that have all sorts of things already.
func TestRowsFromWholes(t *testing.T) {
	for _, name := range []string{"every kind", "a small house", "a chain of 9"} {
		w := wholes()[name]
		for seed := range int64(6) {
			draw := rand.New(rand.NewSource(seed + 100))
			x := w
			fresh := &newIds{key: w.Key}
			for range 60 {
				d := drawn(draw, x, fresh)
				holdDeed(t, x, d)
				x, _ = d.do(x)
				holdTogether(t, x)
			}
			if !obj.Same(w, wholes()[name]) {
				t.Errorf("%s is another one behind the calls", name)
			}
		}
	}
}

// P14.5: all rows of three calls out of some, in a small world.
func TestAllRows(t *testing.T) {
	deeds := []deed{
		attach(1, box(3, 4)), attach(3, segment(4, 2, 3)), attach(2, fixed(thing(api.KdGate, 5, 1))), attach(3, thread(6, 5, 9)), attach(2, box(7, 2)), attach(7, segment(4, 1, 0)),
		fix(4), fix(5), link(1, 5), link(3, 5), link(7, 4), link(1, 4), move(1, 3, 2), move(1, 2, -3), move(3, 4, 1), move(2, 7, 3), move(1, 2, 4),
	}
	var walk func(w api.World, left int)
	walk = func(w api.World, left int) {
		for _, d := range deeds {
			holdDeed(t, w, d)
			x, err := d.do(w)
			holdTogether(t, x)
			if left > 1 && err == api.OK {
				walk(x, left-1)
			}
		}
	}
	walk(world(box(1, 14, 2), box(2, 6)), 4)
}

// P14.6: where 1024 objects are, nothing more comes in anywhere, and nothing gets more.
func TestBrim(t *testing.T) {
	w := brim()
	if len(w.Objects) != topRoot {
		t.Fatalf("there are %d objects", len(w.Objects))
	}
	holdTogether(t, w)
	for _, o := range w.Objects {
		if Room(w, o) != 0 {
			t.Errorf("%d has %d left", o.Id, Room(w, o))
		}
	}
	for _, d := range []uint64{1, 2, 63, 124} {
		for _, kind := range kinds() {
			x, err := Attach(w, d, thing(kind, 5000, 1))
			if err != api.ErrQuota || !obj.Same(x, w) {
				t.Errorf("kind %d in %d: error %d", kind, d, err)
			}
		}
	}
	for _, id := range w.Objects[0].Links {
		for n, want := range map[int]api.Errno{0: api.OK, 1: api.ErrQuota, -1: api.ErrQuota} {
			if x, err := Move(w, root, id, n); err != want || !obj.Same(x, w) {
				t.Errorf("Move of %d by %d: error %d", id, n, err)
			}
		}
	}
	less := changed(w, func(w *api.World) { w.Objects = w.Objects[:topRoot-1] })
	last := one(less, less.Objects[0].Links[len(less.Objects[0].Links)-1])
	last.Links = last.Links[:len(last.Links)-1]
	holdDeed(t, less, attach(last.Id, thing(api.KdGate, 5000, 1)))
	if x, err := Attach(less, last.Id, thing(api.KdGate, 5000, 1)); err != api.OK || len(x.Objects) != topRoot || !Fit(x) {
		t.Errorf("the 1024th: error %d, there are %d", err, len(x.Objects))
	}
}

// P14.2: that an Id and a Span are nobody's is the caller's part: they are attached all the same.
func TestAttachCallersPart(t *testing.T) {
	w := world(box(root, 30, 2), thread(2, 100, 200))
	for name, o := range map[string]api.Object{"an Id that is still to be given": segment(perm.Name(5, 150), 1, 0), "another's numbers": thread(3, 150, 160)} {
		x, err := Attach(w, root, o)
		if err != api.OK || !obj.Same(x, attachOf(w, root, o)) || Fit(x) || isWhole(x) {
			t.Errorf("%s: error %d, whole %v", name, err, Fit(x))
		}
	}
}

// stretch is where a list stands in memory, with all that it has room for.
type stretch struct {
	from, to uintptr
	where    string
}

// stretches are where the lists of a value stand.
func stretches(v reflect.Value, where string) []stretch {
	var out []stretch
	switch v.Kind() {
	case reflect.Struct:
		for i := range v.NumField() {
			out = append(out, stretches(v.Field(i), where+"."+v.Type().Field(i).Name)...)
		}
	case reflect.Slice:
		if v.Cap() > 0 {
			from := v.Pointer()
			out = append(out, stretch{from, from + uintptr(v.Cap())*v.Type().Elem().Size(), where})
		}
		fallthrough
	case reflect.Array:
		if k := v.Type().Elem().Kind(); k != reflect.Uint64 {
			for i := range v.Len() {
				out = append(out, stretches(v.Index(i), fmt.Sprintf("%s[%d]", where, i))...)
			}
		}
	}
	return out
}

// shared tells a list that a call told and that shares memory with another one, "" if there is none. What was given may share with itself.
func shared(given, told []stretch) string {
	type mine struct {
		stretch
		told bool
	}
	var all []mine
	for _, s := range given {
		all = append(all, mine{s, false})
	}
	for _, s := range told {
		all = append(all, mine{s, true})
	}
	slices.SortFunc(all, func(a, b mine) int { return cmp.Compare(a.from, b.from) })
	var endGiven, endTold uintptr
	for _, s := range all {
		if s.from < endTold || s.told && s.from < endGiven {
			return s.where
		}
		if s.told {
			endTold = max(endTold, s.to)
		} else {
			endGiven = max(endGiven, s.to)
		}
	}
	return ""
}

// holdNew holds that a call changes nothing that it is given, and tells new memory, the same each time.
func holdNew[T any](t *testing.T, name string, w api.World, o api.Object, call func(api.World, api.Object) T) {
	t.Helper()
	wasW, wasO := deep(w), deep(o)
	first := call(w, o)
	if !reflect.DeepEqual(w, wasW) || !reflect.DeepEqual(o, wasO) {
		t.Errorf("%s changes what it is given", name)
	}
	given := append(stretches(reflect.ValueOf(w), "w"), stretches(reflect.ValueOf(o), "o")...)
	told := stretches(reflect.ValueOf(first), "told")
	if s := shared(given, told); s != "" {
		t.Errorf("%s shares %s", name, s)
	}
	if again := call(w, o); !reflect.DeepEqual(first, again) || shared(told, stretches(reflect.ValueOf(again), "again")) != "" {
		t.Errorf("%s tells another thing the second time, or shares with the first", name)
	}
}

// alikes is a world whose labels all stand in one place of memory, and whose lists have room behind their ends.
func alikes() api.World {
	w := shed()
	one := append(make(api.Label, 0, 5), pair(7, api.Lev3)...)
	for at := range w.Objects {
		o := &w.Objects[at]
		if len(o.Label) > 0 && o.Kind != api.KdThread {
			o.Label = one
		}
		o.Links, o.Data = slices.Grow(o.Links, 9), slices.Grow(o.Data, 9)
	}
	w.Objects = slices.Grow(w.Objects, 9)
	return w
}

// 0.5: what is told is new memory, also beside an error; no two lists of it share any, and nothing that was given is another one.
func TestNothingShared(t *testing.T) {
	for _, w := range []api.World{shed(), alikes(), everyKind(), world(box(root, 3))} {
		for _, d := range []uint64{1, 2, 3, 4, 6, 9, 27} {
			for _, id := range append(few(ids(w)), 27) {
				holdNew(t, "Link", w, api.Object{}, func(w api.World, _ api.Object) api.World { x, _ := Link(w, d, id); return x })
				for _, n := range []int{-2, 0, 1, 99, 9999} {
					holdNew(t, "Move", w, api.Object{}, func(w api.World, _ api.Object) api.World { x, _ := Move(w, d, id, n); return x })
				}
			}
			for _, o := range []api.Object{segment(30, 2, 9), box(30, 2), box(30, 2, 9), box(2, 2), labelled(thread(30, 1, 2), pair(7, api.Star)), segment(30, 900, 9), labelled(segment(30, 1, 0), pair(7, api.Lev3))} {
				holdNew(t, "Attach", w, o, func(w api.World, o api.Object) api.World { x, _ := Attach(w, d, o); return x })
			}
		}
		for _, id := range append(few(ids(w)), 0, 27) {
			holdNew(t, "Fix", w, api.Object{}, func(w api.World, _ api.Object) api.World { x, _ := Fix(w, id); return x })
			holdNew(t, "Holders", w, api.Object{}, func(w api.World, _ api.Object) []uint64 { return Holders(w, id) })
			holdNew(t, "Above", w, api.Object{}, func(w api.World, _ api.Object) []uint64 { return Above(w, id) })
		}
		for _, o := range w.Objects {
			holdNew(t, "Uses", w, o, Uses)
			holdNew(t, "Room", w, o, Room)
		}
		holdNew(t, "Fit", w, api.Object{}, func(w api.World, _ api.Object) bool { return Fit(w) })
	}
}

// 0.5: lists that were given with room behind their ends are not written there.
func TestNothingBehindTheEnd(t *testing.T) {
	for _, id := range []uint64{3, 5, 7, 9} {
		links := []uint64{2, 4, 6, 111, 222, 333}
		marks := append(shed().Objects, shed().Objects...)
		copy(marks, []api.Object{box(root, 90), fixed(segment(2, 1, 0)), segment(4, 1, 0), box(6, 20)})
		marks[0].Links = links[:3]
		was, wasLinks := deep(marks), slices.Clone(links)
		w := api.World{Root: root, Objects: marks[:4]}
		if !Fit(w) {
			t.Fatal("it is not whole")
		}
		for _, d := range []deed{attach(root, segment(id, 1, 0)), attach(6, segment(id, 1, 0)), link(6, 2), link(root, 2), fix(4), move(root, 4, 3)} {
			holdDeed(t, w, d)
			Holders(w, 2)
			Above(w, 2)
		}
		if !slices.Equal(links, wasLinks) || !reflect.DeepEqual(marks, was) {
			t.Errorf("something is written behind the end: %v", links)
		}
	}
}

// empties makes each list that is none an empty one.
func empties(v reflect.Value) {
	switch v.Kind() {
	case reflect.Struct:
		for i := range v.NumField() {
			empties(v.Field(i))
		}
	case reflect.Array:
		for i := range v.Len() {
			empties(v.Index(i))
		}
	case reflect.Slice:
		if v.Len() == 0 {
			v.Set(reflect.MakeSlice(v.Type(), 0, 3))
		}
		for i := range v.Len() {
			empties(v.Index(i))
		}
	}
}

// noLists tells whether a value has no list that is there, but empty.
func noLists(v reflect.Value) bool {
	switch v.Kind() {
	case reflect.Struct:
		for i := range v.NumField() {
			if !noLists(v.Field(i)) {
				return false
			}
		}
	case reflect.Array, reflect.Slice:
		if v.Kind() == reflect.Slice && v.Len() == 0 && !v.IsNil() {
			return false
		}
		for i := range v.Len() {
			if !noLists(v.Index(i)) {
				return false
			}
		}
	}
	return true
}

// 0.7: an empty list is none, whatever came in, and counts as none.
func TestNoneIsNone(t *testing.T) {
	w := changed(shed(), func(w *api.World) { empties(reflect.ValueOf(w).Elem()) })
	if !Fit(w) {
		t.Error("with empty lists it is not whole")
	}
	empty := changed(box(40, 2), func(o *api.Object) { empties(reflect.ValueOf(o).Elem()) })
	if _, err := Attach(w, root, empty); err != api.OK {
		t.Errorf("a container of which the links are empty: error %d", err)
	}
	for _, d := range []deed{attach(root, empty), attach(4, empty), link(root, 9), link(9, 9), fix(7), fix(27), move(root, 2, 1), move(root, 2, 999)} {
		if x, _ := d.do(w); !noLists(reflect.ValueOf(x)) {
			t.Errorf("%s tells an empty list", d.name)
		}
	}
	if Holders(w, root) != nil || Above(w, root) != nil || Holders(w, 27) != nil || Above(w, 27) != nil {
		t.Error("no containers are a list")
	}
}

// odds are worlds that are not whole, and not even fit: with rings, lists that fall, what is there twice, and numbers that can't be.
func odds() []api.World {
	long := box(3, math.MinInt, count(1, 3000)...)
	wild := api.Object{Id: math.MaxUint64, Kind: -1, Label: api.Label{{Cat: 9, Lev: 77}, {Cat: 2, Lev: -5}}, Quota: math.MaxInt, Fixed: true, Links: []uint64{9, 9, 0, 5, math.MaxUint64}}
	return []api.World{
		{}, {Root: 5}, {Time: math.MinInt, Key: 3, Root: math.MaxUint64, Objects: []api.Object{wild, wild, long, {}}},
		world(box(1, 9, 1)), world(box(1, 9, 2), box(2, 9, 1)), world(box(1, 9), box(2, 9, 3), box(3, 9, 4), box(4, 9, 2)), world(long, long, box(2, 3, 2)),
		{Root: 1, Objects: []api.Object{box(9, 3, 1), box(5, 3, 9), box(1, 3, 5), thread(4, 9, 3), segment(4, 0, 99)}},
		{Root: 1, Objects: []api.Object{wild, wild, wild, thread(math.MaxUint64, math.MaxUint64, 0)}},
		{Root: 1, Objects: slices.Repeat([]api.Object{box(1, 5, 1, 2)}, 3000)},
	}
}

// 0.1, 0.4: every call ends and none panics, also of worlds that are not whole or fit, and of objects that are not sound.
func TestUnfitEnds(t *testing.T) {
	some := []uint64{0, 1, 2, 3, 4, 5, 9, topId, topId + 1, math.MaxUint64}
	for _, w := range odds() {
		if Fit(w) {
			t.Errorf("%v is whole", few(ids(w)))
		}
		for _, o := range append(few(w.Objects), api.Object{}, box(2, -5, 7, 7), segment(6, math.MinInt, 100)) {
			Uses(w, o)
			Room(w, o)
			for _, d := range few(some) {
				Attach(w, d, o)
			}
		}
		for _, id := range some {
			Holders(w, id)
			Above(w, id)
			Fix(w, id)
			for _, d := range few(some) {
				Link(w, d, id)
				for _, n := range []int{math.MinInt, -1, 0, 5000, math.MaxInt} {
					Move(w, d, id, n)
				}
			}
		}
	}
}
