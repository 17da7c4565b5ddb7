package kseg_test

import (
	"fmt"
	"math"
	"math/bits"
	"math/rand"
	"reflect"
	"slices"
	"testing"

	"curtilage/api"
	"curtilage/kseg"
	"curtilage/obj"
	"curtilage/pages"
	"curtilage/perm"
	"curtilage/tree"
)

// The containers of the house, and its threads but self.
const (
	open, secretBox, trustedBox, fullBox, spentBox, waryBox, fixedBox = 2, 3, 4, 5, 6, 7, 8

	owner, secret, trusted, poor = 51, 52, 53, 54
)

// house is a small world: containers that all may see and change, that are secret (7 at 3), trusted (7 at 0), spent, wary (7 at 2) and fixed, with segments and address spaces that are so, and threads: one without pairs (self), one that owns 7, one at 3 in it, one at 0, and one that is cleared for nothing more than it has.
func house() api.World {
	links := []uint64{open, secretBox, trustedBox, spentBox, waryBox, fixedBox, 10, 11, 12, 13, 14, 15, 16, 17, 18, 19, 26, 27, 28, self, owner, secret, trusted, poor}
	objects := []api.Object{
		box(root, 900, "-", links...),
		words(10, 4, 20, "-"), words(11, 4, 20, "7:3"), words(12, 4, 20, "7:0"), fixed(words(13, 3, 32, "-")), words(16, 1, 0, "-"),
		thing(api.KdDevice, 14, 2, "-"), thing(api.KdGate, 28, 2, "-"),
		space(15, "-", 2, 4, 8, 2), space(17, "7:3", 2, 4, 8, 2), space(18, "7:0", 2, 4, 8, 2), space(19, "-"), space(26, "-"), fixed(space(27, "-", 0, 1)),
		box(open, 60, "-", 20, 21, 22, 23, 25), words(20, 4, 17, "-"), words(21, 4, 17, "7:3"), thread(22, "-", "-"), space(25, "-", 1, 1),
		box(23, 20, "-", 24), words(24, 3, 16, "-"),
		box(secretBox, 60, "7:3", 30, 31, 33), words(30, 4, 5, "7:3"), fixed(words(31, 4, 5, "7:3")), space(33, "7:3", 2, 4, 8, 2),
		box(trustedBox, 60, "7:0", 40, 41, 42, 43), words(40, 4, 5, "7:0"), words(41, 4, 5, "-"), space(42, "7:0", 2, 4, 8, 2), space(43, "-", 2, 4, 8, 2),
		box(spentBox, 3, "-", 60), words(60, 2, 3, "-"), box(waryBox, 60, "7:2"), fixed(box(fixedBox, 20, "-", 61)), words(61, 2, 3, "-"),
		thread(self, "-", "7:3,8:3", "-", "7:3", "7:0", "8:*"), thread(owner, "7:*", "7:3", "-", "7:3", "7:0", "7:*"),
		thread(secret, "7:3", "7:3", "-", "7:3", "7:0", "7:2"), thread(trusted, "7:0", "7:2", "-", "7:3", "7:0", "7:2"),
		thread(poor, "-", "-", "-", "7:3", "7:0", "8:2"),
	}
	w := world(objects...)
	for n := range topMaps {
		of(w, 19).Maps = append(of(w, 19).Maps, api.Map{Va: 10 + 3*n, N: 2, Cont: 5, Seg: uint64(n)})
	}
	of(w, 14).In, of(w, 14).Out = []uint64{4}, []uint64{5, 6}
	return w
}

// fullHouse is the house with a container more, which has room, but as many links as it may.
func fullHouse() api.World {
	w := laid(house(), root, box(fullBox, 80, "-"))
	for n := range uint64(topLinks) {
		w = laid(w, fullBox, words(1000+n, 1, 0, "-"))
	}
	return w
}

// The worlds of these tests are whole.
func TestWholes(t *testing.T) {
	for name, w := range map[string]api.World{"house": house(), "full house": fullHouse(), "stage": stage(), "crowded": crowded(), "wide": wide()} {
		if !tree.Fit(w) {
			t.Errorf("%s: the world is not whole", name)
		}
	}
	if n := len(crowded().Objects); n != topRoot {
		t.Errorf("the crowded world has %d objects", n)
	}
}

// Example 1: what was put is got; what lies nowhere is ErrName; there is no call 99.
func TestExample(t *testing.T) {
	w := world(box(root, 9, "-", self, 60), thread(self, "-", "-"), words(60, 2, 2, "-"))
	behind, value, err, ok := kseg.Do(w, self, api.CaPut, api.Args{root, 60, 1, 5})
	if value != 0 || err != api.OK || !ok {
		t.Errorf("CaPut: value %d, error %d, %v", value, err, ok)
	}
	if _, value, err, ok = kseg.Do(behind, self, api.CaGet, api.Args{root, 60, 1}); value != 5 || err != api.OK || !ok {
		t.Errorf("CaGet: value %d, error %d, %v", value, err, ok)
	}
	if _, value, err, ok = kseg.Do(w, self, api.CaGet, api.Args{root, 3, 1}); value != 0 || err != api.ErrName || !ok {
		t.Errorf("CaGet of what lies nowhere: value %d, error %d, %v", value, err, ok)
	}
	if _, _, _, ok := kseg.Do(w, self, 99, api.Args{}); ok {
		t.Error("there is a call 99")
	}
}

// P21.1: the calls are 25 to 31, no others; of others the world is as it was, the value 0, the error none.
func TestNumbers(t *testing.T) {
	w := house()
	numbers := []int{math.MinInt, math.MinInt32, -1000, 99, 100, 1000, 1 << 32, 1<<32 + api.CaGet, math.MaxInt32, math.MaxInt}
	for n := -60; n <= 60; n++ {
		numbers = append(numbers, n)
	}
	for _, n := range numbers {
		for _, a := range []api.Args{{root, 10, 2, 3}, {root, 10, open, 0, 4}, {root, 15, 2}, {2, 1}, {}, {top, top, top, top, top, top, top}} {
			behind, value, err, ok := kseg.Do(w, self, n, a)
			if want := n >= 25 && n <= 31; ok != want {
				t.Errorf("call %d: %v", n, ok)
			}
			if !ok && (value != 0 || err != api.OK || !obj.Same(behind, w)) {
				t.Errorf("call %d: value %d, error %d, or another world", n, value, err)
			}
		}
	}
}

// row is a call by a thread, and the error that is written out for it.
type row struct {
	by   uint64
	deed deed
	want api.Errno
}

// holdRows holds rows in a world against what is written out, and against the chapter's words.
func holdRows(t *testing.T, w api.World, rows map[string][]row) {
	t.Helper()
	for name, all := range rows {
		for _, r := range all {
			behind, _, err := hold(t, w, r.by, r.deed)
			if err != r.want {
				t.Errorf("%s: %v by %d: error %d, not %d", name, r.deed, r.by, err, r.want)
			}
			within(t, w, behind, r.by, r.deed)
		}
	}
}

// each is a row for each of several calls.
func each(by uint64, want api.Errno, deeds ...deed) []row {
	var out []row
	for _, d := range deeds {
		out = append(out, row{by, d, want})
	}
	return out
}

// Calls that look at a segment, that write one, and that write an address space of maps at 2 and 8.
func reading(d, s uint64) []deed { return []deed{size(d, s), get(d, s, 0)} }
func writing(d, s uint64) []deed {
	return []deed{put(d, s, 0, 5), put(d, s, 2, top), resize(d, s, 3), resize(d, s, 0)}
}
func mapping(d, x uint64) []deed {
	return []deed{maps(d, x, 6, 7, 8, pagesOf(9, 2, 1)), unmap(d, x, 2), unmap(d, x, 8)}
}

// onSegments are all calls about a segment, with a copy to a container.
func onSegments(d, s, e uint64) []deed {
	return slices.Concat(reading(d, s), writing(d, s), []deed{copies(d, s, e, 0, 4), copies(d, s, e, 1, 4)})
}

// P21.1: what lies nowhere, lies elsewhere, is named in what is no container, or in what is hidden.
func TestNowhere(t *testing.T) {
	rows := map[string][]row{}
	for _, r := range []struct{ d, id uint64 }{
		{root, 999}, {root, 0}, {root, top}, {root, root}, {root, 20}, {root, 30}, {open, 10}, {open, open}, {open, 24}, {waryBox, 10}, {10, 10}, {15, 15},
		{14, 10}, {self, 10}, {999, 10}, {0, 0}, {0, 10}, {top, top}, {topId, 10}, {topId + 1, 10}, {1<<32 + root, 10}, {root, 1<<32 + 10}, {root, 1<<63 + 10},
	} {
		rows["nowhere"] = append(rows["nowhere"], each(self, api.ErrName, slices.Concat(onSegments(r.d, r.id, open), mapping(r.d, r.id))...)...)
	}
	rows["in what is hidden"] = each(self, api.ErrName, slices.Concat(onSegments(secretBox, 30, open), onSegments(secretBox, 31, open), mapping(secretBox, 33))...)
	rows["in what is hidden, nowhere"] = each(self, api.ErrName, slices.Concat(onSegments(secretBox, 999, open), mapping(secretBox, 999))...)
	rows["in what is hidden, of another kind"] = each(self, api.ErrName, slices.Concat(onSegments(secretBox, 33, open), mapping(secretBox, 30))...)
	rows["all that is not trusted is hidden from who is"] = each(trusted, api.ErrName, slices.Concat(onSegments(root, 12, trustedBox), mapping(root, 18), onSegments(open, 20, trustedBox))...)
	holdRows(t, house(), rows)
}

// P21.1: what is of another kind, also where it may not be seen: the kind is told ahead of that.
func TestKinds(t *testing.T) {
	rows := map[string][]row{}
	for _, id := range []uint64{14, 15, 17, 18, 26, 28, open, secretBox, trustedBox, self, owner, secret, trusted} {
		rows["no segment"] = append(rows["no segment"], each(self, api.ErrKind, onSegments(root, id, open)...)...)
		rows["no segment, for an owner"] = append(rows["no segment, for an owner"], each(owner, api.ErrKind, onSegments(root, id, open)...)...)
	}
	for _, id := range []uint64{10, 11, 12, 13, 14, 16, 28, open, secretBox, trustedBox, self, owner, secret, trusted} {
		rows["no address space"] = append(rows["no address space"], each(self, api.ErrKind, mapping(root, id)...)...)
		rows["no address space, for an owner"] = append(rows["no address space, for an owner"], each(owner, api.ErrKind, mapping(root, id)...)...)
	}
	holdRows(t, house(), rows)
}

// P21.1, P21.4: what may not be seen, what may be seen and not changed, and what may be changed.
func TestLabels(t *testing.T) {
	holdRows(t, house(), map[string][]row{
		"not to be seen":                  each(self, api.ErrLabel, slices.Concat(onSegments(root, 11, open), onSegments(open, 21, open), mapping(root, 17))...),
		"to be seen alone":                each(self, api.OK, slices.Concat(reading(root, 12), reading(trustedBox, 40), []deed{copies(root, 12, open, 0, 4), copies(trustedBox, 40, open, 1, 4)})...),
		"not to be changed":               each(self, api.ErrLabel, slices.Concat(writing(root, 12), writing(trustedBox, 40), mapping(root, 18), mapping(trustedBox, 42))...),
		"in what may not be changed":      each(self, api.OK, slices.Concat(reading(trustedBox, 41), writing(trustedBox, 41), mapping(trustedBox, 43))...),
		"to be changed":                   each(self, api.OK, slices.Concat(reading(root, 10), writing(root, 10), writing(open, 20), mapping(root, 15), []deed{copies(root, 10, open, 0, 4)})...),
		"what is fixed":                   each(self, api.OK, slices.Concat(reading(root, 13), writing(root, 13), []deed{resize(root, 13, 32), copies(root, 13, open, 0, 3), maps(root, 27, 1, 2, 3, 2), unmap(root, 27, 0)})...),
		"in what is fixed":                each(self, api.OK, slices.Concat(reading(fixedBox, 61), writing(fixedBox, 61))...),
		"a secret thread sees all of it":  each(secret, api.OK, slices.Concat(reading(root, 10), reading(root, 11), reading(root, 12), reading(secretBox, 30), reading(trustedBox, 40))...),
		"it changes what is secret":       each(secret, api.OK, slices.Concat(writing(root, 11), writing(open, 21), writing(secretBox, 30), mapping(root, 17), mapping(secretBox, 33))...),
		"and nothing else":                each(secret, api.ErrLabel, slices.Concat(writing(root, 10), writing(root, 12), writing(trustedBox, 41), mapping(root, 15), mapping(trustedBox, 43))...),
		"an owner changes all":            each(owner, api.OK, slices.Concat(writing(root, 10), writing(root, 11), writing(root, 12), writing(secretBox, 31), writing(trustedBox, 40), mapping(root, 17), mapping(root, 18), mapping(secretBox, 33), mapping(trustedBox, 42))...),
		"a trusted thread, what it is":    each(trusted, api.OK, slices.Concat(reading(trustedBox, 40), writing(trustedBox, 40), mapping(trustedBox, 42))...),
		"what is less trusted it can't":   each(trusted, api.ErrLabel, slices.Concat(reading(trustedBox, 41), writing(trustedBox, 41), mapping(trustedBox, 43))...),
		"clearance plays no part in that": each(poor, api.ErrLabel, slices.Concat(reading(root, 11), writing(root, 12), mapping(root, 17))...),
	})
}

// far are numbers behind a last one, and those that would be small ones if they were cut, or came round.
func far(last uint64) []uint64 {
	return []uint64{last + 1, last + 2, last + 16, 65535, 65536, 65537, 1 << 31, 1<<32 - 1, 1 << 32, 1<<32 + 1, 1 << 60, 1 << 63, 1<<63 + 1, top - 1, top}
}

// P21.1, P21.3: how many words there are; each word from the first to the last, as it stands and as it is put, and none behind.
func TestWords(t *testing.T) {
	w := house()
	for _, r := range []struct{ d, s, n uint64 }{{root, 10, 20}, {root, 12, 20}, {root, 13, 32}, {root, 16, 0}, {open, 20, 17}, {23, 24, 16}} {
		if behind, value, err := hold(t, w, owner, size(r.d, r.s)); value != r.n || err != api.OK || !obj.Same(behind, w) {
			t.Errorf("%d has %d words, error %d", r.s, value, err)
		}
		for at := range r.n {
			if _, value, err := hold(t, w, owner, get(r.d, r.s, at)); value != r.s<<40+at<<20+7 || err != api.OK {
				t.Errorf("word %d of %d: %d, error %d", at, r.s, value, err)
			}
			for _, v := range []uint64{0, top - at} {
				behind, value, err := hold(t, w, owner, put(r.d, r.s, at, v))
				if value != 0 || err != api.OK {
					t.Errorf("word %d of %d: value %d, error %d", at, r.s, value, err)
				}
				if _, value, err = hold(t, behind, owner, get(r.d, r.s, at)); value != v || err != api.OK {
					t.Errorf("word %d of %d, put: %d, error %d", at, r.s, value, err)
				}
			}
		}
		for _, at := range far(r.n - 1) {
			for _, d := range []deed{get(r.d, r.s, at), put(r.d, r.s, at, 5)} {
				if _, value, err := hold(t, w, owner, d); value != 0 || err != api.ErrRange {
					t.Errorf("%v of %d words: value %d, error %d", d, r.n, value, err)
				}
			}
		}
	}
}

// P21.1, P21.3: to as many words as there are, to fewer and more, to what the Quota has room for and one more, to 65536 and one more, and far above.
func TestResize(t *testing.T) {
	w := house()
	for _, r := range []struct {
		d, s uint64
		room uint64
	}{{root, 10, 48}, {root, 13, 32}, {root, 16, 0}, {open, 20, 48}, {23, 24, 32}, {spentBox, 60, 16}, {fixedBox, 61, 16}} {
		was := of(w, r.s).Data
		for n := range r.room + 1 {
			behind, value, err := hold(t, w, self, resize(r.d, r.s, n))
			if value != 0 || err != api.OK {
				t.Fatalf("%d to %d words: value %d, error %d", r.s, n, value, err)
			}
			now := of(behind, r.s).Data
			kept := min(int(n), len(was))
			if len(now) != int(n) || !slices.Equal(now[:kept], was[:kept]) || slices.ContainsFunc(now[kept:], func(v uint64) bool { return v != 0 }) {
				t.Errorf("%d to %d words: %v", r.s, n, now)
			}
			if _, value, err = hold(t, behind, self, size(r.d, r.s)); value != n || err != api.OK {
				t.Errorf("%d to %d words: there are %d, error %d", r.s, n, value, err)
			}
		}
		for _, n := range []uint64{r.room + 1, r.room + 16, 4096, 65519, 65520, 65521, 65535, topWords} {
			if _, _, err := hold(t, w, self, resize(r.d, r.s, n)); err != api.ErrQuota {
				t.Errorf("%d to %d words: error %d", r.s, n, err)
			}
		}
		for _, n := range []uint64{topWords + 1, topWords + 2, 1 << 31, 1 << 32, 1<<32 + 1, 1 << 60, 1<<60 + 1, 1 << 63, 1<<63 + 1, top - 1, top} {
			if _, _, err := hold(t, w, self, resize(r.d, r.s, n)); err != api.ErrArg {
				t.Errorf("%d to %d words: error %d", r.s, n, err)
			}
		}
	}
}

// P21.3: what was let go is 0 when there are as many words again.
func TestResizeBack(t *testing.T) {
	w, _, _ := hold(t, house(), self, resize(root, 10, 3))
	w, _, _ = hold(t, w, self, resize(root, 10, 5))
	if got := of(w, 10).Data; !slices.Equal(got, []uint64{10<<40 + 7, 10<<40 + 1<<20 + 7, 10<<40 + 2<<20 + 7, 0, 0}) {
		t.Errorf("the words are %v", got)
	}
}

// P21.1, P21.3: what a copy is, part by part, and the numbers that are left to the caller; nothing else is another one but the container's links.
func TestCopied(t *testing.T) {
	w := house()
	for name, r := range map[string]struct {
		by   uint64
		deed deed
		want api.Object
	}{
		"a copy":                         {self, copies(root, 10, open, 0, 4), api.Object{Quota: 4}},
		"of as few pages as can be":      {self, copies(root, 10, open, 0, 3), api.Object{Quota: 3}},
		"of more pages":                  {self, copies(root, 10, open, 0, 9), api.Object{Quota: 9}},
		"beside it":                      {self, copies(root, 10, root, 0, 4), api.Object{Quota: 4}},
		"above it":                       {self, copies(23, 24, root, 0, 2), api.Object{Quota: 2}},
		"of what is fixed":               {self, copies(root, 13, open, 0, 3), api.Object{Quota: 3}},
		"in what is fixed":               {self, copies(root, 13, fixedBox, 0, 3), api.Object{Quota: 3}},
		"without words":                  {self, copies(root, 16, open, 0, 1), api.Object{Quota: 1}},
		"a secret one":                   {self, copies(root, 10, open, 1, 4), api.Object{Quota: 4, Label: lab("7:3")}},
		"of what is trusted":             {self, copies(root, 12, open, 0, 4), api.Object{Quota: 4}},
		"of what is secret, by an owner": {owner, copies(root, 11, open, 0, 4), api.Object{Quota: 4}},
		"a trusted one, of that":         {owner, copies(secretBox, 30, trustedBox, 2, 4), api.Object{Quota: 4, Label: lab("7:0")}},
		"in what is secret":              {secret, copies(root, 10, secretBox, 1, 4), api.Object{Quota: 4, Label: lab("7:3")}},
		"by a trusted thread":            {trusted, copies(trustedBox, 40, trustedBox, 3, 2), api.Object{Quota: 2, Label: lab("7:2")}},
	} {
		behind, id, err := hold(t, w, r.by, r.deed)
		r.want.Id, r.want.Kind, r.want.Data = perm.Name(w.Key, r.by<<20), api.KdSegment, of(w, r.deed.a[1]).Data
		if err != api.OK || id != r.want.Id || of(behind, id) == nil || !reflect.DeepEqual(*of(behind, id), r.want) {
			t.Errorf("%s: error %d, Id %d: %v, not %v", name, err, id, of(behind, id), r.want)
			continue
		}
		if left := of(behind, r.by).Thread.Span; left != (api.Span{Lo: r.by<<20 + 1, Hi: (r.by + 1) << 20}) {
			t.Errorf("%s: %v are left", name, left)
		}
		was := with(behind, r.by, func(o *api.Object) { o.Thread.Span.Lo-- })
		if !obj.Same(was, laid(w, r.deed.a[2], r.want)) {
			t.Errorf("%s: something else is another one", name)
		}
	}
}

// P21.3: a copy is a segment of its own: what is put in the one is not in the other.
func TestApart(t *testing.T) {
	w, id, _ := hold(t, house(), self, copies(root, 10, open, 0, 4))
	w, _, _ = hold(t, w, self, put(root, 10, 0, 5))
	w, _, _ = hold(t, w, self, put(open, id, 1, 6))
	w, again, _ := hold(t, w, self, copies(open, id, open, 0, 4))
	for _, r := range []struct{ d, s, at, want uint64 }{{root, 10, 0, 5}, {root, 10, 1, 10<<40 + 1<<20 + 7}, {open, id, 0, 10<<40 + 7}, {open, id, 1, 6}, {open, again, 1, 6}} {
		if _, value, err := hold(t, w, self, get(r.d, r.s, r.at)); value != r.want || err != api.OK {
			t.Errorf("word %d of %d: %d, error %d", r.at, r.s, value, err)
		}
	}
	if id == again {
		t.Errorf("%d was given twice", id)
	}
}

// P21.1: a register above 3 is ErrArg, ahead of all else that is wrong.
func TestRegisters(t *testing.T) {
	spent := with(fullHouse(), self, func(o *api.Object) { o.Thread.Span = api.Span{} })
	var rows []row
	for _, k := range []uint64{4, 5, 15, 16, 1 << 32, 1<<32 + 1, 1 << 63, 1<<63 + 1, top - 3, top} {
		for _, s := range []uint64{10, 11, 15, 999} {
			for _, e := range []uint64{open, secretBox, fullBox, top} {
				for _, quota := range []uint64{0, 4, top} {
					rows = append(rows, row{self, copies(root, s, e, k, quota), api.ErrArg}, row{self, copies(secretBox, s, e, k, quota), api.ErrArg})
				}
			}
		}
	}
	holdRows(t, spent, map[string][]row{"a register": rows})
	var few []row
	for _, k := range []uint64{4, 1 << 32, top} {
		few = append(few, row{self, copies(root, 10, open, k, 4), api.ErrArg}, row{owner, copies(root, 10, open, k, 4), api.ErrArg})
	}
	holdRows(t, house(), map[string][]row{"a register alone": few})
}

// P21.1: each register is the label of the copy.
func TestEachRegister(t *testing.T) {
	w := with(house(), self, func(o *api.Object) {
		o.Thread.Labs = [4]api.Label{lab("7:2"), lab("8:2"), lab("7:2,8:3"), lab("7:3,8:3")}
	})
	for k := range uint64(4) {
		behind, id, err := hold(t, w, self, copies(root, 10, open, k, 4))
		if o := of(behind, id); err != api.OK || !reflect.DeepEqual(o.Label, of(w, self).Thread.Labs[k]) {
			t.Errorf("register %d: error %d: %v", k, err, o)
		}
	}
}

// P21.1: labels that the caller may make a copy of, and not, and where it may lie.
func TestCopyLabels(t *testing.T) {
	holdRows(t, house(), map[string][]row{
		"its own":                       each(self, api.OK, copies(root, 10, open, 0, 4)),
		"more":                          each(self, api.OK, copies(root, 10, open, 1, 4)),
		"less":                          each(self, api.ErrLabel, copies(root, 10, open, 2, 4)),
		"one that owns":                 each(self, api.ErrLabel, copies(root, 10, open, 3, 4)),
		"more than its clearance":       each(poor, api.ErrLabel, copies(root, 10, open, 1, 4), copies(root, 10, open, 3, 4)),
		"what a secret thread is":       each(secret, api.OK, copies(root, 10, secretBox, 1, 4), copies(root, 11, secretBox, 1, 4), copies(secretBox, 31, secretBox, 1, 4)),
		"less than that":                each(secret, api.ErrLabel, copies(root, 10, secretBox, 0, 4), copies(root, 10, secretBox, 2, 4), copies(root, 10, secretBox, 3, 4)),
		"of an owner, at 1, 3 and 0":    each(owner, api.OK, copies(root, 11, open, 0, 4), copies(root, 11, open, 1, 4), copies(root, 11, open, 2, 4)),
		"of an owner, what it owns":     each(owner, api.ErrLabel, copies(root, 10, open, 3, 4)),
		"of a trusted thread":           each(trusted, api.OK, copies(trustedBox, 40, trustedBox, 2, 4), copies(trustedBox, 40, trustedBox, 0, 4), copies(trustedBox, 40, trustedBox, 3, 4)),
		"of a trusted thread, too much": each(trusted, api.ErrLabel, copies(trustedBox, 40, trustedBox, 1, 4)),
		"it may not lie there":          each(owner, api.ErrLabel, copies(root, 10, secretBox, 0, 4), copies(root, 10, secretBox, 2, 4), copies(root, 10, waryBox, 0, 4)),
		"it may lie there":              each(owner, api.OK, copies(root, 10, secretBox, 1, 4), copies(root, 10, waryBox, 1, 4), copies(root, 10, trustedBox, 0, 4), copies(root, 10, trustedBox, 2, 4)),
	})
}

// P21.1: a copy's container that is none, hidden, may be seen and not changed, is full, spent, or fixed.
func TestCopyContainers(t *testing.T) {
	rows := map[string][]row{
		"hidden":                   each(self, api.ErrName, copies(root, 10, secretBox, 0, 4), copies(root, 10, secretBox, 1, 4), copies(root, 10, waryBox, 1, 4)),
		"to be seen alone":         each(self, api.ErrLabel, copies(root, 10, trustedBox, 0, 4), copies(root, 12, trustedBox, 2, 4)),
		"to be seen alone, secret": each(secret, api.ErrLabel, copies(root, 11, root, 1, 4), copies(root, 11, open, 1, 4), copies(root, 10, trustedBox, 1, 4)),
		"not trusted":              each(trusted, api.ErrName, copies(trustedBox, 40, open, 2, 4), copies(trustedBox, 40, root, 0, 4)),
		"full":                     each(self, api.ErrFull, copies(root, 10, fullBox, 0, 4), copies(root, 16, fullBox, 0, 1), copies(fullBox, 1005, fullBox, 0, 1), copies(root, 10, fullBox, 0, 900)),
		"spent":                    each(self, api.ErrQuota, copies(root, 16, spentBox, 0, 1), copies(spentBox, 60, spentBox, 0, 2), copies(root, 10, spentBox, 1, 4)),
		"fixed":                    each(self, api.OK, copies(root, 10, fixedBox, 0, 4), copies(root, 10, fixedBox, 0, 17)),
		"fixed, without room":      each(self, api.ErrQuota, copies(root, 10, fixedBox, 0, 18)),
		"up to its last page":      slices.Concat(each(self, api.OK, copies(root, 10, 23, 0, 16)), each(self, api.ErrQuota, copies(root, 10, 23, 0, 17))),
	}
	for _, e := range []uint64{0, 10, 13, 14, 15, 28, self, owner, 20, 999, topId, topId + 1, 1<<32 + open, 1 << 63, top} {
		rows["no container"] = append(rows["no container"], row{self, copies(root, 10, e, 0, 4), api.ErrName})
	}
	holdRows(t, fullHouse(), rows)
	one := with(fullHouse(), fullBox, func(d *api.Object) { d.Links = d.Links[:topLinks-1] })
	one.Objects = slices.DeleteFunc(one.Objects, func(o api.Object) bool { return o.Id == 1000+topLinks-1 })
	if behind, _, err := hold(t, one, self, copies(root, 10, fullBox, 0, 4)); err != api.OK || len(of(behind, fullBox).Links) != topLinks {
		t.Errorf("the last link: error %d", err)
	}
}

// P21.1: a copy's quota that is too small, as small as can be, 4096, one more and far above, with numbers that are left, and without.
func TestCopyQuotas(t *testing.T) {
	w := fullHouse()
	spent := with(w, self, func(o *api.Object) { o.Thread.Span.Lo = o.Thread.Span.Hi })
	for _, r := range []struct{ d, s, least uint64 }{{root, 16, 1}, {spentBox, 60, 2}, {23, 24, 2}, {open, 20, 3}, {root, 10, 3}, {root, 13, 3}} {
		for quota := range r.least {
			holdRows(t, w, map[string][]row{"too small": each(self, api.ErrQuota, copies(r.d, r.s, root, 0, quota), copies(r.d, r.s, fullBox, 0, quota))})
			holdRows(t, spent, map[string][]row{"too small": each(self, api.ErrQuota, copies(r.d, r.s, root, 0, quota))})
		}
		for _, quota := range []uint64{r.least, r.least + 1, 100} {
			holdRows(t, w, map[string][]row{"enough": each(self, api.OK, copies(r.d, r.s, root, 0, quota))})
			holdRows(t, spent, map[string][]row{"enough": each(self, api.ErrSerial, copies(r.d, r.s, root, 0, quota), copies(r.d, r.s, fullBox, 0, quota))})
		}
		for _, quota := range []uint64{900, 1024, 1025, 4095, topQuota} {
			holdRows(t, w, map[string][]row{
				"no room":       each(self, api.ErrQuota, copies(r.d, r.s, root, 0, quota)),
				"no room, full": each(self, api.ErrFull, copies(r.d, r.s, fullBox, 0, quota)),
			})
			holdRows(t, spent, map[string][]row{"no room": each(self, api.ErrSerial, copies(r.d, r.s, root, 0, quota))})
		}
		for _, quota := range []uint64{topQuota + 1, 5000, 65536, 1 << 31, 1 << 32, 1<<32 + 4, 1 << 60, 1 << 63, 1<<63 + 4, top - 1, top} {
			holdRows(t, w, map[string][]row{"above": each(self, api.ErrArg, copies(r.d, r.s, root, 0, quota), copies(r.d, r.s, fullBox, 0, quota))})
			holdRows(t, spent, map[string][]row{"above": each(self, api.ErrArg, copies(r.d, r.s, root, 0, quota))})
		}
	}
}

// P21.1: the last number of a Span is taken, none behind it; the first and the last number that there are, by unlike keys.
func TestSpans(t *testing.T) {
	for _, key := range []uint64{0, 5, 1 << 63, top} {
		for _, lo := range []uint64{0, 1, 1 << 60, topId - 2} {
			w := world(box(root, 99, "-", self, 60), thread(self, "-", "-"), words(60, 2, 3, "-"))
			w.Key = key
			of(w, self).Thread.Span = api.Span{Lo: lo, Hi: lo + 2}
			for n := range uint64(2) {
				behind, id, err := hold(t, w, self, copies(root, 60, root, 0, 2))
				if err != api.OK || id < 1 || id > topId || perm.Number(key, id) != lo+n || of(behind, id) == nil {
					t.Fatalf("of %d by %d: error %d, Id %d", lo+n, key, err, id)
				}
				w = behind
			}
			if _, id, err := hold(t, w, self, copies(root, 60, root, 0, 2)); id != 0 || err != api.ErrSerial {
				t.Errorf("the third of %d: Id %d, error %d", lo, id, err)
			}
		}
	}
}

// crowded is a Root of the greatest Quota with as many objects as there can be, in containers of 60 gates, and a thread, a segment and an empty container in the Root.
func crowded() api.World {
	top := box(root, topRoot, "-", self, 60, 61)
	objects := []api.Object{thread(self, "-", "-"), words(60, 1, 0, "-"), box(61, 1, "-")}
	next := uint64(100)
	for left := topRoot - 4; left > 0; {
		d := box(next, 0, "-")
		n := min(left-1, 60)
		for at := range uint64(n) {
			d.Links = append(d.Links, next+1+at)
			objects = append(objects, thing(api.KdGate, next+1+at, 1, "-"))
		}
		d.Quota = 1 + n
		top.Links = append(top.Links, d.Id)
		objects = append(objects, d)
		next, left = next+1000, left-d.Quota
	}
	slices.Sort(top.Links)
	return world(append([]api.Object{top}, objects...)...)
}

// wide is a Root of the greatest Quota with a segment that has all words that it may.
func wide() api.World {
	return world(box(root, topRoot, "-", self, 60, 61), thread(self, "-", "-"), words(60, 500, 499*pageLen, "-"), space(61, "-"))
}

// P21.1: the greatest worlds: of as many objects as there can be, and of great segments.
func TestGreat(t *testing.T) {
	holdRows(t, crowded(), map[string][]row{
		"as many objects as there can be": slices.Concat(
			each(self, api.ErrQuota, copies(root, 60, root, 0, 1), copies(root, 60, 61, 0, 1), copies(root, 60, 100, 0, 1)),
			each(self, api.OK, size(root, 60), resize(root, 60, 0)))})
	holdRows(t, wide(), map[string][]row{
		"a great segment": slices.Concat(
			each(self, api.OK, get(root, 60, 7983), put(root, 60, 7983, 1), resize(root, 60, 7984), resize(root, 60, 7983), copies(root, 60, root, 0, 500), copies(root, 60, root, 0, 521)),
			each(self, api.ErrRange, get(root, 60, 7984), put(root, 60, 7984, 1)),
			each(self, api.ErrQuota, resize(root, 60, 7985), copies(root, 60, root, 0, 499), copies(root, 60, root, 0, 522)))})
}

// P21.1, P21.3: what is mapped, part by part; its pages are found there, all others are found as they were.
func TestMapped(t *testing.T) {
	w := house()
	for name, r := range map[string]struct {
		x    uint64
		deed deed
		want api.Map
	}{
		"a page":                        {26, maps(root, 26, 0, 7, 8, pagesOf(0, 1, 0)), api.Map{Va: 0, N: 1, Cont: 7, Seg: 8}},
		"to write":                      {26, maps(root, 26, 3, 7, 8, pagesOf(0, 1, 1)), api.Map{Va: 3, N: 1, Cont: 7, Seg: 8, Write: true}},
		"from a later page on":          {26, maps(root, 26, 3, 7, 8, pagesOf(9, 2, 0)), api.Map{Va: 3, N: 2, Cont: 7, Seg: 8, Off: 9}},
		"so, to write":                  {26, maps(root, 26, 3, 7, 8, pagesOf(9, 2, 1)), api.Map{Va: 3, N: 2, Cont: 7, Seg: 8, Off: 9, Write: true}},
		"p is a number":                 {26, maps(root, 26, 3, 7, 8, 11<<32+7), api.Map{Va: 3, N: 3, Cont: 7, Seg: 8, Off: 11, Write: true}},
		"all pages":                     {26, maps(root, 26, 0, 7, 8, pagesOf(0, topVa, 1)), api.Map{Va: 0, N: topVa, Cont: 7, Seg: 8, Write: true}},
		"the last page":                 {26, maps(root, 26, topVa-1, 7, 8, pagesOf(topVa-1, 1, 0)), api.Map{Va: topVa - 1, N: 1, Cont: 7, Seg: 8, Off: topVa - 1}},
		"all but the first":             {26, maps(root, 26, 1, 7, 8, pagesOf(1, topVa-1, 1)), api.Map{Va: 1, N: topVa - 1, Cont: 7, Seg: 8, Off: 1, Write: true}},
		"of what lies nowhere":          {26, maps(root, 26, 16, 0, 0, pagesOf(1, 1, 1)), api.Map{Va: 16, N: 1, Off: 1, Write: true}},
		"of words that are no ids":      {26, maps(root, 26, 17, top, top-1, pagesOf(1, 1, 1)), api.Map{Va: 17, N: 1, Cont: top, Seg: top - 1, Off: 1, Write: true}},
		"of what is hidden":             {26, maps(root, 26, 15, secretBox, 30, pagesOf(1, 1, 1)), api.Map{Va: 15, N: 1, Cont: secretBox, Seg: 30, Off: 1, Write: true}},
		"of what may not be changed":    {26, maps(root, 26, 1, root, 12, pagesOf(0, 1, 1)), api.Map{Va: 1, N: 1, Cont: root, Seg: 12, Write: true}},
		"of what is no segment":         {26, maps(root, 26, 1, root, 26, pagesOf(0, 1, 0)), api.Map{Va: 1, N: 1, Cont: root, Seg: 26}},
		"of more than the segment has":  {26, maps(root, 26, 1, root, 10, pagesOf(99, 9, 0)), api.Map{Va: 1, N: 9, Cont: root, Seg: 10, Off: 99}},
		"ahead of others":               {15, maps(root, 15, 0, 7, 8, pagesOf(5, 2, 1)), api.Map{Va: 0, N: 2, Cont: 7, Seg: 8, Off: 5, Write: true}},
		"between others":                {15, maps(root, 15, 6, 7, 8, pagesOf(5, 2, 0)), api.Map{Va: 6, N: 2, Cont: 7, Seg: 8, Off: 5}},
		"behind others":                 {15, maps(root, 15, 10, 7, 8, pagesOf(5, topVa-10, 0)), api.Map{Va: 10, N: topVa - 10, Cont: 7, Seg: 8, Off: 5}},
		"of the same pages as others":   {15, maps(root, 15, 10, 315, 415, pagesOf(1, 4, 1)), api.Map{Va: 10, N: 4, Cont: 315, Seg: 415, Off: 1, Write: true}},
		"in a space that is fixed":      {27, maps(root, 27, 1, 7, 8, pagesOf(5, 2, 0)), api.Map{Va: 1, N: 2, Cont: 7, Seg: 8, Off: 5}},
		"in a space in what is trusted": {43, maps(trustedBox, 43, 1, 7, 8, pagesOf(5, 1, 0)), api.Map{Va: 1, N: 1, Cont: 7, Seg: 8, Off: 5}},
	} {
		behind, value, err := hold(t, w, self, r.deed)
		if value != 0 || err != api.OK || !slices.Contains(of(behind, r.x).Maps, r.want) {
			t.Errorf("%s: value %d, error %d: %v", name, value, err, of(behind, r.x).Maps)
			continue
		}
		for _, page := range []int{0, 1, 2, 3, 5, 6, 7, 8, 9, 10, 11, r.want.Va, r.want.Va + r.want.N - 1, r.want.Va + r.want.N, topVa - 1} {
			m, at, ok := pages.Find(of(behind, r.x).Maps, page)
			was, wasAt, wasOk := pages.Find(of(w, r.x).Maps, page)
			if page >= r.want.Va && page < r.want.Va+r.want.N {
				was, wasAt, wasOk = r.want, r.want.Off+page-r.want.Va, true
			}
			if m != was || at != wasAt || ok != wasOk {
				t.Errorf("%s: page %d is page %d of %v, %v", name, page, at, m, ok)
			}
		}
		if undone, _, err := hold(t, behind, self, unmap(r.deed.a[0], r.x, r.deed.a[2])); err != api.OK || !obj.Same(undone, w) {
			t.Errorf("%s, and unmapped: error %d, or another world", name, err)
		}
	}
}

// P21.1: places that are and are not a page's, no pages and too many, and pages that the segment can't have.
func TestMapNumbers(t *testing.T) {
	ask := func(va, off, n, write uint64) deed { return maps(root, 26, va, 7, 8, pagesOf(off, n, write)) }
	var right, wrong []deed
	for _, write := range []uint64{0, 1} {
		for _, va := range []uint64{0, 1, 15, 16, 17, 65535, 65536, topVa/2 + 1, topVa - 2, topVa - 1} {
			right = append(right, ask(va, 0, 1, write), ask(va, topVa-1, 1, write), ask(va, va, topVa-va, write))
			wrong = append(wrong, ask(va, 0, 0, write), ask(va, va, 0, write), ask(va, va, topVa-va+1, write), ask(va, topVa-1, 2, write), ask(va, topVa, 1, write))
		}
		for _, va := range []uint64{topVa, topVa + 1, topVa * 2, topVa * 16, 1 << 31, 1<<32 - 1, 1 << 32, 1<<32 + 3, 1 << 60, 1 << 63, 1<<63 + 3, top - 1, top} {
			wrong = append(wrong, ask(va, 0, 0, write), ask(va, 0, 1, write), ask(va, 0, 2, write), ask(va, 3, topVa, write))
		}
		for _, n := range []uint64{topVa + 1, topVa + 2, 1 << 21, 1<<21 + 1, 1 << 30, 1<<30 + 1, 1<<31 - 1} {
			wrong = append(wrong, ask(0, 0, n, write), ask(3, 3, n, write))
		}
		for _, off := range []uint64{topVa, topVa + 1, 1 << 21, 1<<21 + 1, 1<<31 - 1, 1 << 31, 1<<32 - 1} {
			wrong = append(wrong, ask(0, off, 0, write), ask(0, off, 1, write), ask(3, off, topVa, write))
		}
		right = append(right, ask(0, 0, topVa, write))
		wrong = append(wrong, ask(0, 1, topVa, write), ask(1, 0, topVa, write))
	}
	wrong = append(wrong, maps(root, 26, 0, 7, 8, 0), maps(root, 26, 0, 7, 8, 1), maps(root, 26, 0, 7, 8, 1<<32), maps(root, 26, 0, 7, 8, 1<<63), maps(root, 26, 0, 7, 8, top))
	holdRows(t, house(), map[string][]row{"right": each(self, api.OK, right...), "wrong": each(self, api.ErrArg, wrong...)})
}

// P21.1: over a map that is there, beside it, and where there are as many as there can be.
func TestMapThere(t *testing.T) {
	ask := func(x, va, n uint64) deed { return maps(root, x, va, 7, 8, pagesOf(5, n, 1)) }
	holdRows(t, house(), map[string][]row{
		"over a map":         each(self, api.ErrThere, ask(15, 2, 4), ask(15, 2, 1), ask(15, 3, 1), ask(15, 5, 1), ask(15, 5, 2), ask(15, 0, 3), ask(15, 0, 6), ask(15, 0, 100), ask(15, 6, 3), ask(15, 7, 2), ask(15, 8, 1), ask(15, 9, 9), ask(15, 2, 8), ask(15, 1, 5)),
		"the same map":       each(self, api.ErrThere, maps(root, 15, 2, 315, 415, pagesOf(1, 4, 1)), maps(root, 15, 8, 315, 415, pagesOf(3, 2, 0))),
		"beside a map":       each(self, api.OK, ask(15, 0, 1), ask(15, 0, 2), ask(15, 1, 1), ask(15, 6, 1), ask(15, 6, 2), ask(15, 7, 1), ask(15, 10, 1), ask(15, 10, 1000), ask(15, 11, 7)),
		"as many as can be":  each(self, api.ErrFull, ask(19, 0, 1), ask(19, 0, 10), ask(19, 9, 1), ask(19, 12, 1), ask(19, 57, 1), ask(19, 60, 9)),
		"so, over a map":     each(self, api.ErrThere, ask(19, 10, 2), ask(19, 0, 11), ask(19, 11, 2), ask(19, 55, 1), ask(19, 0, 99)),
		"so, what can't be":  each(self, api.ErrArg, ask(19, 10, 0), ask(19, topVa, 1), ask(19, 10, topVa), ask(15, 2, 0), ask(15, 2, topVa)),
		"over, but too many": each(self, api.ErrArg, ask(15, 2, topVa+1), maps(root, 15, 2, 7, 8, pagesOf(topVa, 4, 0))),
	})
	w, _, err := hold(t, house(), self, unmap(root, 19, 55))
	if err != api.OK {
		t.Fatalf("error %d", err)
	}
	if w, _, err = hold(t, w, self, ask(19, 0, 10)); err != api.OK || len(of(w, 19).Maps) != topMaps {
		t.Errorf("the last one: error %d", err)
	}
	if _, _, err = hold(t, w, self, ask(19, 55, 2)); err != api.ErrFull {
		t.Errorf("one more: error %d", err)
	}
}

// P21.1: what is there is unmapped; what is not, within a map, behind it and far away is not.
func TestUnmap(t *testing.T) {
	var none []deed
	for _, va := range []uint64{0, 1, 3, 4, 5, 6, 7, 9, 10, 11, 16, 32, 128, topVa - 1, topVa, topVa + 2, 1<<31 + 2, 1 << 32, 1<<32 + 2, 1 << 63, 1<<63 + 8, top - 1, top} {
		none = append(none, unmap(root, 15, va), unmap(trustedBox, 43, va), unmap(root, 26, va))
	}
	holdRows(t, house(), map[string][]row{
		"what is there": each(self, api.OK, unmap(root, 15, 2), unmap(root, 15, 8), unmap(trustedBox, 43, 2), unmap(open, 25, 1), unmap(root, 27, 0), unmap(root, 19, 10), unmap(root, 19, 55)),
		"what is not":   each(self, api.ErrName, none...),
		"what is twice": each(self, api.ErrName, unmap(root, 26, 2), unmap(root, 26, 8)),
	})
	w, _, _ := hold(t, house(), self, unmap(root, 15, 2))
	if _, _, err := hold(t, w, self, unmap(root, 15, 2)); err != api.ErrName || !slices.Equal(of(w, 15).Maps, of(house(), 15).Maps[1:]) {
		t.Errorf("once more: error %d; there are %v", err, of(w, 15).Maps)
	}
	w, _, _ = hold(t, w, self, unmap(root, 15, 8))
	if got := of(w, 15).Maps; got != nil {
		t.Errorf("there are %v", got)
	}
}

// P21.1: whether the caller runs, waits or is halted plays no part.
func TestStates(t *testing.T) {
	for _, state := range []int{api.ThRun, api.ThWait, api.ThHalt} {
		w := with(house(), self, func(o *api.Object) {
			o.Thread.State = state
			if state == api.ThWait {
				o.Thread.Wait = api.Wait{Ref: api.Ref{Cont: root, Id: 10}, Index: 3, Val: 4}
			}
		})
		holdRows(t, w, map[string][]row{"a state": each(self, api.OK, slices.Concat(reading(root, 10), writing(root, 10), mapping(root, 15), []deed{copies(root, 10, open, 0, 4)})...)})
	}
}

// flaw is something that can be wrong with a call, and what makes it so.
type flaw struct {
	what  string
	err   api.Errno
	spoil func(*api.World, *api.Args)
}

// scene is a call that goes well, and its flaws, in the chapter's order.
type scene struct {
	deed  deed
	flaws []flaw
}

// stage is the world that flaws are laid in: a thread that owns 9; a container (2) with a segment (20) and an address space (21), and one (3) for what is copied. What lies in that is at 3 in 7, 8 and 9, so that the container may have any label.
func stage() api.World {
	me := thread(self, "9:*", "7:3,8:3,9:3", "7:3,8:3,9:3", "-", "7:0", "9:*")
	return world(box(root, 900, "-", 2, 3, self), me, box(2, 200, "-", 20, 21), box(3, 200, "-", 30), words(20, 4, 20, "9:3"), space(21, "9:3", 2, 1), words(30, 1, 0, "7:3,8:3,9:3"))
}

// relabel sets a category of an object's label.
func relabel(id, cat uint64, lev int) func(*api.World, *api.Args) {
	return func(w *api.World, _ *api.Args) {
		o := of(*w, id)
		o.Label = slices.DeleteFunc(o.Label, func(p api.Pair) bool { return p.Cat == cat })
		o.Label = append(o.Label, api.Pair{Cat: cat, Lev: lev})
		slices.SortFunc(o.Label, func(a, b api.Pair) int { return int(a.Cat) - int(b.Cat) })
	}
}

// arg sets an argument.
func arg(at int, v uint64) func(*api.World, *api.Args) {
	return func(_ *api.World, a *api.Args) { a[at] = v }
}

// change does something to an object.
func change(id uint64, does func(*api.Object)) func(*api.World, *api.Args) {
	return func(w *api.World, _ *api.Args) { does(of(*w, id)) }
}

// hidden and kept are a container that the thread of the stage may not see, with all that lies in it, and one that it may not change.
func hidden(d uint64) flaw {
	return flaw{"hidden", api.ErrName, func(w *api.World, a *api.Args) {
		for _, id := range append([]uint64{d}, of(*w, d).Links...) {
			relabel(id, 7, api.Lev3)(w, a)
		}
	}}
}
func kept(d uint64) flaw { return flaw{"to be seen alone", api.ErrLabel, relabel(d, 8, api.Lev0)} }

// filled lets a container have as many links as it may, and as much room as it had.
func filled(d uint64) func(*api.World, *api.Args) {
	return func(w *api.World, _ *api.Args) {
		in := of(*w, d)
		var crowd []api.Object
		for n := uint64(500); len(in.Links) < topLinks; n++ {
			in.Links = append(in.Links, n)
			crowd = append(crowd, thing(api.KdGate, n, 1, "7:3,8:3,9:3"))
		}
		in.Quota += len(crowd)
		w.Objects = append(w.Objects, crowd...)
	}
}

// crammed lets a container have no room left.
func crammed(d uint64) func(*api.World, *api.Args) {
	return func(w *api.World, _ *api.Args) { of(*w, d).Quota -= room(*w, *of(*w, d)) }
}

// crowdedMaps lets an address space have as many maps as it may, behind page 100.
func crowdedMaps(o *api.Object) {
	for n := 100; len(o.Maps) < topMaps; n++ {
		o.Maps = append(o.Maps, api.Map{Va: n, N: 1})
	}
}

// mapAt5 lets it have one of page 5, and no more than it may.
func mapAt5(o *api.Object) {
	l := slices.Insert(o.Maps, 1, api.Map{Va: 5, N: 1})
	o.Maps = l[:min(len(l), topMaps)]
}

// naming are the flaws of a name of what the first two arguments name in the stage's first container, and of another thing there, which is of another kind.
func naming(id, other uint64, write bool) []flaw {
	out := []flaw{hidden(2), {"not there", api.ErrName, arg(1, 30)}, {"kind", api.ErrKind, arg(1, other)}, {"not to see", api.ErrLabel, relabel(id, 7, api.Lev3)}}
	if write {
		out = append(out, flaw{"not to change", api.ErrLabel, relabel(id, 8, api.Lev0)})
	}
	return out
}

// copying are the flaws of a copy, for a label that may not be made and a quota that can't be.
func copying(k uint64, quota flaw) []flaw {
	return slices.Concat([]flaw{{"register", api.ErrArg, arg(3, 4)}}, naming(20, 21, false), []flaw{
		hidden(3), kept(3), {"label", api.ErrLabel, arg(3, k)}, quota,
		{"spent", api.ErrSerial, change(self, func(o *api.Object) { o.Thread.Span.Lo = o.Thread.Span.Hi })},
		{"place", api.ErrLabel, func(w *api.World, a *api.Args) {
			relabel(3, 9, api.Lev3)(w, a)
			of(*w, self).Thread.Labs[0] = lab("7:3,8:3")
		}},
		{"full", api.ErrFull, filled(3)}, {"room", api.ErrQuota, crammed(3)}})
}

// scenes are of all calls.
func scenes() []scene {
	there := []flaw{{"there", api.ErrThere, change(21, mapAt5)}, {"full", api.ErrFull, change(21, crowdedMaps)}}
	mapped := func(wrong ...flaw) []flaw { return slices.Concat(naming(21, 20, true), wrong, there) }
	one := pagesOf(3, 2, 1)
	return []scene{
		{size(2, 20), naming(20, 21, false)},
		{get(2, 20, 19), append(naming(20, 21, false), flaw{"behind", api.ErrRange, arg(2, 20)})},
		{put(2, 20, 19, 5), append(naming(20, 21, true), flaw{"behind", api.ErrRange, arg(2, 20)})},
		{resize(2, 20, 30), append(naming(20, 21, true), flaw{"far", api.ErrArg, arg(2, 65537)}, flaw{"room", api.ErrQuota, arg(2, 65536)})},
		{resize(2, 20, 48), append(naming(20, 21, true), flaw{"far", api.ErrArg, arg(2, top)}, flaw{"room", api.ErrQuota, arg(2, 49)})},
		{copies(2, 20, 3, 0, 4), copying(2, flaw{"too small", api.ErrQuota, arg(4, 2)})},
		{copies(2, 20, 3, 0, 3), copying(3, flaw{"above", api.ErrArg, arg(4, 4097)})},
		{copies(2, 20, 3, 0, 4), copying(3, flaw{"none", api.ErrQuota, arg(4, 0)})},
		{copies(2, 20, 3, 0, 4), copying(2, flaw{"far above", api.ErrArg, arg(4, top)})},
		{maps(2, 21, 5, 3, 30, one), mapped(flaw{"behind all pages", api.ErrArg, arg(2, topVa)}, flaw{"no pages", api.ErrArg, arg(5, pagesOf(3, 0, 1))})},
		{maps(2, 21, 4, 3, 30, one), mapped(flaw{"too many pages", api.ErrArg, arg(5, pagesOf(0, topVa, 1))}, flaw{"far away", api.ErrArg, arg(2, top)})},
		{maps(2, 21, 5, 3, 30, one), mapped(flaw{"behind the segment", api.ErrArg, arg(5, pagesOf(topVa, 1, 0))})},
		{unmap(2, 21, 2), append(naming(21, 20, true), flaw{"no map", api.ErrName, arg(2, 3)})},
	}
}

// some is whichever flaws of a row a number's bits name.
func some(flaws []flaw, choice int) []flaw {
	var out []flaw
	for at, f := range flaws {
		if choice>>at&1 == 1 {
			out = append(out, f)
		}
	}
	return out
}

// P21.1: which error is told where several could be: of up to three of a call's flaws together the first one is the answer; without any it goes well.
func TestOrder(t *testing.T) {
	for _, s := range scenes() {
		for choice := range 1 << len(s.flaws) {
			if bits.OnesCount(uint(choice)) > 3 {
				continue
			}
			now, a := stage(), s.deed.a
			want, names := api.OK, []string{}
			for _, f := range slices.Backward(some(s.flaws, choice)) {
				f.spoil(&now, &a)
				want, names = f.err, append(names, f.what)
			}
			if !tree.Fit(now) {
				t.Fatalf("%v, %q: the world is not whole", s.deed, names)
			}
			if _, _, err := hold(t, now, self, deed{s.deed.n, a}); err != want {
				t.Errorf("%v, %q: error %d, not %d", deed{s.deed.n, a}, names, err, want)
			}
		}
	}
}

// labels are all of two categories, from a level on.
func labels(from int) []api.Label {
	var out []api.Label
	for a := from; a <= api.Lev3; a++ {
		for b := from; b <= api.Lev3; b++ {
			var l api.Label
			for at, lev := range []int{a, b} {
				if lev != api.Lev1 {
					l = append(l, api.Pair{Cat: uint64(7 + 2*at), Lev: lev})
				}
			}
			out = append(out, l)
		}
	}
	return out
}

// pick is one of a list.
func pick[T any](draw *rand.Rand, from ...T) T { return from[draw.Intn(len(from))] }

// atLeast are labels that are not less than one.
func atLeast(l api.Label, from []api.Label) []api.Label {
	return slices.DeleteFunc(slices.Clone(from), func(x api.Label) bool { return !atMost(l, x) })
}

// drawnThread is a thread of a label.
func drawnThread(draw *rand.Rand, id uint64, l api.Label) api.Object {
	o := thread(id, "-", "-")
	o.Label, o.Thread.State = l, pick(draw, api.ThRun, api.ThRun, api.ThHalt)
	o.Thread.Clear = pick(draw, append(atLeast(l, labels(api.Star)), lab("7:3,9:3"), lab("7:3,9:3"), lab("7:3,9:3"))...)
	for at := range o.Thread.Labs {
		o.Thread.Labs[at] = pick(draw, append(labels(api.Star), l, l, l, o.Thread.Clear, o.Thread.Clear, nil)...)
	}
	o.Thread.Span.Hi = o.Thread.Span.Lo + pick[uint64](draw, 0, 1, 2, 15, 1<<10, 1<<20)
	return o
}

// drawnMaps are maps of the first pages.
func drawnMaps(draw *rand.Rand) []api.Map {
	var out []api.Map
	n := pick(draw, 0, 2, draw.Intn(topMaps), topMaps)
	for va := draw.Intn(4); len(out) < n; va += draw.Intn(3) {
		m := api.Map{Va: va, N: 1 + draw.Intn(3), Cont: draw.Uint64(), Seg: draw.Uint64(), Off: draw.Intn(9), Write: draw.Intn(2) == 0}
		out, va = append(out, m), va+m.N
	}
	return out
}

// drawnThing is an object of another kind.
func drawnThing(draw *rand.Rand, id uint64, l api.Label) api.Object {
	o := api.Object{Id: id, Kind: pick(draw, 1, 1, 1, 2, 2, 3, 3, 5, 6), Label: l, Quota: 1 + draw.Intn(4), Fixed: draw.Intn(3) == 0}
	switch o.Kind {
	case api.KdContainer:
		o.Quota = 1 + draw.Intn(40)
	case api.KdSegment:
		for range draw.Intn((o.Quota-1)*pageLen + 1) {
			o.Data = append(o.Data, draw.Uint64())
		}
	case api.KdSpace:
		o.Maps = drawnMaps(draw)
	}
	return o
}

// drawnWorld is a whole world.
func drawnWorld(t *testing.T, draw *rand.Rand) api.World {
	t.Helper()
	w := world(box(root, 30+draw.Intn(150), "-"))
	w.Key = draw.Uint64()
	of(w, root).Label = pick(draw, lab("-"), lab("-"), lab("7:0,9:0"), lab("9:2"))
	for _, id := range []uint64{self, owner, 90, 91, 4, 92, 5, 93, 94, 6, 95, 7, 96, 97, 8, 98, 99, topId} {
		for range 20 {
			d := pick(draw, idsOf(w)...)
			o := drawnThing(draw, id, pick(draw, append(labels(api.Lev0), make([]api.Label, 16)...)...))
			if id < 90 && id >= self || draw.Intn(6) == 0 && id < topId {
				o = drawnThread(draw, id, pick(draw, slices.Concat(labels(api.Star), make([]api.Label, 10), slices.Repeat([]api.Label{lab("7:*,9:*")}, 10))...))
			}
			if next, err := tree.Attach(w, d, o); err == api.OK {
				w = next
				break
			}
		}
	}
	for range 10 {
		if next, err := tree.Link(w, pick(draw, idsOf(w)...), pick(draw, idsOf(w)...)); err == api.OK {
			w = next
		}
	}
	if !tree.Fit(w) {
		t.Fatal("a drawn world is not whole")
	}
	return w
}

// drawnId is an Id of what is of a kind, mostly.
func drawnId(draw *rand.Rand, w api.World, kind int, from []uint64) uint64 {
	id := pick(draw, from...)
	for range 9 {
		if of(w, id).Kind == kind {
			break
		}
		id = pick(draw, from...)
	}
	return id
}

// drawnName is a name, mostly of what is of a kind and lies there.
func drawnName(draw *rand.Rand, w api.World, kind int) (uint64, uint64) {
	d := drawnId(draw, w, api.KdContainer, idsOf(w))
	if in := of(w, d); len(in.Links) > 0 && draw.Intn(8) > 0 {
		return d, drawnId(draw, w, kind, in.Links)
	}
	return d, pick(draw, append(idsOf(w), 999)...)
}

// drawnWord is an argument: a container, a register, a Quota, a place, or pages.
func drawnWord(draw *rand.Rand, w api.World, what byte) uint64 {
	if draw.Intn(25) == 0 {
		return pick[uint64](draw, 0, 4, 999, 4096, 4097, 65536, 65537, 1<<20, 1<<32, 1<<63, top)
	}
	switch what {
	case 'd':
		return drawnId(draw, w, api.KdContainer, idsOf(w))
	case 'k':
		return uint64(draw.Intn(4))
	case 'n':
		return uint64(draw.Intn(50))
	case 'v':
		return uint64(draw.Intn(30)) + pick[uint64](draw, 0, 0, 0, 40, topVa-20)
	case 'p':
		return pagesOf(uint64(draw.Intn(9)), uint64(draw.Intn(6)), uint64(draw.Intn(2)))
	case 'q':
		return uint64(draw.Intn(9)) + pick[uint64](draw, 0, 0, 0, 0, 0, 4092)
	}
	return draw.Uint64()
}

// drawnDeed is a call.
func drawnDeed(draw *rand.Rand, w api.World) deed {
	shapes := map[int]string{25: "", 26: "n", 27: "n", 28: "nw", 29: "dkq", 30: "vwwp", 31: "v"}
	d := deedOf(25 + draw.Intn(7))
	kind := api.KdSegment
	if d.n >= 30 {
		kind = api.KdSpace
	}
	d.a[0], d.a[1] = drawnName(draw, w, kind)
	for at, what := range []byte(shapes[d.n]) {
		d.a[2+at] = drawnWord(draw, w, what)
	}
	return d
}

// met counts by call what was wrong first; "" is that nothing was.
type met map[string]map[string]int

// note counts one more.
func (m met) note(call, what string, n int) {
	if m[call] == nil {
		m[call] = map[string]int{}
	}
	m[call][what] += n
}

// P21.1 to P21.4: drawn rows of calls in drawn worlds, by threads of unlike labels, against the chapter's words; all that can be wrong comes about.
func TestDrawn(t *testing.T) {
	all := make([]met, 8)
	t.Run("rows", func(t *testing.T) {
		for seed := range all {
			t.Run(fmt.Sprint(seed), func(t *testing.T) {
				t.Parallel()
				all[seed] = met{}
				draw := rand.New(rand.NewSource(int64(seed)))
				for range 40 {
					drawnRow(t, draw, all[seed])
				}
			})
		}
	})
	found := met{}
	for _, one := range all {
		for call, counts := range one {
			for what, n := range counts {
				found.note(call, what, n)
			}
		}
	}
	name := []string{"", "no container", "hidden", "not there", "kind", "not to see"}
	written := append(name, "not to change")
	for call, wants := range map[string][]string{
		"CaSize": name, "CaGet": append(name[:6:6], "behind the last word"), "CaPut": append(written[:7:7], "behind the last word"),
		"CaResize": append(written[:7:7], "far", "no room for words"), "CaMap": append(written[:7:7], "no map", "there", "full"), "CaUnmap": append(written[:7:7], "no such map"),
		"CaCopy": append(name[:6:6], "register", "not to write", "label", "no room for words", "far", "spent", "place", "room"),
	} {
		for _, what := range wants {
			if found[call][what] < 5 {
				t.Errorf("%s, %q: %d times", call, what, found[call][what])
			}
		}
	}
}

// drawnRow is a row of calls in a drawn world.
func drawnRow(t *testing.T, draw *rand.Rand, count met) {
	t.Helper()
	w := drawnWorld(t, draw)
	threads := slices.DeleteFunc(idsOf(w), func(id uint64) bool { return of(w, id).Kind != api.KdThread })
	if len(threads) == 0 {
		return
	}
	for range 60 {
		by, d := pick(draw, threads...), drawnDeed(draw, w)
		_, _, wrongs := outcome(w, by, d)
		behind, _, _ := hold(t, w, by, d)
		within(t, w, behind, by, d)
		what := ""
		if len(wrongs) > 0 {
			what = wrongs[0].what
		}
		count.note(names()[d.n], what, 1)
		if t.Failed() {
			t.FailNow()
		}
		w = behind
	}
}

// P21.4: what a thread is given hangs on its own numbers alone: whatever others copy, its next name is the same.
func TestNothingOfOthers(t *testing.T) {
	w := house()
	_, want, _ := hold(t, w, self, copies(root, 10, open, 0, 4))
	for _, d := range []deed{copies(root, 10, open, 1, 4), copies(secretBox, 30, secretBox, 1, 4), put(root, 10, 3, 4), maps(root, 15, 0, 1, 2, 2)} {
		w, _, _ = hold(t, w, owner, d)
		if _, id, err := hold(t, w, self, copies(root, 10, open, 0, 4)); id != want || err != api.OK {
			t.Errorf("behind %v: Id %d, not %d; error %d", d, id, want, err)
		}
	}
}

// deeds are calls of all numbers, those that go well and those that don't, and some that are none.
func deeds() []deed {
	out := []deed{{n: 99}, {n: 24}, {n: 32}, {n: -25}, resize(root, 10, 49), resize(root, 10, top), get(root, 10, 20), put(root, 10, 20, 5), unmap(root, 15, 3), maps(root, 15, 3, 1, 2, 2), maps(root, 15, top, top, top, top), maps(root, 19, 0, 1, 2, 2)}
	for _, s := range []uint64{10, 11, 12, 15, 16, 999} {
		out = append(out, slices.Concat(onSegments(root, s, open), []deed{copies(root, s, fullBox, 0, 4), copies(root, s, open, 4, 4), copies(root, s, open, 0, top)})...)
	}
	for _, x := range []uint64{10, 15, 17, 19, 26, 999} {
		out = append(out, mapping(root, x)...)
	}
	return append(out, unmap(root, 27, 0), resize(root, 13, 0), resize(root, 16, 0))
}

// 0.5: no call changes what it is given; what it tells is new memory, each time, and has no empty list.
func TestNewMemory(t *testing.T) {
	w := fullHouse()
	roomy(&w)
	was := deep(w)
	for _, by := range []uint64{self, owner} {
		for _, d := range deeds() {
			first, value, err, ok := kseg.Do(w, by, d.n, d.a)
			again, valueAgain, errAgain, okAgain := kseg.Do(w, by, d.n, d.a)
			if !reflect.DeepEqual(w, was) {
				t.Fatalf("%v: what it is given is another one", d)
			}
			if !reflect.DeepEqual(first, again) || value != valueAgain || err != errAgain || ok != okAgain {
				t.Errorf("%v: another thing is told the second time", d)
			}
			if emptyLists(first) > 0 {
				t.Errorf("%v: empty lists are told", d)
			}
			if overlap(slices.Concat(stretches(w, false), stretches(first, true), stretches(again, true))) {
				t.Errorf("%v: what is told shares memory", d)
			}
		}
	}
}

// odd are worlds that are not whole.
func odd() map[string]api.World {
	bad := api.Label{{Cat: 9, Lev: 9}, {Cat: 7, Lev: -3}, {Cat: 7, Lev: api.Above}, {Cat: 7, Lev: api.Lev1}}
	all := func(does func(*api.Object)) api.World {
		w := house()
		for n := range w.Objects {
			does(&w.Objects[n])
		}
		return w
	}
	turned, twice := house(), house()
	slices.Reverse(turned.Objects)
	twice.Objects = slices.Concat(twice.Objects, twice.Objects)
	return map[string]api.World{
		"nothing": {}, "from the end": turned, "all twice": twice, "one object": {Objects: []api.Object{thread(self, "-", "-")}},
		"Id 0":            {Objects: []api.Object{thread(0, "-", "-")}},
		"labels":          all(func(o *api.Object) { o.Label, o.Thread.Clear, o.Thread.Labs = bad, bad, [4]api.Label{bad, nil, bad} }),
		"all are threads": all(func(o *api.Object) { o.Kind = api.KdThread }),
		"containers":      all(func(o *api.Object) { o.Kind = api.KdContainer }),
		"no kinds":        all(func(o *api.Object) { o.Kind = -o.Kind }),
		"all link all":    all(func(o *api.Object) { o.Links = []uint64{root, open, 10, 14, 15, self, top} }),
		"quotas":          all(func(o *api.Object) { o.Quota = math.MinInt }),
		"great quotas":    all(func(o *api.Object) { o.Quota = math.MaxInt }),
		"maps": all(func(o *api.Object) {
			o.Maps = []api.Map{{Va: math.MaxInt, N: math.MaxInt, Off: -1}, {Va: -5, N: -5}, {}}
		}),
		"many maps":    all(func(o *api.Object) { o.Maps = slices.Repeat([]api.Map{{Va: 6, N: 9}}, 40) }),
		"many words":   with(house(), 10, func(o *api.Object) { o.Data = make([]uint64, topWords+5) }),
		"one span":     all(func(o *api.Object) { o.Thread.Span = api.Span{Lo: 0, Hi: top} }),
		"turned spans": all(func(o *api.Object) { o.Thread.Span = api.Span{Lo: top, Hi: 0} }),
	}
}

// 0.1: of worlds that are not whole, and of ids that are no thread's, all calls end, none panics or changes what it is given.
func TestOdd(t *testing.T) {
	worlds := odd()
	worlds["whole"] = fullHouse()
	for name, w := range worlds {
		was := deep(w)
		for _, id := range []uint64{0, root, self, owner, 10} {
			for _, d := range deeds() {
				if _, _, _, ok := kseg.Do(w, id, d.n, d.a); ok != (d.n >= 25 && d.n <= 31) {
					t.Errorf("%s: %v: %v", name, d, ok)
				}
			}
		}
		if !reflect.DeepEqual(w, was) {
			t.Errorf("%s: what was handed in is another one", name)
		}
	}
}
