package kthr_test

import (
	"fmt"
	"maps"
	"math"
	"math/bits"
	"math/rand"
	"reflect"
	"slices"
	"testing"

	"curtilage/api"
	"curtilage/kthr"
	"curtilage/obj"
	"curtilage/perm"
	"curtilage/tree"
)

// The containers of the house, and its threads but self.
const (
	open, secretBox, trustedBox, waryBox = 2, 3, 4, 5

	owner, secret, trusted, poor, calm, stirred, crowded, waits = 51, 52, 53, 54, 55, 56, 57, 58
)

// house is a small world: containers that all may see and change, that are secret (7 at 3), trusted (7 at 0) and wary (7 at 2), with things of all kinds that are so, and threads: one without pairs (self), one that owns 7, one at 3 in it, one at 0, one that is cleared for nothing more than it has, those that have no Alerts, 7 and 8, and one that waits.
func house() api.World {
	links := []uint64{open, secretBox, trustedBox, waryBox, 10, 11, 12, 13, 14, 15, 16, 17, 18, 19, self, owner, secret, trusted, poor, calm, stirred, crowded, waits}
	objects := []api.Object{
		box(root, 900, "-", links...),
		words(10, 4, 20, "-"), words(11, 4, 20, "7:3"), words(12, 4, 20, "7:0"), fixed(words(13, 1, 0, "-")),
		device(14, "-", 9, 8), device(15, "-"), device(16, "7:3"), device(17, "7:0"), thing(api.KdSpace, 18, 1, "-"), thing(api.KdGate, 19, 1, "-"),
		box(open, 60, "-", 20, 21, 22, 23, 25, 26), words(20, 4, 17, "-"), device(21, "-"), alerted(thread(22, "-", "7:3"), 3), thread(26, "8:*", "-"),
		box(23, 20, "-", 24), words(24, 3, 16, "-"), words(25, 3, 16, "7:3"),
		box(secretBox, 60, "7:3", 30, 31, 32, 33, 34), words(30, 4, 5, "7:3"), device(31, "7:3"), thread(32, "7:3", "7:3"), thread(33, "7:*", "7:3", "-", "7:3", "7:0", "7:*"), words(34, 1, 0, "7:3"),
		box(trustedBox, 60, "7:0", 40, 41, 42, 43, 44), words(40, 4, 5, "7:0"), words(41, 4, 5, "-"), device(42, "7:0"), thread(43, "7:0", "-"), thread(44, "-", "-"),
		box(waryBox, 60, "7:2", 60), thread(60, "7:*", "7:3", "-", "7:3", "7:2", "7:*"),
		thread(self, "-", "7:3,8:3", "-", "7:3", "7:0", "8:*"), thread(owner, "7:*", "7:3", "-", "7:3", "7:0", "7:*"),
		thread(secret, "7:3", "7:3", "-", "7:3", "7:0", "7:2"), thread(trusted, "7:0", "7:2", "-", "7:3", "7:0", "7:2"),
		thread(poor, "-", "-", "-", "7:3", "7:0", "8:2"), thread(calm, "-", "-"),
		alerted(thread(stirred, "-", "-"), 7), alerted(thread(crowded, "-", "-"), 8), waiting(thread(waits, "-", "8:3", "-", "8:2")),
	}
	return world(objects...)
}

// The worlds of these tests are whole.
func TestWholes(t *testing.T) {
	for name, w := range map[string]api.World{"house": house(), "stage": stage(), "many": many()} {
		if !tree.Fit(w) {
			t.Errorf("%s: the world is not whole", name)
		}
	}
	if n := len(many().Objects); n != topRoot {
		t.Errorf("the world of many has %d objects", n)
	}
}

// Example 1: who makes a category owns it; a label below the own one is ErrLabel; without alerts there is ErrEmpty.
func TestExample(t *testing.T) {
	w := world(box(root, 9, "-", self), thread(self, "7:3", "7:3"))
	behind, cat, err, ok := kthr.Do(w, self, api.CaNewCat, api.Args{})
	if levelOf(of(behind, self).Label, cat) != api.Star || levelOf(of(w, self).Label, cat) != api.Lev1 || err != api.OK || !ok {
		t.Errorf("CaNewCat: %v, error %d, %v", of(behind, self).Label, err, ok)
	}
	if behind, value, err, ok := kthr.Do(w, self, api.CaLabel, api.Args{}); value != 0 || err != api.ErrLabel || !ok || !obj.Same(behind, w) {
		t.Errorf("CaLabel: value %d, error %d, %v", value, err, ok)
	}
	if behind, value, err, ok := kthr.Do(w, self, api.CaTake, api.Args{}); value != 0 || err != api.ErrEmpty || !ok || !obj.Same(behind, w) {
		t.Errorf("CaTake: value %d, error %d, %v", value, err, ok)
	}
}

// isCall tells whether a number is one of these calls.
func isCall(n int) bool { return n >= 1 && n <= 12 || n >= 32 && n <= 39 || n == 43 }

// P22.1: the calls are 1 to 12, 32 to 39 and 43, no others; of others the world is as it was, the value 0, the error none.
func TestNumbers(t *testing.T) {
	w := house()
	numbers := []int{math.MinInt, math.MinInt + 3, math.MinInt32, -1000, 99, 100, 1000, 1 << 8, 1<<8 + 1, 1<<16 + 3, 1 << 32, 1<<32 + api.CaTake, 1<<33 + api.CaWaitDev, math.MaxInt32, math.MaxInt}
	for n := -60; n <= 60; n++ {
		numbers = append(numbers, n)
	}
	for _, n := range numbers {
		for _, a := range []api.Args{{root, 10, 2, 3}, {root, 15, 1}, {root, calm, 5}, {root, calm, 3}, {1, 2, 3}, {}, {top, top, top, top, top, top, top}} {
			behind, value, err, ok := kthr.Do(w, self, n, a)
			if ok != isCall(n) {
				t.Errorf("call %d: %v", n, ok)
			}
			if !ok && (value != 0 || err != api.OK || !obj.Same(behind, w)) {
				t.Errorf("call %d: value %d, error %d, or another world", n, value, err)
			}
		}
	}
	for n := range names() {
		if !isCall(n) {
			t.Errorf("%d is no call", n)
		}
	}
}

// row is a call by a thread, and the error that is written out for it.
type row struct {
	by   uint64
	deed deed
	want api.Errno
}

// holdRows holds rows in a world against what is written out, and against the chapter's words.
func holdRows(t *testing.T, w api.World, rows map[string][]row) {
	t.Helper()
	for name, all := range rows {
		for _, r := range all {
			if _, _, err := hold(t, w, r.by, r.deed); err != r.want {
				t.Errorf("%s: %v by %d: error %d, not %d", name, r.deed, r.by, err, r.want)
			}
		}
	}
}

// each is a row for each of several calls.
func each(by uint64, want api.Errno, deeds ...deed) []row {
	var out []row
	for _, d := range deeds {
		out = append(out, row{by, d, want})
	}
	return out
}

// tells holds a call that goes well against the value that is written out for it, and what it does to the caller; it tells the world behind it.
func tells(t *testing.T, w api.World, by uint64, d deed, value uint64, does func(*api.Object)) api.World {
	t.Helper()
	behind, got, err := hold(t, w, by, d)
	if got != value || err != api.OK {
		t.Errorf("%v by %d: value %d, not %d; error %d", d, by, got, value, err)
	}
	if !obj.Same(behind, with(w, by, does)) {
		t.Errorf("%v by %d: not what is written out", d, by)
	}
	return behind
}

// nothing is done to the caller.
func nothing(*api.Object) {}

// P22.1: the caller's Id and the world's Time, from the least to the greatest.
func TestIdAndTime(t *testing.T) {
	for _, n := range []int{0, 1, 9, 1<<31 - 1, 1 << 32, topTime - 1, topTime} {
		for _, me := range []uint64{2, 3, 1 << 32, 1 << 60, topId - 1, topId} {
			o := thread(7, "-", "-")
			o.Id = me
			w := world(box(root, 9, "-", me), o)
			w.Time = n
			tells(t, w, me, id(), me, nothing)
			tells(t, w, me, time(), uint64(n), nothing)
		}
	}
	for _, by := range []uint64{self, owner, secret, trusted, 32, 43, waits} {
		tells(t, house(), by, id(), by, nothing)
		tells(t, house(), by, time(), 9, nothing)
	}
}

// pairs is a label of so many pairs of a level.
func pairs(n, lev int) api.Label {
	var out api.Label
	for at := range uint64(n) {
		out = append(out, api.Pair{Cat: 1000 + 10*at, Lev: lev})
	}
	return out
}

// labelled is the house with another label and clearance of self.
func labelled(l, clear api.Label) api.World {
	return with(house(), self, func(o *api.Object) { o.Label, o.Thread.Clear = l, clear })
}

// P22.1, P22.3: a new category is owned, and the caller is cleared for it; it is a name of the caller's own numbers, of which one is gone.
func TestNewCat(t *testing.T) {
	for name, w := range map[string]api.World{
		"no pairs":        labelled(nil, nil),
		"15 owned":        labelled(pairs(15, api.Star), nil),
		"15 at 0":         labelled(pairs(15, api.Lev0), pairs(15, api.Lev0)),
		"15 cleared":      labelled(nil, pairs(15, api.Lev3)),
		"15 of both":      labelled(pairs(15, api.Lev2), pairs(15, api.Lev3)),
		"its last number": with(house(), self, func(o *api.Object) { o.Thread.Span.Lo = o.Thread.Span.Hi - 1 }),
		"waiting":         with(house(), self, func(o *api.Object) { *o = waiting(*o) }),
	} {
		was := *of(w, self)
		cat := perm.Name(w.Key, was.Thread.Span.Lo)
		behind := tells(t, w, self, newCat(), cat, func(o *api.Object) {
			o.Label, o.Thread.Clear = leveled(was.Label, cat, api.Star), leveled(was.Thread.Clear, cat, api.Lev3)
			o.Thread.Span.Lo++
		})
		now := *of(behind, self)
		if len(now.Label) != len(was.Label)+1 || len(now.Thread.Clear) != len(was.Thread.Clear)+1 || cat < 1 || cat > topId || perm.Number(w.Key, cat) != was.Thread.Span.Lo {
			t.Errorf("%s: %d: %v, %v", name, cat, now.Label, now.Thread.Clear)
		}
	}
}

// P22.1, P22.2: a Label, a Clear, or both are full, with numbers and without: no number is taken, and that a list is full is told ahead of that.
func TestNewCatErrors(t *testing.T) {
	for name, w := range map[string]api.World{
		"16 owned":   labelled(pairs(16, api.Star), nil),
		"16 cleared": labelled(nil, pairs(16, api.Lev3)),
		"16 of both": labelled(pairs(16, api.Lev2), pairs(16, api.Lev3)),
	} {
		for _, left := range []uint64{0, 1, 9} {
			w = with(w, self, func(o *api.Object) { o.Thread.Span.Lo = o.Thread.Span.Hi - left })
			holdRows(t, w, map[string][]row{name: each(self, api.ErrFull, newCat())})
		}
	}
	for name, w := range map[string]api.World{
		"no pairs":   labelled(nil, nil),
		"15 of both": labelled(pairs(15, api.Lev2), pairs(15, api.Lev3)),
	} {
		for _, span := range []api.Span{{}, {Lo: 5, Hi: 5}, {Lo: topId, Hi: topId}} {
			w = with(w, self, func(o *api.Object) { o.Thread.Span = span })
			holdRows(t, w, map[string][]row{name: each(self, api.ErrSerial, newCat())})
		}
	}
}

// P22.3: as many categories as a label may have, all unlike; all are owned, and cleared for at 3, and there are no more.
func TestNewCats(t *testing.T) {
	for _, key := range []uint64{0, 5, 1 << 63, top} {
		w := house()
		w.Key = key
		var made []uint64
		for range topPairs - 2 {
			behind, cat, err := hold(t, w, self, newCat())
			if err != api.OK || slices.Contains(made, cat) {
				t.Fatalf("%d behind %v: error %d", cat, made, err)
			}
			w, made = behind, append(made, cat)
		}
		for _, cat := range made {
			if o := of(w, self); levelOf(o.Label, cat) != api.Star || levelOf(o.Thread.Clear, cat) != api.Lev3 {
				t.Errorf("%d: %v, %v", cat, o.Label, o.Thread.Clear)
			}
		}
		if _, cat, err := hold(t, w, self, newCat()); cat != 0 || err != api.ErrFull {
			t.Errorf("one more: %d, error %d", cat, err)
		}
	}
}

// P22.1: the last numbers of a Span are taken, none behind them; the first and the last number that there are, by unlike keys.
func TestSpans(t *testing.T) {
	for _, key := range []uint64{0, 5, 1 << 63, top} {
		for _, lo := range []uint64{0, 1, 1 << 60, topId - 2} {
			w := world(box(root, 99, "-", self), thread(self, "-", "-"))
			w.Key = key
			of(w, self).Thread.Span = api.Span{Lo: lo, Hi: lo + 2}
			for n := range uint64(2) {
				behind, cat, err := hold(t, w, self, newCat())
				if err != api.OK || perm.Number(key, cat) != lo+n {
					t.Fatalf("of %d by %d: error %d, %d", lo+n, key, err, cat)
				}
				w = behind
			}
			if _, cat, err := hold(t, w, self, newCat()); cat != 0 || err != api.ErrSerial {
				t.Errorf("the third of %d: %d, error %d", lo, cat, err)
			}
		}
	}
}

// far are numbers behind a last one, and those that would be small ones if they were cut, or came round.
func far(last uint64) []uint64 {
	return []uint64{last + 1, last + 2, last + 16, 255, 256, 257, 65535, 65536, 65537, 1 << 31, 1<<32 - 1, 1 << 32, 1<<32 + 1, 1 << 60, 1 << 63, 1<<63 + 1, top - 1, top}
}

// onRegister are all calls of one label register, each of which goes well if it is one.
func onRegister(k uint64) []deed {
	return []deed{
		labClear(k), labSet(k, 7, 2), labGet(k, 7), labSelf(k), labOf(root, 10, k), labJoin(k, 0), labJoin(0, k), labJoin(k, k), labLeq(k, 0), labLeq(0, k), labLeq(k, k),
	}
}

// P22.1: label registers are 0 to 3; others are ErrArg, ahead of all else that is wrong.
func TestRegisters(t *testing.T) {
	w := house()
	rows := map[string][]row{}
	for k := range uint64(4) {
		rows["0 to 3"] = append(rows["0 to 3"], each(self, api.OK, onRegister(k)...)...)
	}
	for _, k := range far(3) {
		rows["others"] = append(rows["others"], each(self, api.ErrArg, append(onRegister(k), label(k), clearTo(k))...)...)
		wrong := []deed{labSet(k, 7, 5), labSet(k, 7, top), labSet(k, 4000, 3)}
		for _, d := range []uint64{root, secretBox, 999, 10} {
			wrong = append(wrong, labOf(d, 10, k), labOf(d, 11, k), labOf(d, 30, k), labOf(d, 999, k), labOf(d, top, k))
		}
		for _, j := range append(far(3), 0, 1, 2, 3) {
			wrong = append(wrong, labJoin(k, j), labJoin(j, k), labLeq(k, j), labLeq(j, k))
		}
		rows["ahead of all"] = append(rows["ahead of all"], each(self, api.ErrArg, wrong...)...)
	}
	holdRows(t, w, rows)
	full := with(w, self, func(o *api.Object) {
		o.Thread.Labs = [4]api.Label{pairs(16, api.Lev3), pairs(16, api.Lev0), lab("7:3"), nil}
	})
	holdRows(t, full, map[string][]row{"full ones": each(self, api.ErrArg, labSet(4, 7, 3), labJoin(0, 4), labJoin(4, 0), labJoin(top, 2), label(4), clearTo(4))})
}

// P22.1: of each call that sets a register it is that one that is another one, the other three stay.
func TestEachRegister(t *testing.T) {
	labs := [4]api.Label{lab("7:2"), lab("8:2"), lab("7:0,8:3"), lab("9:*")}
	w := with(house(), self, func(o *api.Object) { o.Thread.Labs, o.Label = labs, lab("5:*,7:*") })
	for k := range uint64(4) {
		for _, r := range []struct {
			deed deed
			want api.Label
		}{
			{labClear(k), nil}, {labSelf(k), lab("5:*,7:*")}, {labOf(root, owner, k), lab("7:*")}, {labSet(k, 8, 4), leveled(labs[k], 8, api.Lev3)},
			{labJoin(k, (k+1)%4), joined(labs[k], labs[(k+1)%4])}, {labJoin(k, k), labs[k]},
		} {
			tells(t, w, self, r.deed, 0, func(o *api.Object) { o.Thread.Labs[k] = r.want })
		}
		tells(t, w, self, labGet(k, 8), uint64(levelOf(labs[k], 8)), nothing)
	}
}

// P22.1: a category is set to each level, where the register has it and where not, ahead of, between and behind others; got back it is that, all others stay.
func TestLabSet(t *testing.T) {
	for _, l := range []api.Label{nil, lab("7:3"), lab("7:*"), lab("5:0,7:2,9:3"), pairs(15, api.Lev0), leveled(pairs(15, api.Lev2), 7, api.Lev3)} {
		w := with(house(), self, func(o *api.Object) { o.Thread.Labs[2] = l })
		for _, cat := range []uint64{0, 1, 5, 6, 7, 8, 9, 10, 1000, 1140, 1<<32 + 7, 1 << 63, top} {
			if len(l) == topPairs && levelOf(l, cat) == api.Lev1 {
				continue
			}
			for lev := range 5 {
				behind := tells(t, w, self, labSet(2, cat, uint64(lev)), 0, func(o *api.Object) { o.Thread.Labs[2] = leveled(l, cat, lev) })
				tells(t, behind, self, labGet(2, cat), uint64(lev), nothing)
				for _, other := range []uint64{7, 9, 1010, 1<<32 + 8} {
					if other != cat {
						tells(t, behind, self, labGet(2, other), uint64(levelOf(l, other)), nothing)
					}
				}
			}
		}
	}
}

// P22.1: levels above 4 are ErrArg, whatever they would be if they were cut.
func TestLabSetLevels(t *testing.T) {
	for _, l := range []api.Label{nil, lab("7:3"), pairs(16, api.Lev3)} {
		w := with(house(), self, func(o *api.Object) { o.Thread.Labs[0] = l })
		var rows []row
		for _, lev := range far(4) {
			for _, cat := range []uint64{0, 7, 1000, 4000, top} {
				rows = append(rows, row{self, labSet(0, cat, lev), api.ErrArg})
			}
		}
		holdRows(t, w, map[string][]row{"levels": rows})
	}
}

// P22.1: in a register with 16 pairs a category that it has can be set, one that it hasn't to 1 alone, which is no pair; with 15 any.
func TestLabSetFull(t *testing.T) {
	full := with(house(), self, func(o *api.Object) { o.Thread.Labs = [4]api.Label{pairs(16, api.Lev3), pairs(15, api.Lev3)} })
	rows := map[string][]row{}
	for _, lev := range []uint64{0, 1, 2, 3, 4} {
		for _, cat := range []uint64{1000, 1070, 1150} {
			rows["one that it has"] = append(rows["one that it has"], row{self, labSet(0, cat, lev), api.OK})
		}
		for _, cat := range []uint64{0, 7, 999, 1001, 1151, 4000, top} {
			if lev == 2 {
				rows["1"] = append(rows["1"], row{self, labSet(0, cat, lev), api.OK})
			} else {
				rows["one more"] = append(rows["one more"], row{self, labSet(0, cat, lev), api.ErrFull})
			}
			rows["the 16th"] = append(rows["the 16th"], row{self, labSet(1, cat, lev), api.OK})
		}
	}
	holdRows(t, full, rows)
	w := tells(t, full, self, labSet(0, 1000, 2), 0, func(o *api.Object) { o.Thread.Labs[0] = o.Thread.Labs[0][1:] })
	w = tells(t, w, self, labSet(0, 7, 0), 0, func(o *api.Object) { o.Thread.Labs[0] = leveled(o.Thread.Labs[0], 7, api.Star) })
	holdRows(t, w, map[string][]row{"full again": each(self, api.ErrFull, labSet(0, 1000, 3))})
}

// P22.1: a register's levels, each as it stands, 1 where the label says nothing.
func TestLabGet(t *testing.T) {
	w := with(house(), self, func(o *api.Object) {
		o.Thread.Labs = [4]api.Label{nil, lab("0:*,5:0,7:2,9:3"), {{Cat: 1 << 40, Lev: api.Lev2}, {Cat: top, Lev: api.Lev3}}, pairs(16, api.Lev0)}
	})
	for _, r := range []struct{ k, cat, want uint64 }{
		{0, 0, 2}, {0, 7, 2}, {0, top, 2}, {1, 0, 0}, {1, 5, 1}, {1, 7, 3}, {1, 9, 4}, {1, 1, 2}, {1, 6, 2}, {1, 8, 2}, {1, 10, 2}, {1, 1<<32 + 5, 2}, {1, top, 2},
		{2, 1 << 40, 3}, {2, top, 4}, {2, 0, 2}, {2, top - 1, 2}, {3, 1000, 1}, {3, 1150, 1}, {3, 1005, 2}, {3, 1160, 2},
	} {
		tells(t, w, self, labGet(r.k, r.cat), r.want, nothing)
	}
}

// P22.1: a register has no pairs, whatever it had; it has those of the caller's Label, what that owns too.
func TestLabClearAndSelf(t *testing.T) {
	for _, l := range []api.Label{nil, lab("7:*"), lab("7:0,9:2"), pairs(16, api.Star), pairs(16, api.Lev3)} {
		w := labelled(l, joined(l, nil))
		for _, was := range []api.Label{nil, lab("5:*"), pairs(16, api.Lev0)} {
			w = with(w, self, func(o *api.Object) { o.Thread.Labs = [4]api.Label{was, was, was, was} })
			for k := range uint64(4) {
				tells(t, w, self, labClear(k), 0, func(o *api.Object) { o.Thread.Labs[k] = nil })
				tells(t, w, self, labSelf(k), 0, func(o *api.Object) { o.Thread.Labs[k] = l })
			}
		}
	}
}

// P22.1: the label of things of each kind that the caller may see, of a thread what it owns, too; it need not be one that the caller may change.
func TestLabOf(t *testing.T) {
	for _, r := range []struct {
		by, d, o uint64
		want     string
	}{
		{self, root, 10, "-"}, {self, root, 12, "7:0"}, {self, root, 13, "-"}, {self, root, 14, "-"}, {self, root, 17, "7:0"}, {self, root, 18, "-"}, {self, root, 19, "-"},
		{self, root, open, "-"}, {self, root, trustedBox, "7:0"}, {self, root, self, "-"}, {self, root, calm, "-"}, {self, root, trusted, "7:0"}, {self, open, 23, "-"}, {self, 23, 24, "-"},
		{self, trustedBox, 40, "7:0"}, {self, trustedBox, 41, "-"}, {self, trustedBox, 43, "7:0"}, {self, trustedBox, 44, "-"},
		{secret, root, 10, "-"}, {secret, root, 11, "7:3"}, {secret, root, secret, "7:3"}, {secret, secretBox, 30, "7:3"}, {secret, secretBox, 32, "7:3"}, {secret, root, waryBox, "7:2"}, {secret, root, secretBox, "7:3"},
		{owner, root, owner, "7:*"}, {owner, root, 11, "7:3"}, {owner, root, trusted, "7:0"}, {owner, secretBox, 33, "7:*"}, {owner, waryBox, 60, "7:*"}, {trusted, trustedBox, 43, "7:0"}, {trusted, trustedBox, 42, "7:0"},
	} {
		for _, k := range []uint64{0, 1, 3} {
			tells(t, house(), r.by, labOf(r.d, r.o, k), 0, func(o *api.Object) { o.Thread.Labs[k] = lab(r.want) })
		}
	}
}

// P22.1: the label of what may not be seen is not told, of a thread that owns what the caller doesn't either.
func TestLabOfUnseen(t *testing.T) {
	holdRows(t, house(), map[string][]row{
		"secret":                      each(self, api.ErrLabel, labOf(root, 11, 0), labOf(root, 16, 0), labOf(root, secret, 0), labOf(root, secretBox, 0), labOf(root, waryBox, 0), labOf(open, 25, 0)),
		"owning":                      each(self, api.ErrLabel, labOf(root, owner, 0), labOf(open, 26, 0)),
		"owning, for a secret thread": each(secret, api.ErrLabel, labOf(root, owner, 1), labOf(secretBox, 33, 1), labOf(waryBox, 60, 1), labOf(open, 26, 1)),
		"owning another one":          each(owner, api.ErrLabel, labOf(open, 26, 2)),
		"not trusted":                 each(trusted, api.ErrLabel, labOf(trustedBox, 41, 0), labOf(trustedBox, 44, 0)),
	})
}

// P22.1: joins of labels, of a register with itself, of 16 pairs and of 17, of more whose levels cancel pairs, in either order.
func TestLabJoin(t *testing.T) {
	more := func(n int, cat uint64, lev int) api.Label { return leveled(pairs(n, api.Lev3), cat, lev) }
	for _, r := range []struct {
		a, b api.Label
		want api.Errno
	}{
		{nil, nil, api.OK}, {lab("7:3"), nil, api.OK}, {lab("7:0"), nil, api.OK}, {lab("7:*"), lab("7:0"), api.OK}, {lab("7:*"), lab("7:*"), api.OK}, {lab("7:2"), lab("7:3"), api.OK}, {lab("7:0,9:3"), lab("8:2,9:*"), api.OK},
		{pairs(16, api.Lev3), nil, api.OK}, {pairs(16, api.Lev3), pairs(16, api.Star), api.OK}, {pairs(15, api.Lev3), lab("7:3"), api.OK}, {pairs(15, api.Lev2), lab("7:2"), api.OK},
		{pairs(16, api.Lev3), lab("7:3"), api.ErrFull}, {pairs(16, api.Lev2), lab("7:2"), api.ErrFull}, {more(15, 7, api.Lev3), lab("8:3"), api.ErrFull}, {pairs(15, api.Lev3), lab("7:3,8:3"), api.ErrFull}, {more(15, 4000, api.Lev2), more(15, 5000, api.Lev2), api.ErrFull},
		{pairs(16, api.Lev3), lab("7:0"), api.OK}, {pairs(16, api.Lev3), lab("7:*"), api.OK}, {pairs(16, api.Lev0), lab("7:3"), api.OK}, {pairs(16, api.Star), lab("7:3,8:3"), api.OK}, {more(15, 4000, api.Lev0), more(15, 5000, api.Star), api.OK},
		{pairs(16, api.Lev3), lab("7:0,8:3"), api.ErrFull}, {more(14, 7, api.Lev0), lab("8:3,9:3"), api.OK}, {more(14, 7, api.Lev0), lab("8:3,9:3,10:3"), api.ErrFull},
	} {
		w := with(house(), self, func(o *api.Object) { o.Thread.Labs = [4]api.Label{r.a, lab("5:*"), r.b, r.b} })
		holdRows(t, w, map[string][]row{"of two": each(self, r.want, labJoin(0, 2), labJoin(2, 0), labJoin(3, 0)), "with itself": each(self, api.OK, labJoin(0, 0), labJoin(3, 3), labJoin(3, 2))})
		if r.want == api.OK {
			tells(t, w, self, labJoin(0, 2), 0, func(o *api.Object) { o.Thread.Labs[0] = joined(r.a, r.b) })
		}
	}
}

// P22.1: of equal labels, of a lower, a higher, and of ones that can't be compared.
func TestLabLeq(t *testing.T) {
	for _, r := range []struct {
		a, b         string
		ahead, after uint64
	}{
		{"-", "-", 1, 1}, {"7:3", "7:3", 1, 1}, {"7:*,9:2", "7:*,9:2", 1, 1}, {"-", "7:2", 1, 0}, {"7:0", "-", 1, 0}, {"7:*", "-", 1, 0}, {"7:*", "7:0", 1, 0}, {"7:2", "7:3", 1, 0}, {"7:0", "7:3", 1, 0},
		{"7:0", "9:3", 1, 0}, {"7:0,9:*", "7:2", 1, 0}, {"7:3", "9:3", 0, 0}, {"7:0", "9:0", 0, 0}, {"7:3,9:0", "-", 0, 0}, {"7:3,9:2", "7:2,9:3", 0, 0}, {"7:*", "9:*", 0, 0},
	} {
		w := with(house(), self, func(o *api.Object) { o.Thread.Labs = [4]api.Label{lab("5:3"), lab(r.a), lab(r.b), lab(r.a)} })
		tells(t, w, self, labLeq(1, 2), r.ahead, nothing)
		tells(t, w, self, labLeq(2, 1), r.after, nothing)
		tells(t, w, self, labLeq(2, 3), r.after, nothing)
		for _, k := range []uint64{0, 1, 2, 3} {
			tells(t, w, self, labLeq(k, k), 1, nothing)
		}
	}
}

// home is a Root with a container in which a thread lies, all with labels, a clearance, and a register that has one.
func home(d, l, clear, n api.Label, k uint64) api.World {
	me, in := thread(self, "-", "-", "5:3", "5:3", "5:3", "5:3"), box(2, 9, "-", self)
	me.Label, me.Thread.Clear, in.Label = l, clear, d
	me.Thread.Labs[k] = n
	outer := box(root, 20, "-", 2)
	outer.Label = d
	return world(outer, me, in)
}

// oneLevel is a label of one category.
func oneLevel(lev int) api.Label { return leveled(nil, 7, lev) }

// P22.1, P22.3: all levels of a category in the caller's Label, its Clear, the register, and the container that it lies in.
func TestLabelLevels(t *testing.T) {
	counts := map[api.Errno]int{}
	for l := range 5 {
		for clear := l; clear < 5; clear++ {
			for n := range 5 {
				for d := 1; d < 5; d++ {
					k := uint64(n+d) % 4
					w := home(oneLevel(d), oneLevel(l), oneLevel(clear), oneLevel(n), k)
					if !tree.Fit(w) {
						continue
					}
					want := api.OK
					if n < l || n > clear || d > max(raised(n), api.Lev1) {
						want = api.ErrLabel
					}
					counts[want]++
					behind, _, err := hold(t, w, self, label(k))
					if err != want || err == api.OK && levelOf(of(behind, self).Label, 7) != n {
						t.Errorf("from %d to %d, cleared for %d, in %d: error %d, not %d", l, n, clear, d, err, want)
					}
				}
			}
		}
	}
	if counts[api.OK] < 50 || counts[api.ErrLabel] < 50 {
		t.Errorf("%v", counts)
	}
}

// P22.1: all levels of a category in the caller's Label, its Clear, and the register.
func TestClearLevels(t *testing.T) {
	for l := range 5 {
		for clear := l; clear < 5; clear++ {
			for n := range 5 {
				k := uint64(n+l) % 4
				w := home(nil, oneLevel(l), oneLevel(clear), oneLevel(n), k)
				want := api.OK
				if n < l || n > max(clear, raised(l)) {
					want = api.ErrLabel
				}
				behind, _, err := hold(t, w, self, clearTo(k))
				if err != want || err == api.OK && levelOf(of(behind, self).Thread.Clear, 7) != n {
					t.Errorf("by %d from %d to %d: error %d, not %d", l, clear, n, err, want)
				}
			}
		}
	}
}

// P22.1: labels that threads may become: the own one, above it, below it, above the Clear, owning what the thread does and doesn't, and such as the container may not have.
func TestLabel(t *testing.T) {
	holdRows(t, house(), map[string][]row{
		"the own one":                         slices.Concat(each(self, api.OK, label(0)), each(owner, api.OK, label(3)), each(secret, api.OK, label(1)), each(trusted, api.OK, label(2)), each(poor, api.OK, label(0))),
		"above it":                            slices.Concat(each(self, api.OK, label(1)), each(owner, api.OK, label(0), label(1), label(2)), each(trusted, api.OK, label(0), label(3)), each(waits, api.OK, label(1))),
		"below it":                            slices.Concat(each(self, api.ErrLabel, label(2)), each(secret, api.ErrLabel, label(0), label(2), label(3)), each(poor, api.ErrLabel, label(2))),
		"above the Clear":                     slices.Concat(each(poor, api.ErrLabel, label(1), label(3)), each(trusted, api.ErrLabel, label(1))),
		"owning what the thread does not":     slices.Concat(each(self, api.ErrLabel, label(3))),
		"as the container may":                slices.Concat(each(33, api.OK, label(1), label(3)), each(60, api.OK, label(1), label(2), label(3))),
		"as the container may not":            slices.Concat(each(33, api.ErrLabel, label(0), label(2)), each(60, api.ErrLabel, label(0))),
		"a register that has never been told": each(waits, api.OK, label(0), label(2), label(3)),
	})
	w := with(house(), self, func(o *api.Object) {
		o.Thread.Labs = [4]api.Label{lab("7:3,9:2"), lab("7:3,8:3"), lab("7:2,8:*"), lab("7:3,9:0")}
	})
	holdRows(t, w, map[string][]row{
		"one above, one above the Clear": each(self, api.ErrLabel, label(0)), "as much as the Clear": each(self, api.OK, label(1)),
		"one above, one owned": each(self, api.ErrLabel, label(2)), "one above, one below": each(self, api.ErrLabel, label(3)),
	})
	tells(t, w, self, label(1), 0, func(o *api.Object) { o.Label = lab("7:3,8:3") })
}

// P22.1: clearances: below the Label, above the Clear, and above it in what the thread owns.
func TestClear(t *testing.T) {
	holdRows(t, house(), map[string][]row{
		"at least the Label": slices.Concat(each(self, api.OK, clearTo(0), clearTo(1)), each(secret, api.OK, clearTo(1)), each(trusted, api.OK, clearTo(0), clearTo(2), clearTo(3)), each(poor, api.OK, clearTo(0)), each(owner, api.OK, clearTo(0), clearTo(1), clearTo(2), clearTo(3))),
		"below the Label":    slices.Concat(each(self, api.ErrLabel, clearTo(2), clearTo(3)), each(secret, api.ErrLabel, clearTo(0), clearTo(2), clearTo(3)), each(poor, api.ErrLabel, clearTo(2))),
		"above the Clear":    slices.Concat(each(poor, api.ErrLabel, clearTo(1), clearTo(3)), each(trusted, api.ErrLabel, clearTo(1))),
	})
	w := with(house(), owner, func(o *api.Object) {
		o.Thread.Clear = lab("7:*")
		o.Thread.Labs = [4]api.Label{lab("7:3"), lab("7:3,8:2"), lab("7:3,8:0"), lab("7:0")}
	})
	holdRows(t, w, map[string][]row{"owned": each(owner, api.OK, clearTo(0), clearTo(3)), "owned, and another one": each(owner, api.ErrLabel, clearTo(1), clearTo(2))})
	tells(t, w, owner, clearTo(0), 0, func(o *api.Object) { o.Thread.Clear = lab("7:3") })
	cleared := tells(t, house(), self, clearTo(0), 0, func(o *api.Object) { o.Thread.Clear = nil })
	holdRows(t, cleared, map[string][]row{"once given up it is gone": each(self, api.ErrLabel, clearTo(1), label(1))})
}

// P22.1: a Space is any name, whatever it names, a Handler and a Vector any number.
func TestSettings(t *testing.T) {
	for _, state := range []int{api.ThRun, api.ThWait, api.ThHalt} {
		w := with(house(), self, func(o *api.Object) {
			if o.Thread.State = state; state == api.ThWait {
				*o = waiting(*o)
			}
		})
		for _, n := range []uint64{0, 1, 2, 77, 1 << 32, topId, topId + 1, 1 << 63, top - 1, top} {
			tells(t, w, self, handler(n), 0, func(o *api.Object) { o.Thread.Handler = n })
			tells(t, w, self, vector(n), 0, func(o *api.Object) { o.Thread.Vector = n })
			for _, x := range []uint64{0, 10, 18, 30, 999, topId, top, n} {
				tells(t, w, self, space(n, x), 0, func(o *api.Object) { o.Thread.Space = api.Ref{Cont: n, Id: x} })
				tells(t, w, self, space(x, n), 0, func(o *api.Object) { o.Thread.Space = api.Ref{Cont: x, Id: n} })
			}
		}
	}
	rows := each(self, api.OK, space(root, 18), space(root, 10), space(secretBox, 30), space(999, 999), space(0, 0))
	holdRows(t, house(), map[string][]row{"spaces": slices.Concat(rows, each(trusted, api.OK, space(root, 18), handler(3), vector(4)))})
}

// P22.1, P22.2: who yields stays as it is; who halts waits for nothing any more.
func TestYieldAndHalt(t *testing.T) {
	for _, state := range []int{api.ThRun, api.ThWait, api.ThHalt} {
		w := with(house(), self, func(o *api.Object) {
			if o.Thread.State = state; state == api.ThWait {
				*o = waiting(*o)
			}
		})
		tells(t, w, self, yield(), 0, nothing)
		tells(t, w, self, halt(), 0, func(o *api.Object) { o.Thread.State, o.Thread.Wait = api.ThHalt, api.Wait{} })
	}
}

// waitsFor lets a thread wait.
func waitsFor(what api.Wait) func(*api.Object) {
	return func(o *api.Object) { o.Thread.State, o.Thread.Wait = api.ThWait, what }
}

// P22.1: for each word from the first to the last: who says what is there waits, by that name, place and word; who says another one goes on as it is.
func TestWait(t *testing.T) {
	for _, r := range []struct{ by, d, s uint64 }{{self, root, 10}, {self, root, 12}, {self, 23, 24}, {self, trustedBox, 41}, {secret, secretBox, 30}, {secret, root, 11}, {owner, open, 25}, {trusted, trustedBox, 40}} {
		for _, was := range []func(*api.Object){nothing, func(o *api.Object) { *o = waiting(*o) }, func(o *api.Object) { o.Thread.State = api.ThHalt }} {
			w := with(house(), r.by, was)
			data := of(w, r.s).Data
			for at, v := range data {
				i := uint64(at)
				tells(t, w, r.by, wait(r.d, r.s, i, v), 0, waitsFor(api.Wait{Ref: api.Ref{Cont: r.d, Id: r.s}, Index: i, Val: v}))
				for _, other := range []uint64{0, v + 1, v - 1, v + 1<<32, v &^ 7, ^v, top, data[(at+1)%len(data)]} {
					tells(t, w, r.by, wait(r.d, r.s, i, other), 0, nothing)
				}
			}
			var rows []row
			for _, at := range append(far(uint64(len(data))-1), 1<<32+uint64(len(data))-1) {
				rows = append(rows, each(r.by, api.ErrRange, wait(r.d, r.s, at, 0), wait(r.d, r.s, at, data[0]), wait(r.d, r.s, at, top))...)
			}
			holdRows(t, w, map[string][]row{"past its end": rows})
		}
	}
	holdRows(t, house(), map[string][]row{"without words": slices.Concat(each(self, api.ErrRange, wait(root, 13, 0, 0), wait(root, 13, top, 0)), each(secret, api.ErrRange, wait(secretBox, 34, 0, 0)))})
}

// P22.1: a word that is 0, and the greatest one, are waited for like any other.
func TestWaitWords(t *testing.T) {
	w := with(house(), 10, func(o *api.Object) { o.Data = []uint64{0, top, 1, 1 << 63} })
	for at, v := range of(w, 10).Data {
		for _, other := range of(w, 10).Data {
			does := nothing
			if other == v {
				does = waitsFor(api.Wait{Ref: api.Ref{Cont: root, Id: 10}, Index: uint64(at), Val: v})
			}
			tells(t, w, self, wait(root, 10, uint64(at), other), 0, does)
		}
	}
}

// P22.1: who waits for a device that has words goes on as it is; for one that has none it waits, by that name alone, whatever was put out.
func TestWaitDev(t *testing.T) {
	for _, was := range []func(*api.Object){nothing, func(o *api.Object) { *o = waiting(*o) }, func(o *api.Object) { o.Thread.State = api.ThHalt }} {
		for _, r := range []struct{ by, d, x uint64 }{{self, root, 15}, {self, root, 17}, {self, open, 21}, {self, trustedBox, 42}, {secret, root, 16}, {secret, secretBox, 31}, {owner, root, 16}, {trusted, trustedBox, 42}} {
			w := with(house(), r.by, was)
			tells(t, w, r.by, waitDev(r.d, r.x), 0, waitsFor(api.Wait{Ref: api.Ref{Cont: r.d, Id: r.x}, Dev: true}))
			silent := with(w, r.x, func(o *api.Object) { o.Out = nil })
			tells(t, silent, r.by, waitDev(r.d, r.x), 0, waitsFor(api.Wait{Ref: api.Ref{Cont: r.d, Id: r.x}, Dev: true}))
			for _, in := range [][]uint64{{0}, {5}, {1, 2, 3}, make([]uint64, 64)} {
				tells(t, with(w, r.x, func(o *api.Object) { o.In = in }), r.by, waitDev(r.d, r.x), 0, nothing)
			}
		}
	}
}

// P22.1: an alert comes behind those that are there, up to the eighth; the ninth is ErrFull. It may be any word, and one may alert oneself.
func TestAlert(t *testing.T) {
	for _, r := range []struct{ by, d, o uint64 }{{self, root, calm}, {self, root, self}, {self, open, 22}, {self, trustedBox, 44}, {owner, root, trusted}, {owner, root, owner}, {owner, secretBox, 33}, {secret, root, secret}, {secret, secretBox, 32}, {trusted, trustedBox, 43}} {
		w := with(house(), r.o, func(o *api.Object) { o.Thread.Alerts = nil })
		for n := range uint64(topAlerts) {
			v := []uint64{0, 5, 5, top, 1 << 63, 1 << 32, 0, 7}[n]
			behind, value, err := hold(t, w, r.by, alert(r.d, r.o, v))
			want := with(w, r.o, func(o *api.Object) { o.Thread.Alerts = append(o.Thread.Alerts, v) })
			if value != 0 || err != api.OK || !obj.Same(behind, want) || len(of(behind, r.o).Thread.Alerts) != int(n)+1 {
				t.Errorf("%d of %d: value %d, error %d: %v", n, r.o, value, err, of(behind, r.o).Thread.Alerts)
			}
			w = behind
		}
		holdRows(t, w, map[string][]row{"the ninth": each(r.by, api.ErrFull, alert(r.d, r.o, 0), alert(r.d, r.o, 9), alert(r.d, r.o, top))})
	}
	holdRows(t, house(), map[string][]row{"with 7": each(self, api.OK, alert(root, stirred, 3)), "with 8": each(self, api.ErrFull, alert(root, crowded, 3)), "who waits": each(self, api.OK, alert(root, waits, 3))})
}

// P22.1, P22.4: threads that the caller may not see, and that it may see and not change: a thread that owns what the caller doesn't is not seen, one that is more trusted not changed.
func TestAlertLabels(t *testing.T) {
	holdRows(t, house(), map[string][]row{
		"secret":                    each(self, api.ErrLabel, alert(root, secret, 3)),
		"owning":                    each(self, api.ErrLabel, alert(root, owner, 3), alert(open, 26, 3)),
		"trusted":                   each(self, api.ErrLabel, alert(root, trusted, 3), alert(trustedBox, 43, 3)),
		"by a secret thread":        each(secret, api.ErrLabel, alert(root, self, 3), alert(root, calm, 3), alert(root, owner, 3), alert(secretBox, 33, 3), alert(root, crowded, 3)),
		"by a trusted thread":       each(trusted, api.ErrLabel, alert(trustedBox, 44, 3)),
		"by an owner":               each(owner, api.OK, alert(root, self, 3), alert(root, secret, 3), alert(root, trusted, 3), alert(secretBox, 32, 3), alert(secretBox, 33, 3), alert(waryBox, 60, 3), alert(trustedBox, 43, 3)),
		"by one of something else":  each(26, api.ErrLabel, alert(root, owner, 3), alert(root, secret, 3), alert(root, trusted, 3)),
		"of something that it owns": each(26, api.OK, alert(open, 26, 3), alert(root, self, 3), alert(root, calm, 3)),
		"clearance plays no part":   each(poor, api.OK, alert(root, self, 3), alert(open, 22, 3)),
	})
}

// P22.1: the alerts are taken one by one, the first one first; when there are none any more, ErrEmpty.
func TestTake(t *testing.T) {
	for n := range topAlerts + 1 {
		w := with(house(), self, func(o *api.Object) { *o = alerted(*o, uint64(n)) })
		for _, v := range of(w, self).Thread.Alerts {
			w = tells(t, w, self, take(), v, func(o *api.Object) { o.Thread.Alerts = o.Thread.Alerts[1:] })
		}
		if l := of(w, self).Thread.Alerts; l != nil {
			t.Errorf("there are %v", l)
		}
		holdRows(t, w, map[string][]row{"none": each(self, api.ErrEmpty, take())})
	}
	w := with(house(), self, func(o *api.Object) { o.Thread.Alerts = []uint64{0, 0, top} })
	for _, v := range []uint64{0, 0, top} {
		w = tells(t, w, self, take(), v, func(o *api.Object) { o.Thread.Alerts = o.Thread.Alerts[1:] })
	}
	for _, by := range []uint64{trusted, 33, 43} {
		w := with(house(), by, func(o *api.Object) { *o = alerted(*o, 2) })
		tells(t, w, by, take(), by<<8, func(o *api.Object) { o.Thread.Alerts = o.Thread.Alerts[1:] })
	}
}

// naming are all calls of a name.
func naming(d, o uint64) []deed {
	return []deed{labOf(d, o, 0), labOf(d, o, 3), wait(d, o, 0, 0), wait(d, o, top, 0), waitDev(d, o), alert(d, o, 3)}
}

// P22.1: what lies nowhere, lies elsewhere, is named in what is no container, or in what is hidden.
func TestNowhere(t *testing.T) {
	rows := map[string][]row{}
	for _, r := range []struct{ d, id uint64 }{
		{root, 999}, {root, 0}, {root, top}, {root, root}, {root, 20}, {root, 22}, {root, 30}, {open, 10}, {open, open}, {open, 24}, {open, self}, {open, 15}, {10, 10}, {18, 18},
		{14, 10}, {self, self}, {self, 10}, {999, 10}, {0, 0}, {0, 10}, {top, top}, {topId, 10}, {topId + 1, 10}, {1<<32 + root, 10}, {root, 1<<32 + 10}, {root, 1<<63 + 10},
	} {
		rows["nowhere"] = append(rows["nowhere"], each(self, api.ErrName, naming(r.d, r.id)...)...)
	}
	rows["in what is hidden"] = each(self, api.ErrName, slices.Concat(naming(secretBox, 30), naming(secretBox, 31), naming(secretBox, 32), naming(secretBox, 33), naming(secretBox, 999), naming(waryBox, 60))...)
	rows["all that is not trusted is hidden from who is"] = each(trusted, api.ErrName, slices.Concat(naming(root, 12), naming(root, 17), naming(root, trusted), naming(open, 20), naming(open, 22))...)
	holdRows(t, house(), rows)
}

// P22.1: what is of another kind, also where it may not be seen: the kind is told ahead of that. A label is told of any kind.
func TestKinds(t *testing.T) {
	rows := map[string][]row{}
	all := []uint64{10, 11, 12, 13, 14, 15, 16, 17, 18, 19, open, secretBox, trustedBox, self, owner, secret, trusted, crowded}
	w := house()
	for _, id := range all {
		for _, by := range []uint64{self, owner, secret} {
			if of(w, id).Kind != api.KdSegment {
				rows["no segment"] = append(rows["no segment"], each(by, api.ErrKind, wait(root, id, 0, 0), wait(root, id, top, 5))...)
			}
			if of(w, id).Kind != api.KdDevice {
				rows["no device"] = append(rows["no device"], each(by, api.ErrKind, waitDev(root, id))...)
			}
			if of(w, id).Kind != api.KdThread {
				rows["no thread"] = append(rows["no thread"], each(by, api.ErrKind, alert(root, id, 0))...)
			}
		}
	}
	holdRows(t, w, rows)
}

// P22.1: what may not be seen is not waited for; what may be seen is, whether or not it may be changed.
func TestWaitLabels(t *testing.T) {
	holdRows(t, house(), map[string][]row{
		"not to be seen":                         each(self, api.ErrLabel, wait(root, 11, 0, 0), wait(root, 11, top, 0), wait(open, 25, 0, 0), waitDev(root, 16)),
		"to be seen alone":                       each(self, api.OK, wait(root, 12, 0, 0), wait(trustedBox, 40, 0, 0), waitDev(root, 17), waitDev(trustedBox, 42)),
		"a secret thread sees all":               each(secret, api.OK, wait(root, 10, 0, 0), wait(root, 11, 0, 0), wait(root, 12, 0, 0), waitDev(root, 15), waitDev(root, 16), waitDev(root, 17)),
		"an owner sees all":                      each(owner, api.OK, wait(root, 10, 0, 0), wait(root, 11, 0, 0), wait(root, 12, 0, 0), waitDev(root, 15), waitDev(root, 16), waitDev(root, 17)),
		"a trusted thread, what is trusted":      each(trusted, api.OK, wait(trustedBox, 40, 0, 0), waitDev(trustedBox, 42)),
		"a trusted thread, what is not trusted":  each(trusted, api.ErrLabel, wait(trustedBox, 41, 0, 0)),
		"what an owner of something else may do": each(26, api.ErrLabel, wait(root, 11, 0, 0), waitDev(root, 16)),
	})
}

// many is a Root of the greatest Quota with as many objects as there can be: containers of gates, and a thread in the last one.
func many() api.World {
	top := box(root, topRoot, "-")
	var objects []api.Object
	next := uint64(1000)
	for left := topRoot - 1; left > 0; {
		d := box(next, 0, "-")
		n := min(left-1, 60)
		for at := range uint64(n) {
			d.Links = append(d.Links, next+1+at)
			objects = append(objects, thing(api.KdGate, next+1+at, 1, "-"))
		}
		d.Quota = 1 + n
		top.Links = append(top.Links, d.Id)
		objects = append(objects, d)
		next, left = next+1000, left-d.Quota
	}
	objects[len(objects)-2] = thread(objects[len(objects)-2].Id, "-", "7:3", "-", "7:3")
	return world(append([]api.Object{top}, objects...)...)
}

// P22.1: a thread in the greatest world, in one container of many.
func TestMany(t *testing.T) {
	w := many()
	at := slices.IndexFunc(w.Objects, func(o api.Object) bool { return o.Kind == api.KdThread })
	me := w.Objects[at].Id
	holdRows(t, w, map[string][]row{"all": each(me, api.OK, id(), time(), newCat(), labSet(0, 8, 3), label(1), clearTo(0), handler(5), halt())})
	d := tree.Holders(w, me)[0]
	secretly := with(w, me, func(o *api.Object) { o.Label, o.Thread.Labs[1] = lab("7:*"), lab("7:2") })
	for n := range secretly.Objects {
		if o := &secretly.Objects[n]; o.Id == d || slices.Contains(of(w, d).Links, o.Id) && o.Id != me {
			o.Label = lab("7:3")
		}
	}
	holdRows(t, secretly, map[string][]row{"its own container counts": each(me, api.ErrLabel, label(1), label(0))})
	elsewhere := with(w, 1000, func(o *api.Object) { o.Label = lab("7:0") })
	holdRows(t, elsewhere, map[string][]row{"no other one does": each(me, api.OK, label(1), label(0))})
}

// flaw is something that can be wrong with a call, and what makes it so.
type flaw struct {
	what  string
	err   api.Errno
	spoil func(*api.World, *api.Args)
}

// scene is a call that goes well, and its flaws, in the chapter's order.
type scene struct {
	deed  deed
	flaws []flaw
}

// stage is the world that flaws are laid in: a thread that owns 9; a container (2) with a segment (20), a device (21), a thread (22) and a container (23).
func stage() api.World {
	me := thread(self, "9:*", "7:3,8:3,9:3", "7:2", "8:2", "7:3,8:3,9:3", "-")
	return world(box(root, 900, "-", 2, 30, self), me, box(2, 200, "-", 20, 21, 22, 23), words(20, 4, 20, "9:3"), device(21, "9:3"), thread(22, "9:*", "7:3,8:3,9:3"), box(23, 9, "9:3"), words(30, 1, 0, "-"))
}

// relabel sets a category of an object's label.
func relabel(id, cat uint64, lev int) func(*api.World, *api.Args) {
	return change(id, func(o *api.Object) { o.Label = leveled(o.Label, cat, lev) })
}

// arg sets an argument.
func arg(at int, v uint64) func(*api.World, *api.Args) {
	return func(_ *api.World, a *api.Args) { a[at] = v }
}

// change does something to an object.
func change(id uint64, does func(*api.Object)) func(*api.World, *api.Args) {
	return func(w *api.World, _ *api.Args) { does(of(*w, id)) }
}

// flawed are the flaws of a name of what the first two arguments name in the stage's container, and of another thing there, which is of another kind; without one any kind is right.
func flawed(id, other uint64, write bool) []flaw {
	out := []flaw{
		{"hidden", api.ErrName, func(w *api.World, a *api.Args) {
			for _, id := range []uint64{2, 20, 21, 22, 23} {
				relabel(id, 7, api.Lev3)(w, a)
			}
		}},
		{"not there", api.ErrName, arg(1, 30)},
	}
	if other != 0 {
		out = append(out, flaw{"kind", api.ErrKind, arg(1, other)})
	}
	out = append(out, flaw{"not to see", api.ErrLabel, relabel(id, 7, api.Lev3)})
	if write {
		out = append(out, flaw{"not to change", api.ErrLabel, relabel(id, 8, api.Lev0)})
	}
	return out
}

// register is the flaw that a label register is none.
func register(at int) flaw { return flaw{"register", api.ErrArg, arg(at, 4)} }

// filled gives a label register of the caller's 16 pairs.
func filled(k int) func(*api.World, *api.Args) {
	return change(self, func(o *api.Object) { o.Thread.Labs[k] = pairs(16, api.Lev3) })
}

// scenes are of all calls with which something can be wrong.
func scenes() []scene {
	spent := flaw{"spent", api.ErrSerial, change(self, func(o *api.Object) { o.Thread.Span.Lo = o.Thread.Span.Hi })}
	full := flaw{"full label", api.ErrFull, change(self, func(o *api.Object) { o.Label = leveled(pairs(15, api.Star), 9, api.Star) })}
	cleared := flaw{"full clearance", api.ErrFull, change(self, func(o *api.Object) { o.Thread.Clear = leveled(pairs(15, api.Lev3), 9, api.Lev3) })}
	below := flaw{"below", api.ErrLabel, relabel(self, 8, api.Lev2)}
	above := flaw{"above", api.ErrLabel, change(self, func(o *api.Object) { o.Thread.Clear = lab("8:3") })}
	place := flaw{"place", api.ErrLabel, func(w *api.World, a *api.Args) {
		for _, id := range []uint64{root, 2, 20, 21, 22, 23, 30} {
			if o := of(*w, id); levelOf(o.Label, 9) != api.Star {
				o.Label = leveled(o.Label, 9, api.Lev3)
			}
		}
		of(*w, self).Thread.Clear = leveled(of(*w, self).Thread.Clear, 9, api.Lev3)
	}}
	return []scene{
		{newCat(), []flaw{full, cleared, spent}},
		{labClear(0), []flaw{register(0)}},
		{labSet(0, 5, 3), []flaw{register(0), {"level", api.ErrArg, arg(2, 5)}, {"full", api.ErrFull, filled(0)}}},
		{labGet(0, 5), []flaw{register(0)}},
		{labSelf(0), []flaw{register(0)}},
		{labOf(2, 20, 0), append([]flaw{register(2)}, flawed(20, 0, false)...)},
		{labOf(2, 22, 3), append([]flaw{register(2)}, flawed(22, 0, false)...)},
		{labOf(2, 23, 1), append([]flaw{register(2)}, flawed(23, 0, false)...)},
		{labJoin(0, 1), []flaw{register(0), register(1), {"full", api.ErrFull, filled(0)}}},
		{labJoin(1, 2), []flaw{register(0), register(1), {"full", api.ErrFull, filled(2)}}},
		{labLeq(0, 1), []flaw{register(0), register(1)}},
		{label(0), []flaw{register(0), below, above, place}},
		{clearTo(0), []flaw{register(0), below, above}},
		{wait(2, 20, 19, 5), append(flawed(20, 21, false), flaw{"behind", api.ErrRange, arg(2, 20)})},
		{wait(2, 20, 0, 20<<40+7), append(flawed(20, 22, false), flaw{"far behind", api.ErrRange, arg(2, top)})},
		{waitDev(2, 21), flawed(21, 20, false)},
		{alert(2, 22, 5), append(flawed(22, 21, true), flaw{"full", api.ErrFull, change(22, func(o *api.Object) { *o = alerted(*o, 8) })})},
		{take(), []flaw{{"none", api.ErrEmpty, change(self, func(o *api.Object) { o.Thread.Alerts = nil })}}},
	}
}

// some is whichever flaws of a row a number's bits name.
func some(flaws []flaw, choice int) []flaw {
	var out []flaw
	for at, f := range flaws {
		if choice>>at&1 == 1 {
			out = append(out, f)
		}
	}
	return out
}

// P22.1: which error is told where several could be: of up to three of a call's flaws together the first one is the answer; without any it goes well.
func TestOrder(t *testing.T) {
	for _, s := range scenes() {
		for choice := range 1 << len(s.flaws) {
			if bits.OnesCount(uint(choice)) > 3 {
				continue
			}
			now, a := stage(), s.deed.a
			*of(now, self) = alerted(*of(now, self), 2)
			want, names := api.OK, []string{}
			for _, f := range slices.Backward(some(s.flaws, choice)) {
				f.spoil(&now, &a)
				want, names = f.err, append(names, f.what)
			}
			if !tree.Fit(now) {
				t.Fatalf("%v, %q: the world is not whole", s.deed, names)
			}
			if _, _, err := hold(t, now, self, deed{s.deed.n, a}); err != want {
				t.Errorf("%v, %q: error %d, not %d", deed{s.deed.n, a}, names, err, want)
			}
		}
	}
}

// labels are all of two categories, from a level on.
func labels(from int) []api.Label {
	var out []api.Label
	for a := from; a <= api.Lev3; a++ {
		for b := from; b <= api.Lev3; b++ {
			out = append(out, leveled(oneLevel(a), 9, b))
		}
	}
	return out
}

// pick is one of a list.
func pick[T any](draw *rand.Rand, from ...T) T { return from[draw.Intn(len(from))] }

// atLeast are labels that are not less than one.
func atLeast(l api.Label, from []api.Label) []api.Label {
	return slices.DeleteFunc(slices.Clone(from), func(x api.Label) bool { return !atMost(l, x) })
}

// grown is a label with pairs of a level more, up to so many in all.
func grown(l api.Label, n int, lev int) api.Label {
	for cat := uint64(500); len(l) < n; cat++ {
		l = leveled(l, cat, lev)
	}
	return l
}

// drawnThread is a thread of a label.
func drawnThread(draw *rand.Rand, id uint64, l api.Label) api.Object {
	o := alerted(thread(id, "-", "-"), pick[uint64](draw, 0, 0, 1, 5, 7, 8))
	if o.Thread.State = pick(draw, api.ThRun, api.ThRun, api.ThHalt); draw.Intn(4) == 0 {
		o = waiting(o)
	}
	clear := pick(draw, append(atLeast(l, labels(api.Star)), lab("7:3,9:3"), lab("7:3,9:3"), lab("7:3,9:3"))...)
	for at := range o.Thread.Labs {
		o.Thread.Labs[at] = pick(draw, append(labels(api.Star), l, l, l, clear, clear, nil)...)
		if draw.Intn(3) == 0 {
			o.Thread.Labs[at] = grown(o.Thread.Labs[at], 14+draw.Intn(3), pick(draw, api.Star, api.Lev0, api.Lev3))
		}
	}
	o.Label, o.Thread.Clear = l, clear
	if draw.Intn(5) == 0 {
		o.Label = grown(l, 14+draw.Intn(3), api.Star)
	}
	if draw.Intn(5) == 0 {
		o.Thread.Clear = grown(clear, 14+draw.Intn(3), api.Lev3)
	}
	o.Thread.Span.Hi = o.Thread.Span.Lo + pick[uint64](draw, 0, 1, 2, 15, 1<<10, 1<<20)
	return o
}

// drawnThing is an object of another kind.
func drawnThing(draw *rand.Rand, id uint64, l api.Label) api.Object {
	o := api.Object{Id: id, Kind: pick(draw, 1, 1, 2, 2, 3, 5, 6, 6), Label: l, Quota: 1 + draw.Intn(4), Fixed: draw.Intn(3) == 0}
	switch o.Kind {
	case api.KdContainer:
		o.Quota = 1 + draw.Intn(40)
	case api.KdSegment:
		for range draw.Intn((o.Quota-1)*16 + 1) {
			o.Data = append(o.Data, uint64(draw.Intn(3)))
		}
	case api.KdDevice:
		o.In = make([]uint64, pick(draw, 0, 0, 0, 1, 5, 64))
	}
	return o
}

// drawnWorld is a whole world.
func drawnWorld(t *testing.T, draw *rand.Rand) api.World {
	t.Helper()
	w := world(box(root, 30+draw.Intn(150), "-"))
	w.Key, w.Time = draw.Uint64(), draw.Intn(topTime+1)
	of(w, root).Label = pick(draw, lab("-"), lab("-"), lab("7:0,9:0"), lab("9:2"))
	for _, id := range []uint64{self, owner, 90, 91, 4, 92, 5, 93, 94, 6, 95, 7, 96, 97, 8, 98, 99, topId} {
		for range 20 {
			d := pick(draw, idsOf(w)...)
			o := drawnThing(draw, id, pick(draw, append(labels(api.Lev0), make([]api.Label, 16)...)...))
			if id < 90 && id >= self || draw.Intn(3) == 0 && id < topId {
				o = drawnThread(draw, id, pick(draw, slices.Concat(labels(api.Star), make([]api.Label, 10), slices.Repeat([]api.Label{lab("7:*,9:*")}, 10))...))
			}
			if next, err := tree.Attach(w, d, o); err == api.OK {
				w = next
				break
			}
		}
	}
	for range 10 {
		if next, err := tree.Link(w, pick(draw, idsOf(w)...), pick(draw, idsOf(w)...)); err == api.OK {
			w = next
		}
	}
	if !tree.Fit(w) {
		t.Fatal("a drawn world is not whole")
	}
	return w
}

// drawnId is an Id of what is of a kind, mostly.
func drawnId(draw *rand.Rand, w api.World, kind int, from []uint64) uint64 {
	id := pick(draw, from...)
	for range 9 {
		if kind == 0 || of(w, id).Kind == kind {
			break
		}
		id = pick(draw, from...)
	}
	return id
}

// drawnName is a name, mostly of what is of a kind and lies there.
func drawnName(draw *rand.Rand, w api.World, kind int) (uint64, uint64) {
	d := drawnId(draw, w, api.KdContainer, idsOf(w))
	for range 3 {
		in := of(w, d)
		if len(in.Links) == 0 || draw.Intn(8) == 0 {
			break
		}
		if o := drawnId(draw, w, kind, in.Links); kind == 0 || of(w, o).Kind == kind || draw.Intn(3) == 0 {
			return d, o
		}
		d = drawnId(draw, w, api.KdContainer, idsOf(w))
	}
	return d, pick(draw, append(idsOf(w), 999)...)
}

// drawnWord is an argument: a register, a category, a level, a place, or any word.
func drawnWord(draw *rand.Rand, what byte) uint64 {
	if draw.Intn(25) == 0 {
		return pick[uint64](draw, 0, 4, 5, 999, 1<<32, 1<<63, top)
	}
	switch what {
	case 'k':
		return uint64(draw.Intn(4))
	case 'c':
		return pick[uint64](draw, 7, 9, 500, 503, 507, 600, draw.Uint64())
	case 'l':
		return uint64(draw.Intn(5))
	case 'v':
		return uint64(draw.Intn(3))
	case 'i':
		return uint64(draw.Intn(20))
	}
	return draw.Uint64()
}

// drawnDeed is a call.
func drawnDeed(draw *rand.Rand, w api.World) deed {
	shapes := map[int]string{4: "k", 5: "kcl", 6: "kc", 7: "k", 8: "..k", 9: "kk", 10: "kk", 11: "k", 12: "k", 32: "ww", 33: "w", 34: "w", 37: "..iv", 38: "..w"}
	numbers := slices.Sorted(maps.Keys(names()))
	d := deedOf(pick(draw, append(numbers, 3, 5, 5, 8, 9, 11, 11, 11, 12, 12, 37, 37, 38, 38, 43)...))
	for at, what := range []byte(shapes[d.n]) {
		d.a[at] = drawnWord(draw, what)
	}
	kind, ok := map[int]int{8: 0, 32: 0, 37: api.KdSegment, 38: api.KdThread, 43: api.KdDevice}[d.n]
	if ok {
		d.a[0], d.a[1] = drawnName(draw, w, kind)
	}
	return d
}

// met counts by call what was wrong first; "" is that nothing was.
type met map[string]map[string]int

// note counts one more.
func (m met) note(call, what string, n int) {
	if m[call] == nil {
		m[call] = map[string]int{}
	}
	m[call][what] += n
}

// P22.1 to P22.4: drawn rows of calls in drawn worlds, by threads of unlike labels, against the chapter's words; all that can be wrong comes about.
func TestDrawn(t *testing.T) {
	all := make([]met, 8)
	t.Run("rows", func(t *testing.T) {
		for seed := range all {
			t.Run(fmt.Sprint(seed), func(t *testing.T) {
				t.Parallel()
				all[seed] = met{}
				draw := rand.New(rand.NewSource(int64(seed)))
				for range 40 {
					drawnRow(t, draw, all[seed])
				}
			})
		}
	})
	found := met{}
	for _, one := range all {
		for call, counts := range one {
			for what, n := range counts {
				found.note(call, what, n)
			}
		}
	}
	name := []string{"", "no container", "hidden", "not there", "not to see"}
	kinds := append(name[:5:5], "kind")
	for call, wants := range map[string][]string{
		"CaId": nil, "CaTime": nil, "CaNewCat": {"full label", "full clearance", "spent"}, "CaLabClear": {"register"}, "CaLabSet": {"register", "level", "full"}, "CaLabGet": {"register"}, "CaLabSelf": {"register"},
		"CaLabOf": append(name[:5:5], "register"), "CaLabJoin": {"register", "full"}, "CaLabLeq": {"register"}, "CaLabel": {"register", "below", "above", "place"}, "CaClear": {"register", "below", "above"},
		"CaSpace": nil, "CaHandler": nil, "CaVector": nil, "CaYield": nil, "CaHalt": nil,
		"CaWait": append(kinds[:6:6], "behind the last word"), "CaWaitDev": kinds, "CaAlert": append(kinds[:6:6], "not to change", "full"), "CaTake": {"none"},
	} {
		for _, what := range append(wants[:len(wants):len(wants)], "") {
			if found[call][what] < 5 {
				t.Errorf("%s, %q: %d times", call, what, found[call][what])
			}
		}
	}
}

// drawnRow is a row of calls in a drawn world.
func drawnRow(t *testing.T, draw *rand.Rand, count met) {
	t.Helper()
	w := drawnWorld(t, draw)
	threads := slices.DeleteFunc(idsOf(w), func(id uint64) bool { return of(w, id).Kind != api.KdThread })
	if len(threads) == 0 {
		return
	}
	for range 80 {
		by, d := pick(draw, threads...), drawnDeed(draw, w)
		_, _, wrongs := outcome(w, by, d)
		behind, _, _ := hold(t, w, by, d)
		what := ""
		if len(wrongs) > 0 {
			what = wrongs[0].what
		}
		count.note(names()[d.n], what, 1)
		if t.Failed() {
			t.FailNow()
		}
		w = behind
	}
}

// P22.4: what a thread is given hangs on its own numbers alone: whatever others make, its next category is the same.
func TestNothingOfOthers(t *testing.T) {
	w := house()
	_, want, _ := hold(t, w, self, newCat())
	for _, d := range []deed{newCat(), newCat(), labOf(root, self, 0), alert(root, self, 4), label(1), newCat()} {
		w, _, _ = hold(t, w, owner, d)
		if _, cat, err := hold(t, w, self, newCat()); cat != want || err != api.OK {
			t.Errorf("behind %v: %d, not %d; error %d", d, cat, want, err)
		}
	}
}

// deeds are calls of all numbers, those that go well and those that don't, and some that are none.
func deeds() []deed {
	out := []deed{{n: 0}, {n: 13}, {n: 31}, {n: 40}, {n: 42}, {n: 44}, {n: 99}, {n: -3}, id(), time(), newCat(), yield(), halt(), take(), handler(5), vector(top), space(root, 18), space(top, 0)}
	for _, k := range []uint64{0, 1, 2, 3, 4, top} {
		out = append(out, onRegister(k)...)
		out = append(out, label(k), clearTo(k), labSet(k, 8, 5), labSet(k, 4000, 4), labSet(k, 7, top), labJoin(k, 3))
	}
	for _, o := range []uint64{10, 11, 12, 14, 15, 18, 19, open, self, owner, calm, crowded, trusted, 999} {
		out = append(out, naming(root, o)...)
	}
	return append(out, wait(root, 10, 0, 10<<40+7), wait(root, 10, 20, 0), labOf(secretBox, 30, 0), labOf(10, 10, 0), alert(root, root, 3), labOf(top, top, 0))
}

// 0.5: no call changes what it is given; what it tells is new memory, each time, and has no empty list.
func TestNewMemory(t *testing.T) {
	w := house()
	*of(w, self) = alerted(*of(w, self), 1)
	roomy(&w)
	was := deep(w)
	for _, by := range []uint64{self, owner, secret, waits} {
		for _, d := range deeds() {
			first, value, err, ok := kthr.Do(w, by, d.n, d.a)
			again, valueAgain, errAgain, okAgain := kthr.Do(w, by, d.n, d.a)
			if !reflect.DeepEqual(w, was) {
				t.Fatalf("%v: what it is given is another one", d)
			}
			if !reflect.DeepEqual(first, again) || value != valueAgain || err != errAgain || ok != okAgain {
				t.Errorf("%v: another thing is told the second time", d)
			}
			if emptyLists(first) > 0 {
				t.Errorf("%v: empty lists are told", d)
			}
			if overlap(slices.Concat(stretches(w, false), stretches(first, true), stretches(again, true))) {
				t.Errorf("%v: what is told shares memory", d)
			}
		}
	}
}

// odd are worlds that are not whole.
func odd() map[string]api.World {
	bad := api.Label{{Cat: 9, Lev: 9}, {Cat: 7, Lev: -3}, {Cat: 7, Lev: api.Above}, {Cat: 7, Lev: api.Lev1}}
	all := func(does func(*api.Object)) api.World {
		w := house()
		for n := range w.Objects {
			does(&w.Objects[n])
		}
		return w
	}
	turned, twice := house(), house()
	slices.Reverse(turned.Objects)
	twice.Objects = slices.Concat(twice.Objects, twice.Objects)
	far, past := house(), house()
	far.Time, past.Time = math.MaxInt, math.MinInt
	return map[string]api.World{
		"nothing": {}, "from the end": turned, "all twice": twice, "one object": {Objects: []api.Object{thread(self, "-", "-")}}, "far": far, "past": past,
		"Id 0":   {Objects: []api.Object{thread(0, "-", "-")}},
		"labels": all(func(o *api.Object) { o.Label, o.Thread.Clear, o.Thread.Labs = bad, bad, [4]api.Label{bad, nil, bad} }),
		"long labels": all(func(o *api.Object) {
			o.Label, o.Thread.Clear, o.Thread.Labs[0] = pairs(99, 0), pairs(99, 0), pairs(99, 4)
		}),
		"all are threads": all(func(o *api.Object) { o.Kind = api.KdThread }),
		"containers":      all(func(o *api.Object) { o.Kind = api.KdContainer }),
		"no kinds":        all(func(o *api.Object) { o.Kind = -o.Kind }),
		"all link all":    all(func(o *api.Object) { o.Links = []uint64{root, open, 10, 14, 15, self, top} }),
		"nothing linked":  all(func(o *api.Object) { o.Links = nil }),
		"quotas":          all(func(o *api.Object) { o.Quota = math.MinInt }),
		"states":          all(func(o *api.Object) { o.Thread.State = -5 }),
		"many alerts":     all(func(o *api.Object) { o.Thread.Alerts = make([]uint64, 99) }),
		"many words":      all(func(o *api.Object) { o.Data, o.In = make([]uint64, 500), make([]uint64, 500) }),
		"one span":        all(func(o *api.Object) { o.Thread.Span = api.Span{Lo: 0, Hi: top} }),
		"turned spans":    all(func(o *api.Object) { o.Thread.Span = api.Span{Lo: top, Hi: 0} }),
	}
}

// 0.1: of worlds that are not whole, and of ids that are no thread's, all calls end, none panics or changes what it is given.
func TestOdd(t *testing.T) {
	worlds := odd()
	worlds["whole"] = house()
	for name, w := range worlds {
		was := deep(w)
		for _, id := range []uint64{0, root, self, owner, 10, top} {
			for _, d := range deeds() {
				if _, _, _, ok := kthr.Do(w, id, d.n, d.a); ok != isCall(d.n) {
					t.Errorf("%s: %v: %v", name, d, ok)
				}
			}
		}
		if !reflect.DeepEqual(w, was) {
			t.Errorf("%s: what was handed in is another one", name)
		}
	}
}
