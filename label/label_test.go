package label

import (
	"math"
	"slices"
	"testing"

	"curtilage/api"
)

// top is the greatest category.
const top = math.MaxUint64

// noLevels are numbers that are no level: just beside them, far off, and such as are a level's number in fewer bits.
var noLevels = []int{-1, 6, 7, -5, 100, 255, 256, 260, 1 << 32, 1<<32 + 3, -1 << 32, math.MaxInt, math.MinInt}

// said is a category's level in a label, told without the package's own functions.
func said(l api.Label, cat uint64) int {
	lev := api.Lev1
	for _, p := range l {
		if p.Cat == cat {
			lev = p.Lev
		}
	}
	return lev
}

// made is the fit label of cats, which rise, at levs.
func made(cats []uint64, levs []int) api.Label {
	var l api.Label
	for i, cat := range cats {
		if levs[i] != api.Lev1 {
			l = append(l, api.Pair{Cat: cat, Lev: levs[i]})
		}
	}
	return l
}

// all are the labels that name none but cats: each of them at each level.
func all(cats ...uint64) []api.Label {
	count := 1
	for range cats {
		count *= 6
	}
	var out []api.Label
	for n := range count {
		levs := make([]int, len(cats))
		for i := range levs {
			levs[i] = n % 6
			n /= 6
		}
		out = append(out, made(cats, levs))
	}
	return out
}

// long is a fit label of n pairs: every step-th category from first on, levels in turn.
func long(n int, first, step uint64) api.Label {
	var l api.Label
	turn := []int{api.Star, api.Lev0, api.Lev2, api.Lev3, api.Above}
	for i := range n {
		l = append(l, api.Pair{Cat: first + uint64(i)*step, Lev: turn[i%len(turn)]})
	}
	return l
}

// wantLabel holds what was told against what should be; none is nil.
func wantLabel(t *testing.T, what string, got, want api.Label) {
	t.Helper()
	if !slices.Equal(got, want) {
		t.Errorf("%s is %v, not %v", what, got, want)
	}
	if len(got) == 0 && got != nil {
		t.Errorf("%s is a list without pairs, not none", what)
	}
}

// P2.1: labels that are fit: none, each level but Lev1, the least and the greatest category, any number of pairs.
func TestFitTells(t *testing.T) {
	fit := []api.Label{
		nil,
		{},
		{{Cat: 0, Lev: api.Star}},
		{{Cat: top, Lev: api.Above}},
		{{Cat: 7, Lev: api.Lev0}, {Cat: 8, Lev: api.Lev2}, {Cat: 9, Lev: api.Lev3}},
		{{Cat: 0, Lev: api.Lev3}, {Cat: top, Lev: api.Lev3}},
		{{Cat: 1<<63 - 1, Lev: api.Lev3}, {Cat: 1 << 63, Lev: api.Lev3}},
		long(api.MaxPairs, 0, 1),
		long(api.MaxPairs+1, 0, 1),
		long(1<<16, 3, 5),
	}
	for _, l := range fit {
		if !Fit(l) {
			t.Errorf("Fit is false of %d pairs, which begin %v", len(l), l[:min(len(l), 3)])
		}
	}
	for _, l := range all(0, 1, top) {
		if !Fit(l) {
			t.Errorf("Fit(%v) is false", l)
		}
	}
}

// P2.1: labels that are not fit: a category twice, falling ones, Lev1 written out, numbers that are no level; in any place.
func TestFitRefuses(t *testing.T) {
	unfit := []api.Label{
		{{Cat: 7, Lev: api.Lev1}},
		{{Cat: 0, Lev: api.Lev1}, {Cat: 1, Lev: api.Lev3}},
		{{Cat: 7, Lev: api.Lev3}, {Cat: 8, Lev: api.Lev1}},
		{{Cat: 7, Lev: api.Lev3}, {Cat: 7, Lev: api.Lev3}},
		{{Cat: 7, Lev: api.Lev0}, {Cat: 7, Lev: api.Lev3}},
		{{Cat: 8, Lev: api.Lev3}, {Cat: 7, Lev: api.Lev3}},
		{{Cat: top, Lev: api.Lev3}, {Cat: 0, Lev: api.Lev3}},
		{{Cat: 1 << 63, Lev: api.Lev3}, {Cat: 1<<63 - 1, Lev: api.Lev3}},
		{{Cat: 1, Lev: api.Lev3}, {Cat: 3, Lev: api.Lev3}, {Cat: 2, Lev: api.Lev3}},
		{{Cat: 1, Lev: api.Lev3}, {Cat: 2, Lev: api.Lev3}, {Cat: 1, Lev: api.Lev3}},
		append(long(1<<16, 0, 1), api.Pair{Cat: 1<<16 - 1, Lev: api.Lev3}),
		append(long(1<<16, 0, 1), api.Pair{Cat: 1 << 16, Lev: api.Lev1}),
	}
	for _, n := range noLevels {
		unfit = append(unfit,
			api.Label{{Cat: 7, Lev: n}},
			api.Label{{Cat: 7, Lev: api.Star}, {Cat: 8, Lev: n}},
			api.Label{{Cat: 7, Lev: n}, {Cat: 8, Lev: api.Star}})
	}
	for _, l := range unfit {
		if Fit(l) {
			t.Errorf("Fit is true of %d pairs, which end %v", len(l), l[max(len(l)-3, 0):])
		}
	}
}

// P2.1: a category's level is that of its pair, Lev1 without one.
func TestGet(t *testing.T) {
	asked := []uint64{0, 1, 2, 6, 7, 8, 1 << 63, top - 1, top}
	for _, l := range append(all(0, 7, top), long(1<<10, 1, 2)) {
		for _, cat := range asked {
			if got := Get(l, cat); got != said(l, cat) {
				t.Errorf("Get(%v, %d) is %d, not %d", l, cat, got, said(l, cat))
			}
		}
	}
	for _, l := range []api.Label{nil, {}} {
		if got := Get(l, 7); got != api.Lev1 {
			t.Errorf("Get of no pairs is %d, not %d", got, api.Lev1)
		}
	}
	if got := Get(api.Label{{Cat: 7, Lev: api.Star}}, 7); got != api.Star {
		t.Errorf("Get of what is owned is %d, not %d", got, api.Star)
	}
}

// P2.2: rows written out: a pair that is new, changed, taken away, was never there; ahead, between and behind.
func TestSetRows(t *testing.T) {
	two := api.Label{{Cat: 3, Lev: api.Lev3}, {Cat: 7, Lev: api.Star}}
	rows := []struct {
		l    api.Label
		cat  uint64
		lev  int
		want api.Label
	}{
		{nil, 7, api.Lev3, api.Label{{Cat: 7, Lev: api.Lev3}}},
		{api.Label{}, 0, api.Star, api.Label{{Cat: 0, Lev: api.Star}}},
		{nil, 7, api.Lev1, nil},
		{api.Label{}, 7, api.Lev1, nil},
		{api.Label{{Cat: 7, Lev: api.Lev3}}, 7, api.Lev1, nil},
		{two, 0, api.Lev0, api.Label{{Cat: 0, Lev: api.Lev0}, {Cat: 3, Lev: api.Lev3}, {Cat: 7, Lev: api.Star}}},
		{two, 5, api.Above, api.Label{{Cat: 3, Lev: api.Lev3}, {Cat: 5, Lev: api.Above}, {Cat: 7, Lev: api.Star}}},
		{two, top, api.Lev2, api.Label{{Cat: 3, Lev: api.Lev3}, {Cat: 7, Lev: api.Star}, {Cat: top, Lev: api.Lev2}}},
		{two, 3, api.Star, api.Label{{Cat: 3, Lev: api.Star}, {Cat: 7, Lev: api.Star}}},
		{two, 7, api.Above, api.Label{{Cat: 3, Lev: api.Lev3}, {Cat: 7, Lev: api.Above}}},
		{two, 3, api.Lev1, api.Label{{Cat: 7, Lev: api.Star}}},
		{two, 7, api.Lev1, api.Label{{Cat: 3, Lev: api.Lev3}}},
		{two, 5, api.Lev1, two},
		{two, 3, api.Lev3, two},
	}
	for _, r := range rows {
		got, err := Set(r.l, r.cat, r.lev)
		if err != api.OK {
			t.Errorf("Set(%v, %d, %d) tells %v", r.l, r.cat, r.lev, err)
		}
		wantLabel(t, "Set", got, r.want)
	}
}

// P2.2: a number that is no level is ErrArg, and the label stays; so it is ahead of ErrFull.
func TestSetOfNoLevel(t *testing.T) {
	full := long(api.MaxPairs, 10, 10)
	for _, n := range noLevels {
		for _, l := range []api.Label{nil, {}, {{Cat: 7, Lev: api.Lev3}}, full, long(api.MaxPairs+3, 10, 10)} {
			for _, cat := range []uint64{0, 7, 10, top} {
				got, err := Set(l, cat, n)
				if err != api.ErrArg {
					t.Errorf("Set(%v, %d, %d) tells %v, not %v", l, cat, n, err, api.ErrArg)
				}
				wantLabel(t, "Set beside ErrArg", got, l)
			}
		}
	}
}

// P2.2: MaxPairs pairs may be, one more is ErrFull, and the label stays.
func TestSetOfFull(t *testing.T) {
	full, over, far := long(api.MaxPairs, 10, 10), long(api.MaxPairs+1, 10, 10), long(api.MaxPairs+2, 10, 10)
	rows := []struct {
		l    api.Label
		cat  uint64
		lev  int
		err  api.Errno
		size int
	}{
		{full[:api.MaxPairs-1], 5, api.Lev3, api.OK, api.MaxPairs},
		{full[:api.MaxPairs-1], top, api.Star, api.OK, api.MaxPairs},
		{full, 5, api.Lev3, api.ErrFull, api.MaxPairs},
		{full, 15, api.Star, api.ErrFull, api.MaxPairs},
		{full, top, api.Above, api.ErrFull, api.MaxPairs},
		{full, 15, api.Lev1, api.OK, api.MaxPairs},
		{full, 20, api.Lev3, api.OK, api.MaxPairs},
		{full, 20, api.Lev1, api.OK, api.MaxPairs - 1},
		{over, 20, api.Lev1, api.OK, api.MaxPairs},
		{over, 20, api.Lev0, api.ErrFull, api.MaxPairs + 1},
		{over, 25, api.Lev1, api.ErrFull, api.MaxPairs + 1},
		{far, 20, api.Lev1, api.ErrFull, api.MaxPairs + 2},
		{long(1<<16, 10, 10), 20, api.Lev1, api.ErrFull, 1 << 16},
	}
	for _, r := range rows {
		got, err := Set(r.l, r.cat, r.lev)
		if err != r.err || len(got) != r.size {
			t.Errorf("Set of %d pairs, %d, %d is %d pairs, %v, not %d, %v", len(r.l), r.cat, r.lev, len(got), err, r.size, r.err)
		}
		if err != api.OK {
			wantLabel(t, "Set beside ErrFull", got, r.l)
		}
	}
}

// P2.3: Leq, Join and Meet of all labels of two categories go by each category's levels.
func TestCategoryByCategory(t *testing.T) {
	cats := []uint64{0, top}
	for _, a := range all(cats...) {
		for _, b := range all(cats...) {
			leq, join, meet := true, make([]int, 2), make([]int, 2)
			for i, cat := range cats {
				x, y := said(a, cat), said(b, cat)
				leq = leq && x <= y
				join[i], meet[i] = max(x, y), min(x, y)
			}
			if got := Leq(a, b); got != leq {
				t.Errorf("Leq(%v, %v) is %v", a, b, got)
			}
			wantLabel(t, "Join", Join(a, b), made(cats, join))
			wantLabel(t, "Meet", Meet(a, b), made(cats, meet))
		}
	}
}

// P2.3: what one label names and the other does not is held against Lev1, in whichever label and place.
func TestOneNamesOnly(t *testing.T) {
	own, low, high := api.Pair{Cat: 2, Lev: api.Star}, api.Pair{Cat: 4, Lev: api.Lev0}, api.Pair{Cat: 6, Lev: api.Lev3}
	rows := []struct {
		a, b, join, meet api.Label
		leq, geq         bool
	}{
		{nil, nil, nil, nil, true, true},
		{api.Label{}, nil, nil, nil, true, true},
		{api.Label{own}, nil, nil, api.Label{own}, true, false},
		{api.Label{high}, nil, api.Label{high}, nil, false, true},
		{api.Label{own}, api.Label{high}, api.Label{high}, api.Label{own}, true, false},
		{api.Label{own, low}, api.Label{high}, api.Label{high}, api.Label{own, low}, true, false},
		{api.Label{own, high}, api.Label{low}, api.Label{high}, api.Label{own, low}, false, false},
		{api.Label{low, high}, api.Label{own}, api.Label{high}, api.Label{own, low}, false, false},
		{api.Label{low, high}, api.Label{high}, api.Label{high}, api.Label{low, high}, true, false},
		{api.Label{high}, api.Label{own, low}, api.Label{high}, api.Label{own, low}, false, true},
	}
	for _, r := range rows {
		if Leq(r.a, r.b) != r.leq || Leq(r.b, r.a) != r.geq {
			t.Errorf("Leq of %v and %v is %v, turned round %v", r.a, r.b, Leq(r.a, r.b), Leq(r.b, r.a))
		}
		wantLabel(t, "Join", Join(r.a, r.b), r.join)
		wantLabel(t, "Join turned round", Join(r.b, r.a), r.join)
		wantLabel(t, "Meet", Meet(r.a, r.b), r.meet)
		wantLabel(t, "Meet turned round", Meet(r.b, r.a), r.meet)
	}
}

// P2.3: Raise, Lower and Owned.
func TestRaiseLowerOwned(t *testing.T) {
	cats := []uint64{0, 7, top}
	for _, l := range all(cats...) {
		raised, lowered := make([]int, 3), make([]int, 3)
		var owned []uint64
		for i, cat := range cats {
			lev := said(l, cat)
			raised[i], lowered[i] = lev, lev
			switch lev {
			case api.Star:
				raised[i] = api.Above
				owned = append(owned, cat)
			case api.Above:
				lowered[i] = api.Star
			}
		}
		wantLabel(t, "Raise", Raise(l), made(cats, raised))
		wantLabel(t, "Lower", Lower(l), made(cats, lowered))
		if got := Owned(l); !slices.Equal(got, owned) || len(got) == 0 && got != nil {
			t.Errorf("Owned(%v) is %v, not %v", l, got, owned)
		}
	}
	wantLabel(t, "Raise of no pairs", Raise(api.Label{}), nil)
	wantLabel(t, "Lower of no pairs", Lower(api.Label{}), nil)
	if Owned(api.Label{}) != nil {
		t.Error("Owned of no pairs is not none")
	}
}

// P2.3: Same tells each label from all others, by categories as by levels; no pairs are none.
func TestSame(t *testing.T) {
	labels := append(all(3, 8), all(4, 8)[1:]...)
	labels = append(labels, long(17, 0, 1), long(17, 1, 1), long(18, 0, 1))
	for _, a := range labels {
		for _, b := range labels {
			if got := Same(a, b); got != slices.Equal(a, b) {
				t.Errorf("Same(%v, %v) is %v", a, b, got)
			}
		}
	}
	if !Same(nil, api.Label{}) || !Same(api.Label{}, nil) {
		t.Error("no pairs are not the same as none")
	}
}

// P2.4: Leq is an order, and Join and Meet are its bounds: the least that is not less, the greatest that is not more.
func TestLattice(t *testing.T) {
	labels := all(2, 9)
	for _, a := range labels {
		if !Leq(a, a) {
			t.Errorf("%v is not at most itself", a)
		}
		for _, b := range labels {
			join, meet := Join(a, b), Meet(a, b)
			if Leq(a, b) && Leq(b, a) && !Same(a, b) {
				t.Errorf("%v and %v are at most each other", a, b)
			}
			if !Leq(a, join) || !Leq(b, join) || !Leq(meet, a) || !Leq(meet, b) {
				t.Errorf("%v and %v don't lie between %v and %v", a, b, meet, join)
			}
			for _, c := range labels {
				if Leq(a, b) && Leq(b, c) && !Leq(a, c) {
					t.Errorf("%v, %v, %v: the order does not go over", a, b, c)
				}
				if Leq(a, c) && Leq(b, c) && !Leq(join, c) {
					t.Errorf("Join(%v, %v) is %v, but %v is enough", a, b, join, c)
				}
				if Leq(c, a) && Leq(c, b) && !Leq(c, meet) {
					t.Errorf("Meet(%v, %v) is %v, but %v is not more", a, b, meet, c)
				}
			}
		}
	}
}

// P2.4: Join and Meet go over each other.
func TestJoinAndMeetGoOverEachOther(t *testing.T) {
	labels := all(2, 9)
	for _, a := range labels {
		for _, b := range labels {
			if !Same(Join(a, Meet(a, b)), a) || !Same(Meet(a, Join(a, b)), a) {
				t.Errorf("%v and %v don't take each other up", a, b)
			}
			for _, c := range labels {
				if !Same(Join(a, Meet(b, c)), Meet(Join(a, b), Join(a, c))) {
					t.Errorf("%v, %v, %v: Join does not go over Meet", a, b, c)
				}
				if !Same(Meet(a, Join(b, c)), Join(Meet(a, b), Meet(a, c))) {
					t.Errorf("%v, %v, %v: Meet does not go over Join", a, b, c)
				}
			}
		}
	}
}

// P2.5: Get of Set is the level, and all other levels stay.
func TestGetOfSet(t *testing.T) {
	asked := []uint64{0, 1, 2, 3, 7, 8, 9, top}
	for _, l := range all(2, 8, top) {
		for _, cat := range asked {
			for lev := api.Star; lev <= api.Above; lev++ {
				got, err := Set(l, cat, lev)
				if err != api.OK || !Fit(got) {
					t.Errorf("Set(%v, %d, %d) is %v, %v", l, cat, lev, got, err)
				}
				for _, other := range asked {
					want := Get(l, other)
					if other == cat {
						want = lev
					}
					if Get(got, other) != want {
						t.Errorf("behind Set(%v, %d, %d), Get of %d is %d, not %d", l, cat, lev, other, Get(got, other), want)
					}
				}
			}
		}
	}
}

// P2.6: Raise and Lower undo each other where nothing is above all, or owned; elsewhere they don't.
func TestRaiseAndLowerUndo(t *testing.T) {
	for _, l := range all(1, 5, 6) {
		above := slices.ContainsFunc(l, func(p api.Pair) bool { return p.Lev == api.Above })
		owned := slices.ContainsFunc(l, func(p api.Pair) bool { return p.Lev == api.Star })
		if got := Lower(Raise(l)); Same(got, l) == above {
			t.Errorf("Lower(Raise(%v)) is %v", l, got)
		}
		if got := Raise(Lower(l)); Same(got, l) == owned {
			t.Errorf("Raise(Lower(%v)) is %v", l, got)
		}
	}
}

// P2.1 to P2.3: labels of the most pairs that are promised, laid between each other.
func TestLongLabels(t *testing.T) {
	even, odd := long(1<<16, 0, 2), long(1<<16, 1, 2)
	join, meet := Join(even, odd), Meet(even, odd)
	if !Fit(join) || !Fit(meet) || len(join)+len(meet) != 1<<17 {
		t.Errorf("Join and Meet of long labels have %d and %d pairs", len(join), len(meet))
	}
	if !Leq(even, join) || !Leq(meet, odd) || Leq(join, even) || Leq(even, odd) {
		t.Error("long labels don't stand in the order")
	}
	if last := even[len(even)-1]; Get(even, last.Cat) != last.Lev {
		t.Error("the last pair of a long label is not got")
	}
	if got := Owned(even); len(got) != 13108 || !slices.IsSorted(got) {
		t.Errorf("a long label owns %d categories", len(got))
	}
}

// asFar hands each call of the package two labels, and tells all that they answer.
func asFar(a, b api.Label) []api.Label {
	set, _ := Set(a, 5, api.Lev3)
	none, _ := Set(a, 5, -1)
	full, _ := Set(b, 5, api.Lev3)
	Fit(a)
	Get(a, 3)
	Leq(a, b)
	Same(a, b)
	var owned api.Label
	for _, cat := range Owned(a) {
		owned = append(owned, api.Pair{Cat: cat})
	}
	return []api.Label{set, none, full, Join(a, b), Meet(a, b), Join(a, nil), Meet(nil, b), Raise(a), Lower(a), owned}
}

// 0.5: no argument is changed, nor the memory behind it, and what is told shares none of it.
func TestNothingIsShared(t *testing.T) {
	roomA := append(long(3, 1, 2), api.Pair{Cat: 77, Lev: 77}, api.Pair{Cat: 78, Lev: 78})
	roomB := append(long(api.MaxPairs, 4, 2), api.Pair{Cat: 79, Lev: 79})
	keptA, keptB := slices.Clone(roomA), slices.Clone(roomB)
	first := asFar(roomA[:3], roomB[:api.MaxPairs])
	var told []api.Label
	for _, l := range first {
		told = append(told, slices.Clone(l))
		for i := range l[:cap(l)] {
			l[:cap(l)][i] = api.Pair{Cat: 1, Lev: 1}
		}
	}
	if !slices.Equal(roomA, keptA) || !slices.Equal(roomB, keptB) {
		t.Errorf("arguments are changed: %v, %v", roomA, roomB)
	}
	for i, l := range asFar(roomA[:3], roomB[:api.MaxPairs]) {
		if !slices.Equal(l, told[i]) {
			t.Errorf("answer %d is %v, then %v", i, told[i], l)
		}
	}
}

// 0.1: labels that are not fit make no call panic or go on for ever.
func TestUnfitLabelsEnd(t *testing.T) {
	odd := []api.Label{
		{{Cat: 9, Lev: 77}, {Cat: 3, Lev: -1}, {Cat: 3, Lev: api.Lev1}},
		{{Cat: 3, Lev: api.Lev3}, {Cat: 3, Lev: api.Star}, {Cat: top, Lev: math.MinInt}, {Cat: 0, Lev: math.MaxInt}},
		nil,
	}
	for _, a := range odd {
		for _, b := range odd {
			asFar(a, b)
		}
	}
}

// 0.5: the iterator may be left early, and gone through again.
func TestBothIsLeft(t *testing.T) {
	seq := both(long(3, 0, 2), long(3, 1, 2))
	for range 2 {
		var seen []uint64
		for cat := range seq {
			if cat == 3 {
				break
			}
			seen = append(seen, cat)
		}
		if !slices.Equal(seen, []uint64{0, 1, 2}) {
			t.Errorf("both hands out %v", seen)
		}
	}
}
