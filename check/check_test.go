package check

import (
	"math"
	"slices"
	"testing"

	"curtilage/api"
)

// top is the greatest category.
const top = math.MaxUint64

// levs are all levels, of one category.
var levs = []int{api.Star, api.Lev0, api.Lev1, api.Lev2, api.Lev3, api.Above}

// said is a category's level in a label, told without other packages.
func said(l api.Label, cat uint64) int {
	lev := api.Lev1
	for _, p := range l {
		if p.Cat == cat {
			lev = p.Lev
		}
	}
	return lev
}

// with is a label and a category that is greater than its own; Lev1 is not written.
func with(l api.Label, cat uint64, lev int) api.Label {
	out := slices.Clone(l)
	if lev != api.Lev1 {
		out = append(out, api.Pair{Cat: cat, Lev: lev})
	}
	return out
}

// all are the labels that name none but cats, which rise: each of them at each level.
func all(cats ...uint64) []api.Label {
	out := []api.Label{nil}
	for _, cat := range cats {
		var longer []api.Label
		for _, l := range out {
			for _, lev := range levs {
				longer = append(longer, with(l, cat, lev))
			}
		}
		out = longer
	}
	return out
}

// long is a fit label of n pairs: every step-th category from first on, all at one level.
func long(n int, first, step uint64, lev int) api.Label {
	var l api.Label
	for i := range n {
		l = append(l, api.Pair{Cat: first + uint64(i)*step, Lev: lev})
	}
	return l
}

// one is the label of category 7 at a level.
func one(lev int) api.Label { return with(nil, 7, lev) }

// up is a level with ownership above all, down one with what is above all as ownership.
func up(lev int) int {
	if lev == api.Star {
		return api.Above
	}
	return lev
}

func down(lev int) int {
	if lev == api.Above {
		return api.Star
	}
	return lev
}

// What the chapter says, of one category's levels: a label's word is that of all its categories.
func observes(t, o int) bool { return o <= up(t) }
func modifies(t, o int) bool { return observes(t, o) && t <= o }
func places(d, o int) bool   { return d <= max(up(o), api.Lev1) }

func creates(t, clear, o int) bool {
	return o != api.Star && o != api.Above && t <= o && o <= clear
}

func spawns(t, clear, n, nc int) bool {
	return n != api.Above && nc != api.Above && t <= n && n <= nc && nc <= clear
}

func becomes(t, clear, n int) bool { return n != api.Above && t <= n && n <= clear }

func clears(t, clear, n int) bool {
	return n != api.Above && t <= n && n <= max(clear, up(t))
}

func enters(t, clear, grant, gclear, n, nc int) bool {
	return n != api.Above && nc != api.Above && t <= gclear &&
		down(max(up(t), up(grant))) <= n && n <= nc && nc <= max(clear, gclear)
}

// named are the categories that are named by labels, rising, none twice.
func named(labels ...api.Label) []uint64 {
	var cats []uint64
	for _, l := range labels {
		for _, p := range l {
			cats = append(cats, p.Cat)
		}
	}
	slices.Sort(cats)
	return slices.Compact(cats)
}

// hidden are the categories that Hides should tell.
func hidden(t, watch api.Label) []uint64 {
	var out []uint64
	for _, cat := range named(t, watch) {
		if up(said(t, cat)) > said(watch, cat) {
			out = append(out, cat)
		}
	}
	return out
}

// rows hands out all rows of n levels.
func rows(n int) [][]int {
	out := [][]int{nil}
	for range n {
		var longer [][]int
		for _, r := range out {
			for _, lev := range levs {
				longer = append(longer, append(slices.Clone(r), lev))
			}
		}
		out = longer
	}
	return out
}

// call is a function of n labels, and what it should tell of n levels of one category.
type call struct {
	name string
	n    int
	ask  func(l []api.Label) bool
	want func(x []int) bool
}

// calls are those that answer yes or no.
func calls() []call {
	return []call{
		{"Observe", 2, func(l []api.Label) bool { return Observe(l[0], l[1]) },
			func(x []int) bool { return observes(x[0], x[1]) }},
		{"Modify", 2, func(l []api.Label) bool { return Modify(l[0], l[1]) },
			func(x []int) bool { return modifies(x[0], x[1]) }},
		{"Place", 2, func(l []api.Label) bool { return Place(l[0], l[1]) },
			func(x []int) bool { return places(x[0], x[1]) }},
		{"Create", 3, func(l []api.Label) bool { return Create(l[0], l[1], l[2]) },
			func(x []int) bool { return creates(x[0], x[1], x[2]) }},
		{"Spawn", 4, func(l []api.Label) bool { return Spawn(l[0], l[1], l[2], l[3]) },
			func(x []int) bool { return spawns(x[0], x[1], x[2], x[3]) }},
		{"Become", 3, func(l []api.Label) bool { return Become(l[0], l[1], l[2]) },
			func(x []int) bool { return becomes(x[0], x[1], x[2]) }},
		{"Clear", 3, func(l []api.Label) bool { return Clear(l[0], l[1], l[2]) },
			func(x []int) bool { return clears(x[0], x[1], x[2]) }},
		{"Enter", 6, func(l []api.Label) bool { return Enter(l[0], l[1], l[2], l[3], l[4], l[5]) },
			func(x []int) bool { return enters(x[0], x[1], x[2], x[3], x[4], x[5]) }},
	}
}

// P3.1 to P3.3: each call, of all levels of one category: the least, one between, the greatest.
func TestCallsOfOneCategory(t *testing.T) {
	for _, c := range calls() {
		for _, x := range rows(c.n) {
			for _, cat := range []uint64{0, 7, top} {
				var l []api.Label
				for _, lev := range x {
					l = append(l, with(nil, cat, lev))
				}
				if got := c.ask(l); got != c.want(x) {
					t.Fatalf("%s of %d at the levels %v is %v", c.name, cat, x, got)
				}
			}
		}
	}
}

// P3.1 to P3.3: of two categories both must be allowed; which one forbids is all the same.
func TestCallsOfTwoCategories(t *testing.T) {
	for _, c := range calls() {
		xs := rows(c.n)
		step := 1 + len(xs)*len(xs)/300000
		for i, x := range xs {
			for k := i % step; k < len(xs); k += step {
				var l []api.Label
				for at := range x {
					l = append(l, with(with(nil, 3, x[at]), 8, xs[k][at]))
				}
				if got := c.ask(l); got != (c.want(x) && c.want(xs[k])) {
					t.Fatalf("%s of %v is %v", c.name, l, got)
				}
			}
		}
	}
}

// P3.1 to P3.3: many categories that all allow it do so together; one that does not forbids it, wherever it stands.
func TestCallsOfManyCategories(t *testing.T) {
	for _, c := range calls() {
		var may, not [][]int
		for _, x := range rows(c.n) {
			if c.want(x) {
				may = append(may, x)
			} else {
				not = append(not, x)
			}
		}
		l := make([]api.Label, c.n)
		for i := range may {
			for at := range l {
				l[at] = with(l[at], uint64(3*i+1), may[i][at])
			}
		}
		if !c.ask(l) {
			t.Errorf("%s is false of %d categories that all allow it", c.name, len(may))
		}
		for i := 0; i < len(not); i += 1 + len(not)/40 {
			for _, cat := range []uint64{0, 2, uint64(3*len(may)) / 6 * 3, top} {
				worse := make([]api.Label, c.n)
				for at := range worse {
					worse[at] = put(l[at], cat, not[i][at])
				}
				if c.ask(worse) {
					t.Errorf("%s is true, though %d forbids it by %v", c.name, cat, not[i])
				}
			}
		}
	}
}

// put is a label with a category that it does not name yet.
func put(l api.Label, cat uint64, lev int) api.Label {
	if lev == api.Lev1 {
		return slices.Clone(l)
	}
	at := slices.IndexFunc(l, func(p api.Pair) bool { return p.Cat > cat })
	if at < 0 {
		at = len(l)
	}
	return slices.Insert(slices.Clone(l), at, api.Pair{Cat: cat, Lev: lev})
}

// P3.1 to P3.3: no pairs are no less than 1 everywhere, and no more; empty is none.
func TestCallsOfNoPairs(t *testing.T) {
	for _, c := range calls() {
		if !c.ask(make([]api.Label, c.n)) {
			t.Errorf("%s of no pairs is false", c.name)
		}
		empty := make([]api.Label, c.n)
		for i := range empty {
			empty[i] = api.Label{}
		}
		if !c.ask(empty) {
			t.Errorf("%s of empty labels is false", c.name)
		}
	}
}

// wantRow holds an answer of a row that is written out against what the chapter says.
func wantRow(t *testing.T, what string, got, want bool) {
	t.Helper()
	if got != want {
		t.Errorf("%s is %v", what, got)
	}
}

// P3.1: rows written out, by the chapter's words.
func TestSeeingRows(t *testing.T) {
	own, low, mid, high, above := one(api.Star), one(api.Lev0), one(api.Lev2), one(api.Lev3), one(api.Above)
	wantRow(t, "Observe of what is secret, of no pairs", Observe(nil, high), false)
	wantRow(t, "Observe of what is secret, by its owner", Observe(own, high), true)
	wantRow(t, "Observe of what is above all, by its owner", Observe(own, above), true)
	wantRow(t, "Observe of what is above all, at 3", Observe(high, above), false)
	wantRow(t, "Observe of what is more trusted", Observe(nil, low), true)
	wantRow(t, "Observe by who is less than 1", Observe(low, nil), false)
	wantRow(t, "Observe of what is owned by who is at 0", Observe(low, own), true)
	wantRow(t, "Observe by the owner of another category", Observe(with(nil, 6, api.Star), high), false)

	wantRow(t, "Modify of what is more trusted", Modify(nil, low), false)
	wantRow(t, "Modify of what is more trusted, by its owner", Modify(own, low), true)
	wantRow(t, "Modify of what is more secret", Modify(nil, high), false)
	wantRow(t, "Modify of what is more secret, by its owner", Modify(own, high), true)
	wantRow(t, "Modify of what is less secret", Modify(high, mid), false)
	wantRow(t, "Modify of what is as secret", Modify(mid, mid), true)
	wantRow(t, "Modify of no pairs, by who is secret", Modify(high, nil), false)

	wantRow(t, "Place of what is less secret in what is more", Place(high, mid), false)
	wantRow(t, "Place of what is more secret in what is less", Place(mid, high), true)
	wantRow(t, "Place of what is at 0 in what is at 1", Place(nil, low), true)
	wantRow(t, "Place of what is at 0 in what is at 2", Place(mid, low), false)
	wantRow(t, "Place of what is owned in what is at 3", Place(high, own), true)
	wantRow(t, "Place of what is owned in what is above all", Place(above, own), true)
	wantRow(t, "Place of what is at 3 in what is above all", Place(above, high), false)
	wantRow(t, "Place of no pairs in what is owned", Place(own, nil), true)
}

// P3.2: rows written out: what may be made, and become.
func TestMakingRows(t *testing.T) {
	own, low, mid, high, above := one(api.Star), one(api.Lev0), one(api.Lev2), one(api.Lev3), one(api.Above)
	wantRow(t, "Create of what is owned", Create(own, high, own), false)
	wantRow(t, "Create of what is above all", Create(own, above, above), false)
	wantRow(t, "Create of what is more trusted, by its owner", Create(own, high, low), true)
	wantRow(t, "Create of what is more trusted", Create(nil, high, low), false)
	wantRow(t, "Create up to the clearance", Create(nil, mid, mid), true)
	wantRow(t, "Create above the clearance", Create(nil, mid, high), false)
	wantRow(t, "Create above the clearance, by the owner", Create(own, mid, high), false)

	wantRow(t, "Spawn of an owner by one", Spawn(own, high, own, high), true)
	wantRow(t, "Spawn of an owner by none", Spawn(nil, high, own, high), false)
	wantRow(t, "Spawn above its own clearance", Spawn(nil, high, high, mid), false)
	wantRow(t, "Spawn with more clearance", Spawn(nil, mid, nil, high), false)
	wantRow(t, "Spawn with a label above all", Spawn(nil, above, above, above), false)
	wantRow(t, "Spawn with a clearance above all", Spawn(nil, above, nil, above), false)

	wantRow(t, "Become more secret", Become(nil, high, high), true)
	wantRow(t, "Become more secret than the clearance", Become(nil, mid, high), false)
	wantRow(t, "Become less secret", Become(high, high, mid), false)
	wantRow(t, "Become less than owner", Become(own, high, low), true)
	wantRow(t, "Become owner", Become(low, high, own), false)
	wantRow(t, "Become above all", Become(nil, above, above), false)
	wantRow(t, "Become above all, as an owner", Become(own, above, above), false)

	wantRow(t, "Clear of less", Clear(nil, high, mid), true)
	wantRow(t, "Clear of more", Clear(nil, mid, high), false)
	wantRow(t, "Clear of more, by the owner", Clear(own, mid, high), true)
	wantRow(t, "Clear above all, by the owner", Clear(own, mid, above), false)
	wantRow(t, "Clear below the label", Clear(mid, high, nil), false)
	wantRow(t, "Clear up to the label, above the clearance", Clear(high, mid, high), true)
}

// P3.3: rows written out: gates whose grant owns what the thread does not, and the other way round.
func TestEnterRows(t *testing.T) {
	own, low, mid, high, above := one(api.Star), one(api.Lev0), one(api.Lev2), one(api.Lev3), one(api.Above)
	wantRow(t, "to own by the grant", Enter(nil, high, own, high, own, high), true)
	wantRow(t, "to own by the grant, from 3", Enter(high, high, own, high, own, high), true)
	wantRow(t, "to come down by the grant", Enter(high, high, own, high, nil, high), true)
	wantRow(t, "to keep what is owned", Enter(own, high, high, high, own, high), true)
	wantRow(t, "to own what nobody does", Enter(low, high, low, high, own, high), false)
	wantRow(t, "to own another category than the grant", Enter(nil, high, with(nil, 6, api.Star), high, own, high), false)
	wantRow(t, "to come down where nobody owns", Enter(high, high, nil, high, mid, high), false)
	wantRow(t, "to be less than the grant", Enter(nil, high, mid, high, nil, high), false)
	wantRow(t, "to be as the grant", Enter(nil, high, mid, high, mid, high), true)
	wantRow(t, "to be more than the gate's clearance", Enter(high, high, own, mid, high, high), false)
	wantRow(t, "to be more than the gate's clearance, as an owner", Enter(own, high, nil, low, nil, high), true)
	wantRow(t, "to have the gate's clearance", Enter(nil, nil, nil, high, nil, high), true)
	wantRow(t, "to have the thread's clearance", Enter(nil, high, nil, nil, nil, high), true)
	wantRow(t, "to have more than both clearances", Enter(nil, mid, nil, mid, nil, high), false)
	wantRow(t, "to have less clearance than label", Enter(nil, high, nil, high, high, mid), false)
	wantRow(t, "to be above all", Enter(own, above, own, above, above, above), false)
	wantRow(t, "to be cleared above all", Enter(own, above, own, above, own, above), false)
}

// P3.4: Hides of all labels of two categories, and of such as name others.
func TestHides(t *testing.T) {
	labels := append(all(0, top), all(3, 8)...)
	for _, a := range labels {
		for _, w := range labels {
			if got := Hides(a, w); !slices.Equal(got, hidden(a, w)) || len(got) == 0 && got != nil {
				t.Errorf("Hides(%v, %v) is %v, not %v", a, w, got, hidden(a, w))
			}
		}
	}
	if got := Hides(api.Label{}, api.Label{}); got != nil {
		t.Errorf("Hides of empty labels is %v, not none", got)
	}
}

// P3.4: rows written out: categories that the thread, the observer, or both of them name; rising.
func TestHidesRows(t *testing.T) {
	own, low, mid, high, above := one(api.Star), one(api.Lev0), one(api.Lev2), one(api.Lev3), one(api.Above)
	table := []struct {
		t, watch api.Label
		want     []uint64
	}{
		{own, nil, []uint64{7}},
		{own, high, []uint64{7}},
		{own, own, []uint64{7}},
		{own, above, nil},
		{nil, own, []uint64{7}},
		{nil, low, []uint64{7}},
		{low, nil, nil},
		{low, low, nil},
		{low, own, []uint64{7}},
		{mid, high, nil},
		{high, mid, []uint64{7}},
		{high, high, nil},
		{api.Label{{Cat: 2, Lev: api.Star}, {Cat: 4, Lev: api.Lev3}, {Cat: 6, Lev: api.Lev0}},
			api.Label{{Cat: 1, Lev: api.Lev0}, {Cat: 4, Lev: api.Lev2}, {Cat: 5, Lev: api.Lev3}, {Cat: 9, Lev: api.Star}},
			[]uint64{1, 2, 4, 9}},
		{api.Label{{Cat: 0, Lev: api.Lev2}, {Cat: top, Lev: api.Lev2}}, nil, []uint64{0, top}},
		{nil, api.Label{{Cat: 0, Lev: api.Lev0}, {Cat: top, Lev: api.Lev0}}, []uint64{0, top}},
	}
	for _, r := range table {
		if got := Hides(r.t, r.watch); !slices.Equal(got, r.want) {
			t.Errorf("Hides(%v, %v) is %v, not %v", r.t, r.watch, got, r.want)
		}
	}
}

// P3.4: what is handed out may be left early, and gone through again.
func TestExceedingIsLeftAndAgain(t *testing.T) {
	seq := exceeding(long(5, 1, 1, api.Lev3), long(2, 8, 1, api.Star))
	for range 2 {
		var got []uint64
		for cat := range seq {
			got = append(got, cat)
			if len(got) == 3 {
				break
			}
		}
		if !slices.Equal(got, []uint64{1, 2, 3}) {
			t.Errorf("the first three are %v", got)
		}
		if got := slices.Collect(seq); !slices.Equal(got, []uint64{1, 2, 3, 4, 5, 8, 9}) {
			t.Errorf("all are %v", got)
		}
	}
}

// seen tells whether an observer has nothing that hides a thread.
func seen(t, watch api.Label) bool { return len(Hides(t, watch)) == 0 }

// below tells whether a label is at most another, category by category.
func below(a, b api.Label) bool {
	return !slices.ContainsFunc(named(a, b), func(cat uint64) bool { return said(a, cat) > said(b, cat) })
}

// P3.5: who is seen sees nothing that the observer may not see.
func TestNothingAboveIsSeen(t *testing.T) {
	labels, count := all(2, 9), 0
	for _, a := range labels {
		for _, w := range labels {
			if !seen(a, w) {
				continue
			}
			for _, o := range labels {
				if Observe(a, o) {
					count++
					if !below(o, w) {
						t.Errorf("%v is seen by %v and sees %v", a, w, o)
					}
				}
			}
		}
	}
	if count == 0 {
		t.Error("nobody sees anything")
	}
}

// ownsAll tells whether each of cats is owned in one label at least.
func ownsAll(cats []uint64, labels ...api.Label) bool {
	return !slices.ContainsFunc(cats, func(cat uint64) bool {
		return !slices.ContainsFunc(labels, func(l api.Label) bool { return said(l, cat) == api.Star })
	})
}

// P3.6: who is not seen, and may change what the observer sees, owns each category that hides it.
func TestOnlyOwnersTell(t *testing.T) {
	labels, count := all(2, 9), 0
	for _, a := range labels {
		for _, w := range labels {
			cats := Hides(a, w)
			if len(cats) == 0 {
				continue
			}
			for _, o := range labels {
				if below(o, w) && Modify(a, o) {
					count++
					if !ownsAll(cats, a) {
						t.Errorf("%v is hidden from %v by %v and changes %v", a, w, cats, o)
					}
				}
			}
		}
	}
	if count == 0 {
		t.Error("nobody who is hidden tells")
	}
}

// P3.6: who is hidden by two categories and owns but one changes nothing that the observer sees; who owns both does.
func TestOwnerOfOneOfTwo(t *testing.T) {
	half := api.Label{{Cat: 2, Lev: api.Star}, {Cat: 9, Lev: api.Lev3}}
	whole := api.Label{{Cat: 2, Lev: api.Star}, {Cat: 9, Lev: api.Star}}
	for _, a := range []api.Label{half, whole} {
		if got := Hides(a, nil); !slices.Equal(got, []uint64{2, 9}) {
			t.Errorf("Hides(%v) is %v", a, got)
		}
	}
	for _, o := range all(2, 9) {
		if below(o, nil) && Modify(half, o) {
			t.Errorf("%v changes %v", half, o)
		}
	}
	wantRow(t, "Modify by who owns both", Modify(whole, nil), true)
	for _, n := range all(2, 9) {
		if seen(n, nil) && Become(half, with(nil, 9, api.Lev3), n) {
			t.Errorf("%v comes back as %v", half, n)
		}
	}
	wantRow(t, "Become of no pairs, by who owns both", Become(whole, nil, nil), true)
}

// P3.7: who was hidden, and is seen behind a change of its label, owned each category that hid it.
func TestOnlyOwnersComeBack(t *testing.T) {
	labels, count := all(2, 9), 0
	widest := api.Label{{Cat: 2, Lev: api.Above}, {Cat: 9, Lev: api.Above}}
	for _, a := range labels {
		for _, n := range labels {
			if !Become(a, widest, n) {
				continue
			}
			for _, w := range labels {
				if !seen(a, w) && seen(n, w) {
					count++
					if cats := Hides(a, w); !ownsAll(cats, a) {
						t.Errorf("%v is hidden from %v by %v and comes back as %v", a, w, cats, n)
					}
				}
			}
		}
	}
	if count == 0 {
		t.Error("nobody comes back")
	}
}

// P3.7: who was hidden, and is seen behind a gate, or the gate, owned each category that hid it. (Neither a thread's label nor a gate's is above all: nothing gives them such.)
func TestOnlyOwnersComeBackByGates(t *testing.T) {
	kept := slices.DeleteFunc(all(2, 9), func(l api.Label) bool {
		return slices.ContainsFunc(l, func(p api.Pair) bool { return p.Lev == api.Above })
	})
	wide, count := api.Label{{Cat: 2, Lev: api.Lev3}, {Cat: 9, Lev: api.Lev3}}, 0
	for _, a := range kept {
		for _, grant := range kept {
			for _, n := range kept {
				if !Enter(a, wide, grant, wide, n, wide) {
					continue
				}
				for _, w := range all(2, 9) {
					cats := Hides(a, w)
					if len(cats) > 0 && seen(n, w) {
						count++
						if !ownsAll(cats, a, grant) {
							t.Errorf("%v is hidden from %v by %v and comes back by %v as %v", a, w, cats, grant, n)
						}
					}
				}
			}
		}
	}
	if count == 0 {
		t.Error("nobody comes back by a gate")
	}
}

// P3.7: what a thread makes, and becomes, is at least its own label.
func TestWhatIsMadeIsNotLess(t *testing.T) {
	labels := all(2, 9)
	wide := api.Label{{Cat: 2, Lev: api.Lev3}, {Cat: 9, Lev: api.Lev3}}
	for _, a := range labels {
		for _, n := range labels {
			made := Create(a, wide, n) || Spawn(a, wide, n, wide) || Become(a, wide, n) || Clear(a, wide, n)
			if made && !below(a, n) {
				t.Errorf("%v makes %v", a, n)
			}
		}
	}
}

// P3.1 to P3.4: labels of the most pairs that are promised, laid between each other.
func TestMostPairs(t *testing.T) {
	const most = 1 << 16
	high, low := long(most, 1, 2, api.Lev3), long(most, 0, 2, api.Lev0)
	own := long(most, 1, 2, api.Star)
	wantRow(t, "Observe of as much", Observe(high, high), true)
	wantRow(t, "Observe of one pair more", Observe(high[:most-1], high), false)
	wantRow(t, "Observe by the owner", Observe(own, high), true)
	wantRow(t, "Modify by the owner", Modify(own, high), true)
	wantRow(t, "Place of more in less", Place(high[:most-1], high), true)
	wantRow(t, "Place of less in more", Place(high, high[:most-1]), false)
	wantRow(t, "Create of as much", Create(own, high, high), true)
	wantRow(t, "Create of one pair more", Create(own, high[:most-1], high), false)
	wantRow(t, "Spawn of as much", Spawn(own, high, own, high), true)
	wantRow(t, "Become as much", Become(own, high, high), true)
	wantRow(t, "Clear as much", Clear(own, nil, high), true)
	wantRow(t, "Enter to own", Enter(nil, high, own, high, own, high), true)
	wantRow(t, "Enter to own one more", Enter(nil, high, own[:most-1], high, own, high), false)
	if got := Hides(high, low); !slices.Equal(got, named(high, low)) {
		t.Errorf("Hides is %d categories, not %d", len(got), 2*most)
	}
	if got := Hides(low, high); got != nil {
		t.Errorf("Hides is %d categories, not none", len(got))
	}
	if got := Hides(own, high); !slices.Equal(got, named(own)) {
		t.Errorf("Hides of the owner is %d categories, not %d", len(got), most)
	}
}

// roomy is a copy of a label with room behind it, which is filled, so that a call that writes there is found out.
func roomy(l api.Label) api.Label {
	out := append(slices.Clone(l), api.Pair{Cat: 99, Lev: 99}, api.Pair{Cat: 99, Lev: 99})
	return out[:len(l)]
}

// P3.1 to P3.4: no argument is changed, nor what lies behind it; what is told shares nothing with a later answer.
func TestArgumentsStay(t *testing.T) {
	labels := []api.Label{
		nil, one(api.Star), one(api.Above), {{Cat: 1, Lev: api.Lev0}, {Cat: 7, Lev: api.Lev3}, {Cat: 8, Lev: api.Star}},
		long(16, 3, 2, api.Star),
	}
	for _, c := range calls() {
		for i := range labels {
			var args, were []api.Label
			for k := range c.n {
				l := roomy(labels[(i+k*k)%len(labels)])
				args, were = append(args, l), append(were, slices.Clone(l[:cap(l)]))
			}
			c.ask(args)
			for k, l := range args {
				if !slices.Equal(l[:cap(l)], were[k]) {
					t.Errorf("%s changes %v to %v", c.name, were[k], l[:cap(l)])
				}
			}
		}
	}
	for _, a := range labels {
		for _, w := range labels {
			x, y := roomy(a), roomy(w)
			got := Hides(x, y)
			for i := range got[:cap(got)] {
				got[:cap(got)][i] = 5
			}
			if !slices.Equal(x[:cap(x)], roomy(a)[:cap(x)]) || !slices.Equal(y[:cap(y)], roomy(w)[:cap(y)]) {
				t.Errorf("Hides changes %v or %v", a, w)
			}
			if again := Hides(a, w); !slices.Equal(again, hidden(a, w)) {
				t.Errorf("Hides(%v, %v) is %v behind a change of what it told", a, w, again)
			}
		}
	}
}

// Rule 0.1: labels that are not fit end too, without a panic.
func TestUnfitLabelsEnd(t *testing.T) {
	bad := []api.Label{
		nil,
		{{Cat: 7, Lev: api.Lev1}},
		{{Cat: 7, Lev: -1}},
		{{Cat: 7, Lev: 6}, {Cat: 7, Lev: math.MaxInt}},
		{{Cat: 8, Lev: math.MinInt}, {Cat: 7, Lev: 5}},
		{{Cat: top, Lev: 0}, {Cat: 0, Lev: 4}, {Cat: top, Lev: 5}, {Cat: 0, Lev: 0}},
	}
	for _, c := range calls() {
		for n := range int(math.Pow(float64(len(bad)), float64(c.n))) {
			var l []api.Label
			for range c.n {
				l = append(l, bad[n%len(bad)])
				n /= len(bad)
			}
			c.ask(l)
		}
	}
	for _, a := range bad {
		for _, w := range bad {
			Hides(a, w)
		}
	}
}
