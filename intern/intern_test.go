package intern

import (
	"fmt"
	"math"
	"slices"
	"testing"

	"curtilage/api"
)

// top is the greatest category, and most the greatest Count.
const (
	top  = math.MaxUint64
	most = 1 << 30
)

// place is a label and a count of one place.
type place struct {
	l api.Label
	n int
}

// tableOf is a table of places.
func tableOf(ps ...place) api.Table {
	var t api.Table
	for _, p := range ps {
		t.Labels = append(t.Labels, p.l)
		t.Counts = append(t.Counts, p.n)
	}
	return t
}

// one is a label of one pair.
func one(cat uint64, lev int) api.Label { return api.Label{{Cat: cat, Lev: lev}} }

// long is a fit label of n pairs, from a category on.
func long(n int, first uint64) api.Label {
	var l api.Label
	turn := []int{api.Above, api.Lev3, api.Lev2, api.Lev0, api.Star}
	for i := range n {
		l = append(l, api.Pair{Cat: first + uint64(i), Lev: turn[i%len(turn)]})
	}
	return l
}

// many is a table of n places with unlike labels, asked for once each.
func many(n int) api.Table {
	var ps []place
	for i := range n {
		ps = append(ps, place{one(uint64(i), api.Lev3), 1})
	}
	return tableOf(ps...)
}

// unfits are labels that a table may not keep: not fit, each for one cause, or of more than MaxPairs pairs.
func unfits() []api.Label {
	out := []api.Label{
		one(7, api.Lev1), one(7, -1), one(7, 6), one(7, math.MaxInt), one(7, math.MinInt), one(7, 1<<32+4),
		{{Cat: 9, Lev: api.Star}, {Cat: 7, Lev: api.Lev3}},
		{{Cat: 7, Lev: api.Lev3}, {Cat: 7, Lev: api.Lev3}},
		{{Cat: 7, Lev: api.Lev3}, {Cat: 7, Lev: api.Star}},
		{{Cat: 7, Lev: api.Lev3}, {Cat: 9, Lev: api.Lev1}},
		long(17, 0), long(18, 3), long(1<<16, 0),
	}
	for _, n := range []int{16, 17, 1 << 16} {
		l := long(n, 0)
		l[n-1].Cat = l[n-2].Cat
		out = append(out, l)
	}
	return out
}

// rows are all rows of at most n items, the row of none ahead.
func rows[T any](items []T, n int) [][]T {
	out := [][]T{nil}
	last := out
	for range n {
		var longer [][]T
		for _, row := range last {
			for _, item := range items {
				longer = append(longer, append(slices.Clone(row), item))
			}
		}
		out = append(out, longer...)
		last = longer
	}
	return out
}

// clone is a table in other memory.
func clone(t api.Table) api.Table {
	out := api.Table{Counts: slices.Clone(t.Counts)}
	for _, l := range t.Labels {
		out.Labels = append(out.Labels, slices.Clone(l))
	}
	return out
}

// keepable tells whether a table may keep a label, without other packages.
func keepable(l api.Label) bool {
	for i, p := range l {
		if p.Lev < api.Star || p.Lev > api.Above || p.Lev == api.Lev1 || i > 0 && p.Cat <= l[i-1].Cat {
			return false
		}
	}
	return len(l) <= 16
}

// isFit tells whether a table is fit, by the chapter's words.
func isFit(t api.Table) bool {
	if len(t.Counts) != len(t.Labels) || len(t.Labels) > 64 {
		return false
	}
	for i, l := range t.Labels {
		if t.Counts[i] < 0 || t.Counts[i] > most || !keepable(l) || t.Counts[i] == 0 && len(l) != 0 {
			return false
		}
		for j := range i {
			if t.Counts[i] != 0 && t.Counts[j] != 0 && slices.Equal(l, t.Labels[j]) {
				return false
			}
		}
	}
	return len(t.Counts) == 0 || t.Counts[len(t.Counts)-1] != 0
}

// alike tells whether two tables are the same, without other packages.
func alike(a, b api.Table) bool {
	return fmt.Sprint(len(a.Labels), a.Labels, a.Counts) == fmt.Sprint(len(b.Labels), b.Labels, b.Counts)
}

// placeOf is where a label is in a fit table, -1 if nowhere.
func placeOf(t api.Table, l api.Label) int {
	for i := range t.Labels {
		if t.Counts[i] > 0 && slices.Equal(t.Labels[i], l) {
			return i
		}
	}
	return -1
}

// added is what Add is to tell of a fit table.
func added(t api.Table, l api.Label) (api.Table, int, api.Errno) {
	out := clone(t)
	if !keepable(l) {
		return out, 0, api.ErrArg
	}
	if at := placeOf(t, l); at >= 0 {
		if t.Counts[at] == most {
			return out, 0, api.ErrRange
		}
		out.Counts[at]++
		return out, at, api.OK
	}
	for i, n := range t.Counts {
		if n == 0 {
			out.Labels[i], out.Counts[i] = l, 1
			return out, i, api.OK
		}
	}
	if len(t.Counts) == 64 {
		return out, 0, api.ErrFull
	}
	out.Labels, out.Counts = append(out.Labels, l), append(out.Counts, 1)
	return out, len(t.Counts), api.OK
}

// dropped is what Drop is to tell of a fit table.
func dropped(t api.Table, at int) (api.Table, api.Errno) {
	out := clone(t)
	if at < 0 || at >= len(t.Counts) || t.Counts[at] == 0 {
		return out, api.ErrName
	}
	out.Counts[at]--
	if out.Counts[at] == 0 {
		out.Labels[at] = nil
	}
	for n := len(out.Counts) - 1; n >= 0 && out.Counts[n] == 0; n-- {
		out.Labels, out.Counts = out.Labels[:n], out.Counts[:n]
	}
	return out, api.OK
}

// wantNone holds against a table that its lists without items are none.
func wantNone(t *testing.T, tb api.Table) {
	t.Helper()
	if len(tb.Labels) == 0 && tb.Labels != nil || len(tb.Counts) == 0 && tb.Counts != nil {
		t.Errorf("a table without places has lists")
	}
	for at, l := range tb.Labels {
		if len(l) == 0 && l != nil {
			t.Errorf("place %d has a list without pairs, not none", at)
		}
	}
}

// wantAdd holds what Add tells of a fit table against the chapter's words.
func wantAdd(t *testing.T, tb api.Table, l api.Label) {
	t.Helper()
	want, wantAt, wantErr := added(tb, l)
	got, at, err := Add(tb, l)
	if !alike(got, want) || at != wantAt || err != wantErr {
		t.Errorf("Add(%v, %.200v) is %v, %d, %v, not %v, %d, %v", tb, l, got, at, err, want, wantAt, wantErr)
	}
	wantNone(t, got)
}

// wantDrop holds what Drop and Get tell of a fit table's place against the chapter's words.
func wantDrop(t *testing.T, tb api.Table, at int) {
	t.Helper()
	want, wantErr := dropped(tb, at)
	got, err := Drop(tb, at)
	if !alike(got, want) || err != wantErr {
		t.Errorf("Drop(%v, %d) is %v, %v, not %v, %v", tb, at, got, err, want, wantErr)
	}
	wantNone(t, got)
	var wantLabel api.Label
	if wantErr == api.OK {
		wantLabel = tb.Labels[at]
	}
	l, err := Get(tb, at)
	if !slices.Equal(l, wantLabel) || err != wantErr || len(l) == 0 && l != nil {
		t.Errorf("Get(%v, %d) is %v, %v, not %v, %v", tb, at, l, err, wantLabel, wantErr)
	}
}

// wantFind holds what Find and Used tell of a fit table against the chapter's words.
func wantFind(t *testing.T, tb api.Table, l api.Label) {
	t.Helper()
	want := placeOf(tb, l)
	at, ok := Find(tb, l)
	if ok != (want >= 0) || ok && at != want || !ok && at != 0 {
		t.Errorf("Find(%v, %.200v) is %d, %t, not %d", tb, l, at, ok, want)
	}
	used := 0
	for _, n := range tb.Counts {
		if n != 0 {
			used++
		}
	}
	if got := Used(tb); got != used {
		t.Errorf("Used(%v) is %d, not %d", tb, got, used)
	}
}

// someLabels are fit labels that differ in one thing each.
func someLabels() []api.Label {
	return []api.Label{nil, one(7, api.Lev3), one(7, api.Star), one(8, api.Lev3), {{Cat: 7, Lev: api.Lev3}, {Cat: 8, Lev: api.Star}}, one(0, api.Above), one(top, api.Lev0), long(16, 3)}
}

// smallTables are all tables of at most n of a few places, fit and not.
func smallTables(n int) []api.Table {
	items := []place{
		{nil, 0}, {nil, 1}, {nil, 2}, {nil, most}, {nil, -1},
		{one(7, api.Lev3), 0}, {one(7, api.Lev3), 1}, {one(7, api.Lev3), most}, {one(7, api.Lev3), most + 1},
		{one(7, api.Star), 1}, {one(7, api.Lev1), 1}, {long(16, 3), 2}, {long(17, 3), 1},
	}
	var out []api.Table
	for _, row := range rows(items, n) {
		out = append(out, tableOf(row...))
	}
	return out
}

// P5.1: Fit by each of the chapter's words.
func TestFit(t *testing.T) {
	a, b := one(7, api.Lev3), one(7, api.Star)
	table := []struct {
		name string
		t    api.Table
		want bool
	}{
		{"nothing", api.Table{}, true},
		{"lists without items", api.Table{Labels: []api.Label{}, Counts: []int{}}, true},
		{"a label", tableOf(place{a, 1}), true},
		{"no pairs, asked for", tableOf(place{nil, 1}), true},
		{"an empty label, asked for", tableOf(place{api.Label{}, 1}), true},
		{"2^30", tableOf(place{a, most}), true},
		{"above 2^30", tableOf(place{a, most + 1}), false},
		{"far above 2^30", tableOf(place{a, math.MaxInt}), false},
		{"2^32, which is 0 in fewer bits", tableOf(place{a, 1 << 32}), false},
		{"below 0", tableOf(place{a, -1}), false},
		{"far below 0", tableOf(place{a, math.MinInt}), false},
		{"below 0 and no pairs", tableOf(place{nil, -1}, place{a, 1}), false},
		{"a place between others free", tableOf(place{a, 1}, place{nil, 0}, place{b, 1}), true},
		{"the first places free", tableOf(place{nil, 0}, place{api.Label{}, 0}, place{b, 1}), true},
		{"a label where nobody asks", tableOf(place{a, 0}, place{b, 1}), false},
		{"a label where nobody asks, kept elsewhere", tableOf(place{a, 0}, place{a, 1}), false},
		{"one label at two places", tableOf(place{a, 1}, place{a, 2}), false},
		{"one label at two places, others between", tableOf(place{b, 1}, place{a, 1}, place{nil, 0}, place{nil, 3}, place{a, 1}), false},
		{"no pairs at two places", tableOf(place{nil, 1}, place{a, 1}, place{api.Label{}, 1}), false},
		{"no pairs at two places, one free", tableOf(place{nil, 0}, place{a, 1}, place{nil, 1}), true},
		{"no pairs at two places, the latter free", tableOf(place{nil, 1}, place{nil, 0}, place{a, 1}), true},
		{"the last Count 0", tableOf(place{a, 1}, place{nil, 0}), false},
		{"the only Count 0", tableOf(place{nil, 0}), false},
		{"a Count more", api.Table{Labels: []api.Label{a}, Counts: []int{1, 1}}, false},
		{"a Label more", api.Table{Labels: []api.Label{a, b}, Counts: []int{1}}, false},
		{"an empty Label more", api.Table{Labels: []api.Label{a, nil}, Counts: []int{1}}, false},
		{"Counts alone", api.Table{Counts: []int{1}}, false},
		{"Labels alone", api.Table{Labels: []api.Label{nil}}, false},
		{"16 pairs", tableOf(place{long(16, 0), 1}), true},
		{"17 pairs", tableOf(place{long(17, 0), 1}), false},
		{"63 places", many(63), true},
		{"64 places", many(64), true},
		{"65 places", many(65), false},
		{"many places", many(1 << 16), false},
	}
	for _, r := range table {
		if got := Fit(r.t); got != r.want || got != isFit(r.t) {
			t.Errorf("%s: Fit is %t, not %t", r.name, got, r.want)
		}
	}
	for i, l := range unfits() {
		if Fit(tableOf(place{l, 1})) || Fit(tableOf(place{a, 1}, place{l, 1}, place{b, 1})) || Fit(tableOf(place{l, 0}, place{b, 1})) {
			t.Errorf("a table with label %d, which none may keep, is fit", i)
		}
	}
}

// P5.1: Fit of a full table with one thing wrong at any place.
func TestFitOfFullTables(t *testing.T) {
	for at := range 64 {
		wrong := []place{{one(99, api.Lev3), -1}, {one(99, api.Lev3), most + 1}, {one(99, api.Lev3), 0}, {one(99, api.Lev1), 1}, {long(17, 99), 1}, {one(uint64(at+1)%64, api.Lev3), 1}}
		for _, p := range wrong {
			tb := many(64)
			tb.Labels[at], tb.Counts[at] = p.l, p.n
			if Fit(tb) {
				t.Errorf("a table is fit with %v at %d", p, at)
			}
		}
		tb := many(64)
		tb.Labels[at], tb.Counts[at] = nil, 0
		if Fit(tb) != (at < 63) {
			t.Errorf("a table with place %d free: Fit is %t", at, Fit(tb))
		}
	}
}

// P5.1: Fit of all small tables, and of such with a Label or a Count left out.
func TestFitOfSmallTables(t *testing.T) {
	for _, tb := range smallTables(3) {
		if got, want := Fit(tb), isFit(tb); got != want {
			t.Errorf("Fit(%v) is %t", tb, got)
		}
		if n := len(tb.Counts); n > 0 {
			if Fit(api.Table{Labels: tb.Labels[:n-1], Counts: tb.Counts}) || Fit(api.Table{Labels: tb.Labels, Counts: tb.Counts[:n-1]}) {
				t.Errorf("%v is fit with a Label or a Count less", tb)
			}
		}
	}
}

// P5.1: Same goes field by field, whatever the tables are.
func TestSame(t *testing.T) {
	tables := smallTables(2)
	a := one(7, api.Lev3)
	tables = append(tables,
		api.Table{Labels: []api.Label{a}}, api.Table{Counts: []int{1}}, api.Table{Labels: []api.Label{a}, Counts: []int{1, 1}},
		api.Table{Labels: []api.Label{a, a}, Counts: []int{1}}, api.Table{Labels: []api.Label{a, nil}, Counts: []int{1}},
		many(64), many(65), tableOf(place{a, math.MaxInt}), tableOf(place{a, math.MinInt}),
	)
	for i, x := range tables {
		for j, y := range tables {
			if got, want := Same(x, clone(y)), alike(x, y); got != want || want != (i == j) {
				t.Fatalf("Same(%v, %v) is %t", x, y, got)
			}
		}
	}
	if !Same(api.Table{}, api.Table{Labels: []api.Label{}, Counts: []int{}}) || !Same(tableOf(place{nil, 1}), tableOf(place{api.Label{}, 1})) {
		t.Errorf("lists without items are not the same as none")
	}
	for at := range 64 {
		other := many(64)
		other.Counts[at] = 2
		relabelled := many(64)
		relabelled.Labels[at][0].Lev = api.Star
		if Same(many(64), other) || Same(relabelled, many(64)) {
			t.Errorf("tables that differ at %d are the same", at)
		}
	}
	wide := tableOf(place{long(1<<16, 0), 1})
	if !Same(wide, clone(wide)) || Same(wide, tableOf(place{long(1<<16, 1), 1})) {
		t.Errorf("tables of a long label are held against each other wrongly")
	}
}

// P5.1 to P5.3: all calls on all small tables that are fit.
func TestSmallTables(t *testing.T) {
	labels := append(someLabels(), unfits()...)
	for _, tb := range smallTables(3) {
		if !isFit(tb) {
			continue
		}
		for _, l := range labels {
			wantAdd(t, tb, l)
			wantFind(t, tb, l)
		}
		for _, at := range []int{math.MinInt, -1, 0, 1, 2, 3, 4, 63, 64, 1 << 32, math.MaxInt} {
			wantDrop(t, tb, at)
		}
	}
}

// P5.1: Find goes by the Label as a whole, and only where somebody asks; a free place has no pairs, and is not theirs.
func TestFind(t *testing.T) {
	a, b := one(7, api.Lev3), one(7, api.Star)
	tb := tableOf(place{nil, 0}, place{a, 1}, place{nil, 0}, place{b, most}, place{nil, 2})
	table := []struct {
		l    api.Label
		want int
		ok   bool
	}{
		{a, 1, true}, {b, 3, true}, {nil, 4, true}, {api.Label{}, 4, true},
		{one(7, api.Lev2), 0, false}, {one(8, api.Lev3), 0, false}, {append(slices.Clone(a), b...), 0, false}, {long(1<<16, 7), 0, false}, {one(7, api.Lev1), 0, false},
	}
	for _, r := range table {
		if at, ok := Find(tb, r.l); at != r.want || ok != r.ok {
			t.Errorf("Find of %.200v is %d, %t", r.l, at, ok)
		}
	}
	if at, ok := Find(tableOf(place{nil, 0}, place{a, 1}), nil); at != 0 || ok {
		t.Errorf("a free place is found: %d, %t", at, ok)
	}
	if Used(tb) != 3 || Used(api.Table{}) != 0 || Used(many(64)) != 64 {
		t.Errorf("Used is %d, %d, %d", Used(tb), Used(api.Table{}), Used(many(64)))
	}
}

// P5.2: a label that may not be kept is ErrArg, also where the table is full; beside it the table is as it was.
func TestAddWrongLabels(t *testing.T) {
	for _, tb := range []api.Table{{}, many(1), many(64), tableOf(place{nil, 0}, place{one(7, api.Lev3), most})} {
		for _, l := range unfits() {
			got, at, err := Add(tb, l)
			if !alike(got, tb) || at != 0 || err != api.ErrArg {
				t.Errorf("Add of %.200v is %d, %v", l, at, err)
			}
		}
	}
	if _, at, err := Add(many(3), long(16, 0)); at != 3 || err != api.OK {
		t.Errorf("Add of 16 pairs is %d, %v", at, err)
	}
}

// P5.2: a place that is asked for 2^30 times is ErrRange, wherever it is, also if the table is full.
func TestAddTooOften(t *testing.T) {
	for _, size := range []int{1, 2, 63, 64} {
		for at := range size {
			tb := many(size)
			l := tb.Labels[at]
			tb.Counts[at] = most - 1
			last, place, err := Add(tb, l)
			if place != at || err != api.OK || last.Counts[at] != most {
				t.Errorf("the 2^30th Add at %d is %d, %v", at, place, err)
			}
			got, place, err := Add(last, l)
			if place != 0 || err != api.ErrRange || !alike(got, last) {
				t.Errorf("the Add behind the 2^30th at %d is %d, %v", at, place, err)
			}
		}
	}
}

// P5.2: the first free place is taken, or one behind the last; the 65th is ErrFull, and one that is kept is not.
func TestAddTakesTheFirstFree(t *testing.T) {
	fresh := one(1000, api.Star)
	for size := range 65 {
		tb := many(size)
		got, at, err := Add(tb, fresh)
		if size == 64 {
			if at != 0 || err != api.ErrFull || !alike(got, tb) {
				t.Errorf("Add to a full table is %d, %v", at, err)
			}
		} else if at != size || err != api.OK || len(got.Counts) != size+1 || got.Counts[at] != 1 || !slices.Equal(got.Labels[at], fresh) {
			t.Errorf("Add to %d places is %d, %v", size, at, err)
		}
		for i := range size {
			wantAdd(t, tb, tb.Labels[i])
		}
	}
	for i := range 63 {
		for _, j := range []int{i, 40, 62} {
			tb := many(64)
			tb.Labels[i], tb.Counts[i] = nil, 0
			tb.Labels[j], tb.Counts[j] = nil, 0
			got, at, err := Add(tb, fresh)
			if at != min(i, j) || err != api.OK || len(got.Counts) != 64 {
				t.Errorf("Add with places %d and %d free is %d, %v", i, j, at, err)
			}
			wantAdd(t, tb, fresh)
		}
	}
}

// P5.3: a place that is none, or that nobody asks for, is ErrName for Drop and Get, and the table as it was.
func TestNoSuchPlace(t *testing.T) {
	holed := tableOf(place{nil, 0}, place{one(7, api.Lev3), 1}, place{nil, 0}, place{nil, 2})
	table := []struct {
		t  api.Table
		at []int
	}{
		{api.Table{}, []int{math.MinInt, -1, 0, 1, math.MaxInt}},
		{holed, []int{math.MinInt, -64, -1, 0, 2, 4, 5, 63, 64, 1 << 31, 1 << 32, 1<<32 + 1, math.MaxInt}},
		{many(64), []int{-1, 64, 65, 1 << 32, 1<<32 + 1}},
	}
	for _, r := range table {
		for _, at := range r.at {
			if got, err := Drop(r.t, at); err != api.ErrName || !alike(got, r.t) {
				t.Errorf("Drop of %d is %v, %v", at, got, err)
			}
			if l, err := Get(r.t, at); err != api.ErrName || l != nil {
				t.Errorf("Get of %d is %v, %v", at, l, err)
			}
		}
	}
	for at := range 64 {
		wantDrop(t, many(64), at)
	}
}

// P5.3: a place that is dropped to 0 has no pairs; those at the end are gone, with the free ones ahead of them.
func TestDropLetsGo(t *testing.T) {
	a, b, c := one(7, api.Lev3), one(7, api.Star), one(8, api.Lev3)
	table := []struct {
		t    api.Table
		at   int
		want api.Table
	}{
		{tableOf(place{a, 1}), 0, api.Table{}},
		{tableOf(place{nil, 1}), 0, api.Table{}},
		{tableOf(place{a, 2}), 0, tableOf(place{a, 1})},
		{tableOf(place{a, most}), 0, tableOf(place{a, most - 1})},
		{tableOf(place{a, 1}, place{b, 1}, place{c, 1}), 0, tableOf(place{nil, 0}, place{b, 1}, place{c, 1})},
		{tableOf(place{a, 1}, place{b, 1}, place{c, 1}), 1, tableOf(place{a, 1}, place{nil, 0}, place{c, 1})},
		{tableOf(place{a, 1}, place{b, 1}, place{c, 1}), 2, tableOf(place{a, 1}, place{b, 1})},
		{tableOf(place{a, 1}, place{nil, 0}, place{c, 1}), 2, tableOf(place{a, 1})},
		{tableOf(place{a, 1}, place{nil, 0}, place{c, 2}), 2, tableOf(place{a, 1}, place{nil, 0}, place{c, 1})},
		{tableOf(place{nil, 0}, place{nil, 0}, place{c, 1}), 2, api.Table{}},
		{tableOf(place{nil, 0}, place{a, 1}, place{nil, 0}, place{nil, 0}, place{nil, 1}), 4, tableOf(place{nil, 0}, place{a, 1})},
		{tableOf(place{nil, 0}, place{a, 1}, place{nil, 0}, place{nil, 0}, place{nil, 1}), 1, tableOf(place{nil, 0}, place{nil, 0}, place{nil, 0}, place{nil, 0}, place{nil, 1})},
	}
	for _, r := range table {
		got, err := Drop(r.t, r.at)
		if err != api.OK || !alike(got, r.want) || !isFit(got) {
			t.Errorf("Drop(%v, %d) is %v, %v, not %v", r.t, r.at, got, err, r.want)
		}
		wantNone(t, got)
	}
	tb := many(64)
	for at := range 64 {
		tb, _ = Drop(tb, at)
		if at < 63 && (len(tb.Counts) != 64 || Used(tb) != 63-at) {
			t.Fatalf("behind Drop of %d: %d places, %d used", at, len(tb.Counts), Used(tb))
		}
	}
	wantNone(t, tb)
	if len(tb.Counts)+len(tb.Labels) != 0 {
		t.Errorf("all dropped, left is %v", tb)
	}
}

// ledger is what was asked for, and where each label is; it knows nothing of tables.
type ledger struct {
	count map[int]int
	at    map[int]int
}

// labelOf is the k-th of unlike labels, that of no pairs ahead.
func labelOf(k int) api.Label {
	if k == 0 {
		return nil
	}
	return long(1+k%16, uint64(k))
}

// hold holds a table against the ledger: each label at its place, as often as it was asked for, and no others.
func (g ledger) hold(t *testing.T, tb api.Table) {
	t.Helper()
	if !Fit(tb) || !isFit(tb) || Used(tb) != len(g.count) {
		t.Fatalf("%v is not fit, or Used is not %d", tb, len(g.count))
	}
	end := 0
	for k, n := range g.count {
		at, ok := Find(tb, labelOf(k))
		l, err := Get(tb, at)
		if !ok || at != g.at[k] || tb.Counts[at] != n || err != api.OK || !slices.Equal(l, labelOf(k)) {
			t.Fatalf("label %d, asked for %d times at %d: Find %d, %t", k, n, g.at[k], at, ok)
		}
		end = max(end, at+1)
	}
	if len(tb.Counts) != end || len(tb.Labels) != end {
		t.Fatalf("%d places, the last that is asked for is %d", len(tb.Counts), end-1)
	}
}

// add asks for label k; there is room for it as long as fewer than 64 unlike ones are asked for.
func (g ledger) add(t *testing.T, tb api.Table, k int) api.Table {
	t.Helper()
	next, at, err := Add(tb, labelOf(k))
	if g.count[k] == 0 && len(g.count) == 64 {
		if err != api.ErrFull || at != 0 || !Same(next, tb) {
			t.Fatalf("the 65th label: %d, %v", at, err)
		}
		return next
	}
	if err != api.OK || g.count[k] > 0 && at != g.at[k] || at < 0 || at > 63 {
		t.Fatalf("label %d with %d asked for: %d, %v", k, len(g.count), at, err)
	}
	g.count[k]++
	g.at[k] = at
	return next
}

// drop asks for label k once less, if it is asked for.
func (g ledger) drop(t *testing.T, tb api.Table, k int) api.Table {
	t.Helper()
	if g.count[k] == 0 {
		return tb
	}
	next, err := Drop(tb, g.at[k])
	if err != api.OK {
		t.Fatalf("Drop of label %d at %d: %v", k, g.at[k], err)
	}
	if g.count[k]--; g.count[k] == 0 {
		delete(g.count, k)
		delete(g.at, k)
	}
	return next
}

// P5.4 and P5.5: over long rows of Add and Drop each label stays at its one place till it is dropped as often, and there is room for 64.
func TestOnceAndRoom(t *testing.T) {
	for _, unlike := range []int{3, 64, 70} {
		g := ledger{map[int]int{}, map[int]int{}}
		var tb api.Table
		seed := uint64(unlike)
		for step := range 4000 {
			seed = seed*6364136223846793005 + 1442695040888963407
			k := int(seed>>33) % unlike
			// The table fills in one half of each 1000 steps, and empties in the other.
			if grows := step%1000 < 500; (seed>>60 < 10) == grows {
				tb = g.add(t, tb, k)
			} else {
				tb = g.drop(t, tb, k)
			}
			g.hold(t, tb)
		}
		for k := range unlike {
			for g.count[k] > 0 {
				tb = g.drop(t, tb, k)
				g.hold(t, tb)
			}
		}
		if !Same(tb, api.Table{}) {
			t.Errorf("all dropped, left is %v", tb)
		}
	}
}

// P5.4: a label that was dropped to 0 and is added again takes the first free place, and others stay where they are.
func TestPlacesOfOthersStay(t *testing.T) {
	tb := many(8)
	for _, at := range []int{5, 2} {
		tb, _ = Drop(tb, at)
	}
	tb, at, err := Add(tb, one(5, api.Lev3))
	if at != 2 || err != api.OK || tb.Counts[5] != 0 {
		t.Errorf("added again at %d, %v", at, err)
	}
	for _, k := range []uint64{0, 1, 3, 4, 6, 7} {
		if at, ok := Find(tb, one(k, api.Lev3)); at != int(k) || !ok {
			t.Errorf("label %d is at %d, %t", k, at, ok)
		}
	}
	if _, ok := Find(tb, one(2, api.Lev3)); ok {
		t.Errorf("a label that was dropped is found")
	}
}

// roomy is a table whose lists have filled room behind their ends, and all that memory.
func roomy(t api.Table) (api.Table, func() string) {
	extra := api.Pair{Cat: 42, Lev: 42}
	var labels []api.Label
	for _, l := range t.Labels {
		labels = append(labels, append(slices.Clone(l), extra, extra)[:len(l)])
	}
	labels = append(labels, api.Label{extra}, api.Label{extra})
	counts := append(slices.Clone(t.Counts), 42, 42)
	all := func() string {
		var whole []api.Label
		for _, l := range labels {
			whole = append(whole, l[:cap(l)])
		}
		return fmt.Sprint(whole, counts)
	}
	return api.Table{Labels: labels[:len(t.Labels)], Counts: counts[:len(t.Counts)]}, all
}

// spoil writes over all memory of a table.
func spoil(t api.Table) {
	for _, l := range t.Labels {
		spoilLabel(l)
	}
	for i := range t.Labels[:cap(t.Labels)] {
		t.Labels[:cap(t.Labels)][i] = one(77, 77)
	}
	for i := range t.Counts[:cap(t.Counts)] {
		t.Counts[:cap(t.Counts)][i] = 77
	}
}

// spoilLabel writes over all memory of a label.
func spoilLabel(l api.Label) {
	for i := range l[:cap(l)] {
		l[:cap(l)][i] = api.Pair{Cat: 77, Lev: 77}
	}
}

// Rule 0.5: no argument is changed, also where it has room behind its end, and no answer shares its memory, also beside an error.
func TestArgumentsStay(t *testing.T) {
	tables := append(smallTables(2), many(63), many(64), many(65), api.Table{Labels: []api.Label{one(7, 4)}}, api.Table{Counts: []int{1}})
	for _, tb := range tables {
		given, all := roomy(tb)
		before := all()
		for _, l := range append(someLabels(), long(17, 0), one(7, api.Lev1)) {
			asked := append(slices.Clone(l), api.Pair{Cat: 42, Lev: 42})
			label := asked[:len(l)]
			out, _, _ := Add(given, label)
			spoil(out)
			Find(given, label)
			if !slices.Equal(asked, append(slices.Clone(l), api.Pair{Cat: 42, Lev: 42})) {
				t.Fatalf("a label was changed: %v", asked)
			}
		}
		for at := -1; at <= len(tb.Counts); at++ {
			out, _ := Drop(given, at)
			spoil(out)
			l, _ := Get(given, at)
			spoilLabel(l)
		}
		Fit(given)
		Used(given)
		Same(given, given)
		if all() != before {
			t.Fatalf("a table was changed: %s to %s", before, all())
		}
	}
}

// Rule 0.5: a label of an answer shares no memory with another of it, also where those of the table that was given do.
func TestLabelsOfAnAnswerShareNothing(t *testing.T) {
	whole := long(6, 0)
	tb := tableOf(place{whole[:2], 1}, place{whole[1:3], 2}, place{whole[:6], 1})
	added, _, _ := Add(tb, whole[2:5])
	dropped, _ := Drop(tb, 1)
	failed, _ := Drop(tb, 9)
	for _, out := range []api.Table{added, dropped, failed} {
		for at := range out.Labels {
			before := clone(out)
			spoilLabel(out.Labels[at])
			before.Labels[at] = out.Labels[at]
			if !alike(out, before) {
				t.Errorf("label %d shares memory with another", at)
			}
		}
	}
}

// Rule 0.1: calls end without panic on tables that are not fit.
func TestUnfitTablesEnd(t *testing.T) {
	tables := append(smallTables(2), many(65), many(1<<12),
		api.Table{Labels: []api.Label{nil, one(7, api.Lev3)}}, api.Table{Counts: []int{1, 0, 2}},
		api.Table{Labels: []api.Label{one(7, api.Lev3)}, Counts: []int{1, 1, 0}}, api.Table{Labels: []api.Label{nil, one(7, api.Lev3)}, Counts: []int{1}},
		tableOf(place{nil, math.MinInt}, place{nil, math.MaxInt}), tableOf(place{nil, -1}, place{one(7, api.Lev3), math.MinInt}), tableOf(place{long(1<<16, 0), 1}, place{nil, 0}),
	)
	for _, tb := range tables {
		for _, l := range append(someLabels(), unfits()...) {
			Add(tb, l)
			Find(tb, l)
		}
		for _, at := range []int{math.MinInt, -1, 0, 1, 2, 3, 64, 65, math.MaxInt} {
			Drop(tb, at)
			Get(tb, at)
		}
		Used(tb)
		Fit(tb)
		Same(tb, api.Table{})
	}
}

// Places that are asked for are handed out in order, each time anew, and none behind one that the asker leaves at.
func TestAskedPlaces(t *testing.T) {
	seq := asked(tableOf(place{nil, 0}, place{one(7, api.Lev3), 1}, place{nil, 0}, place{nil, 2}, place{one(9, api.Star), most}))
	want := []int{1, 3, 4}
	for n := range 4 {
		var got []int
		for at, l := range seq {
			if len(got) == n {
				break
			}
			if (at == 3) != (len(l) == 0) {
				t.Errorf("place %d is handed out with %v", at, l)
			}
			got = append(got, at)
		}
		if !slices.Equal(got, want[:n]) {
			t.Errorf("the first %d places are %v", n, got)
		}
	}
}
