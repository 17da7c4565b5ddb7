package pages

import (
	"fmt"
	"math"
	"math/big"
	"math/rand"
	"slices"
	"testing"

	"curtilage/api"
)

// most is how many maps an address space has at most, end how many pages, words how many words a page.
const (
	most  = 16
	end   = 1 << 20
	words = 16
)

// at is n pages at va, from the segment's page off on.
func at(va, n, off int) api.Map { return api.Map{Va: va, N: n, Off: off} }

// list is maps, as they are written.
func list(l ...api.Map) []api.Map { return l }

// row are maps of n pages each, the first one at va, each as far behind the last one as step says. No two are of one segment.
func row(count, va, n, step int) []api.Map {
	var out []api.Map
	for i := range count {
		out = append(out, api.Map{Va: va + i*step, N: n, Cont: 5, Seg: uint64(100 + i), Off: 3 * i, Write: i%2 == 0})
	}
	return out
}

// but is maps of which one is another one.
func but(l []api.Map, place int, m api.Map) []api.Map {
	out := slices.Clone(l)
	out[place] = m
	return out
}

// with is maps with one more at a place.
func with(l []api.Map, place int, m api.Map) []api.Map {
	return slices.Insert(slices.Clone(l), place, m)
}

// without is maps but the one at a place.
func without(l []api.Map, place int) []api.Map {
	return slices.Delete(slices.Clone(l), place, place+1)
}

// edges are numbers at and far beyond all bounds.
func edges() []int {
	return []int{math.MinInt, math.MinInt + 1, math.MinInt + end, -end - 1, -end, -1, 0, 1, 2, end / 2, end/2 + 1,
		end - 2, end - 1, end, end + 1, 1 << 32, 1<<32 + 1, 1 << 62, math.MaxInt - end, math.MaxInt - end + 1, math.MaxInt - 1, math.MaxInt}
}

// between tells whether a number is from one to another.
func between(n, from, to int) bool { return from <= n && n <= to }

// together tells whether two numbers are at most all pages, as numbers without bounds.
func together(a, b int) bool {
	sum := new(big.Int).Add(big.NewInt(int64(a)), big.NewInt(int64(b)))
	return sum.Cmp(big.NewInt(end)) <= 0
}

// oneFits tells whether a map is fit by the chapter's words.
func oneFits(m api.Map) bool {
	return between(m.Va, 0, end-1) && between(m.Off, 0, end-1) && between(m.N, 1, end) && together(m.Va, m.N) && together(m.Off, m.N)
}

// allFit tells whether maps are fit by the chapter's words, one after another.
func allFit(l []api.Map) bool {
	if len(l) > most {
		return false
	}
	for i, m := range l {
		if !oneFits(m) {
			return false
		}
		for _, ahead := range l[:i] {
			if ahead.Va >= m.Va || reach(ahead, m) {
				return false
			}
		}
	}
	return true
}

// reach tells whether two fit maps have a page in common: the later beginning is ahead of the earlier end.
func reach(a, b api.Map) bool { return max(a.Va, b.Va) < min(a.Va+a.N, b.Va+b.N) }

// putOf is Put by the chapter's words.
func putOf(l []api.Map, m api.Map) ([]api.Map, api.Errno) {
	if !oneFits(m) {
		return l, api.ErrArg
	}
	for _, x := range l {
		if reach(x, m) {
			return l, api.ErrThere
		}
	}
	if len(l) == most {
		return l, api.ErrFull
	}
	place := 0
	for i, x := range l {
		if x.Va < m.Va {
			place = i + 1
		}
	}
	return with(l, place, m), api.OK
}

// dropOf is Drop by the chapter's words.
func dropOf(l []api.Map, va int) ([]api.Map, api.Errno) {
	for i, m := range l {
		if m.Va == va {
			return without(l, i), api.OK
		}
	}
	return l, api.ErrName
}

// findOf is Find by the chapter's words.
func findOf(l []api.Map, page int) (api.Map, int, bool) {
	for _, m := range l {
		if between(page, m.Va, m.Va+m.N-1) {
			return m, m.Off + (page - m.Va), true
		}
	}
	return api.Map{}, 0, false
}

// width is how many pages the small address spaces have of which all maps are gone through.
const width = 6

// smalls are all maps that can be within the pages from some on, each list of them fit; no two maps are of one segment, or of one page of it.
func smalls(from int) [][]api.Map {
	var out [][]api.Map
	var more func(l []api.Map, next int)
	more = func(l []api.Map, next int) {
		out = append(out, l)
		for va := next; va < from+width; va++ {
			for n := 1; va+n <= from+width; n++ {
				m := api.Map{Va: va, N: n, Cont: 9, Seg: uint64(va + 1), Off: 7 * (len(l) + 1), Write: len(l)%2 == 1}
				more(append(slices.Clone(l), m), va+n)
			}
		}
	}
	more(nil, from)
	return out
}

// longs are fit maps that are many, or great, or at the ends of all pages.
func longs() [][]api.Map {
	return [][]api.Map{
		row(most, 0, 1, 1), row(most-1, 0, 1, 1), row(most, 1, 2, 3), row(most-1, 4, 2, 5), row(most, end-most, 1, 1), row(most, end-2*most-1, 1, 2),
		row(most, 0, end/most, end/most), list(at(0, end, 0)), list(at(0, 1, end-1), at(end-1, 1, end-1)), list(at(1, end-2, 2)),
		list(at(0, end/2, end/2), at(end/2, end/2, 0)), row(9, 100, 7, 10), row(8, 100, 7, 10), row(7, 0, 1<<10, 1<<12), row(13, 5, 3, 1<<16),
	}
}

// fits are small and long fit maps, also at the end of all pages.
func fits() [][]api.Map {
	return slices.Concat(smalls(0), smalls(1), smalls(end-width), longs())
}

// near are the pages at and beside the ends of maps, and numbers at and beyond all bounds.
func near(l []api.Map) []int {
	out := edges()
	for _, m := range l {
		for _, page := range []int{m.Va, m.Va + m.N/2, m.Va + m.N} {
			out = append(out, page-1, page, page+1)
		}
	}
	slices.Sort(out)
	return slices.Compact(out)
}

// P12.1: a map is fit by each of its numbers, at all edges, also where a sum would not be a number any more.
func TestFitRows(t *testing.T) {
	rows := []struct {
		m    api.Map
		want bool
	}{
		{at(0, 1, 0), true},
		{at(0, end, 0), true},
		{at(end-1, 1, end-1), true},
		{at(1, end-1, 1), true},
		{at(7, end-7, 0), true},
		{at(0, end-7, 7), true},
		{api.Map{N: 1, Cont: math.MaxUint64, Seg: math.MaxUint64, Write: true}, true},
		{api.Map{}, false},
		{at(-1, 1, 0), false},
		{at(-1, 2, 0), false},
		{at(0, 1, -1), false},
		{at(0, 2, -1), false},
		{at(end, 1, 0), false},
		{at(0, 1, end), false},
		{at(end, 0, 0), false},
		{at(0, 0, 0), false},
		{at(5, 0, 5), false},
		{at(5, -1, 5), false},
		{at(5, -5, 5), false},
		{at(0, end+1, 0), false},
		{at(1, end, 0), false},
		{at(0, end, 1), false},
		{at(2, end-1, 0), false},
		{at(0, end-1, 2), false},
		{at(end-1, 2, 0), false},
		{at(0, 2, end-1), false},
		{at(math.MaxInt, 1, 0), false},
		{at(0, 1, math.MaxInt), false},
		{at(1, math.MaxInt, 0), false},
		{at(1, math.MaxInt, 1), false},
		{at(math.MaxInt, math.MaxInt, math.MaxInt), false},
		{at(math.MinInt, math.MinInt, math.MinInt), false},
		{at(math.MinInt, math.MinInt, 0), false},
		{at(0, math.MinInt, math.MinInt), false},
		{at(math.MaxInt, end, 0), false},
		{at(0, end, math.MaxInt-1), false},
		{at(math.MinInt, 1, 0), false},
		{at(0, 1, math.MinInt), false},
		{at(0, math.MinInt, 0), false},
		{at(1<<32, 1, 0), false},
		{at(0, 1<<32+1, 0), false},
		{at(0, 1, 1<<32), false},
	}
	for _, r := range rows {
		if got := Fit(list(r.m)); got != r.want {
			t.Errorf("Fit of %v is %v", r.m, got)
		}
	}
}

// P12.1: Fit of one map of any numbers at the edges is what the chapter's words say, alone and behind, and ahead of, another one.
func TestFitOneByWords(t *testing.T) {
	for _, va := range edges() {
		for _, n := range edges() {
			for _, off := range edges() {
				m := at(va, n, off)
				first, last := at(0, 1, 0), at(end-1, 1, 0)
				for _, l := range [][]api.Map{list(m), list(first, m), list(m, last), list(first, m, last)} {
					if got, want := Fit(l), allFit(l); got != want {
						t.Errorf("Fit(%v) is %v", l, got)
					}
				}
			}
		}
	}
}

// P12.1: Fit of lists: how many there are, whether they rise, whether they touch or reach into the next one.
func TestFitLists(t *testing.T) {
	rows := []struct {
		l    []api.Map
		want bool
	}{
		{nil, true},
		{list(), true},
		{row(most, 0, 1, 1), true},
		{row(most+1, 0, 1, 1), false},
		{row(most, 0, 5, 9), true},
		{row(most+1, 0, 5, 9), false},
		{row(1<<16, 0, 1, 1), false},
		{row(most, end-most, 1, 1), true},
		{row(most, end-most+1, 1, 1), false},
		{row(most, 0, 4, 4), true},
		{row(most, 0, 5, 4), false},
		{row(most, 0, 4, 3), false},
		{row(most, 3, 1, 0), false},
		{row(2, 3, 1, 0), false},
		{row(2, 3, 1, -1), false},
		{row(most, 100, 1, -2), false},
		{list(at(2, 4, 1), at(6, 1, 0)), true},
		{list(at(2, 4, 1), at(5, 1, 0)), false},
		{list(at(2, 4, 1), at(5, 9, 0)), false},
		{list(at(2, 4, 1), at(3, 1, 0)), false},
		{list(at(2, 4, 1), at(2, 4, 1)), false},
		{list(at(2, 4, 1), at(1, 1, 0)), false},
		{list(at(2, 4, 1), at(0, 1, 0)), false},
		{list(at(6, 1, 0), at(2, 4, 1)), false},
		{list(at(0, 9, 0), at(2, 1, 0), at(9, 1, 0)), false},
		{list(at(0, end, 0), at(end-1, 1, 0)), false},
		{list(at(0, end-1, 0), at(end-1, 1, 0)), true},
		{list(at(0, 1, 50), at(1, 1, 50), at(2, 1, 40)), true},
		{but(row(most, 0, 4, 4), most-1, at(59, 4, 0)), false},
		{but(row(most, 0, 4, 4), most-1, at(61, 4, 0)), true},
		{but(row(most, 0, 4, 4), most-1, at(60, end-60, 0)), true},
		{but(row(most, 0, 4, 4), most-1, at(60, end-59, 0)), false},
		{but(row(most, 0, 4, 4), 0, at(0, 5, 0)), false},
		{but(row(most, 0, 4, 4), 0, at(0, 3, 0)), true},
		{but(row(most, 0, 4, 4), 0, at(-1, 3, 0)), false},
		{but(row(most, 0, 4, 4), 8, at(32, 5, 0)), false},
		{but(row(most, 0, 4, 4), 8, at(31, 4, 0)), false},
		{but(row(most, 0, 4, 4), 8, at(33, 3, 0)), true},
		{but(row(most, 0, 4, 4), 8, at(32, 0, 0)), false},
		{but(row(most, 0, 4, 4), 8, at(32, 4, end)), false},
		{but(row(most, 0, 4, 4), most-1, at(60, 4, -1)), false},
	}
	for _, r := range rows {
		if got := Fit(r.l); got != r.want {
			t.Errorf("Fit(%v) is %v", r.l[:min(len(r.l), most+1)], got)
		}
	}
}

// listsOf are all lists of at most n maps out of some.
func listsOf(n int, some ...api.Map) [][]api.Map {
	out := [][]api.Map{nil}
	from := 0
	for range n {
		to := len(out)
		for _, l := range out[from:to] {
			for _, m := range some {
				out = append(out, append(slices.Clone(l), m))
			}
		}
		from = to
	}
	return out
}

// P12.1: Fit of all short lists of maps, good ones and wrong ones, is what the chapter's words say; all that the tests take for fit is.
func TestFitByWords(t *testing.T) {
	some := list(at(0, 1, 0), at(0, 2, 9), at(1, 1, 3), at(1, 3, 0), at(2, 0, 0), at(2, 2, 0), at(3, 1, end-1), at(3, 1, end), at(4, end-4, 0), at(4, end-3, 0))
	for _, l := range listsOf(4, some...) {
		if got, want := Fit(l), allFit(l); got != want {
			t.Errorf("Fit(%v) is %v", l, got)
		}
	}
	for _, l := range fits() {
		if !Fit(l) || !allFit(l) {
			t.Errorf("Fit(%v) is %v", l, Fit(l))
		}
	}
}

// P12.1: Same goes by how many there are, by their order, and by each field.
func TestSameRows(t *testing.T) {
	one := api.Map{Va: 1, N: 2, Cont: 3, Seg: 4, Off: 5, Write: true}
	other := at(7, 8, 9)
	rows := []struct {
		a, b []api.Map
		want bool
	}{
		{nil, nil, true},
		{nil, list(), true},
		{nil, list(api.Map{}), false},
		{list(api.Map{}), list(api.Map{}), true},
		{list(one), list(one), true},
		{list(one), list(other), false},
		{list(one), list(one, one), false},
		{list(one, other), list(one, other), true},
		{list(one, other), list(other, one), false},
		{list(one, other), list(one), false},
		{list(one, other), list(other), false},
		{list(one), list(api.Map{Va: 0, N: 2, Cont: 3, Seg: 4, Off: 5, Write: true}), false},
		{list(one), list(api.Map{Va: 1, N: 1, Cont: 3, Seg: 4, Off: 5, Write: true}), false},
		{list(one), list(api.Map{Va: 1, N: 2, Cont: 4, Seg: 4, Off: 5, Write: true}), false},
		{list(one), list(api.Map{Va: 1, N: 2, Cont: 3, Seg: 3, Off: 5, Write: true}), false},
		{list(one), list(api.Map{Va: 1, N: 2, Cont: 3, Seg: 4, Off: 6, Write: true}), false},
		{list(one), list(api.Map{Va: 1, N: 2, Cont: 3, Seg: 4, Off: 5, Write: false}), false},
		{list(one), list(api.Map{Va: 1, N: 2, Cont: 4, Seg: 3, Off: 5, Write: true}), false},
		{list(other, one), list(other, api.Map{Va: 1, N: 2, Cont: 3, Seg: 4, Off: 5}), false},
		{list(at(-1, -1, -1)), list(at(-1, -1, -1)), true},
		{list(at(-1, -1, -1)), list(at(-1, -1, math.MinInt)), false},
		{row(most, 0, 1, 1), row(most, 0, 1, 1), true},
		{row(1<<16, 0, 1, 1), row(1<<16, 0, 1, 1), true},
		{row(1<<16, 0, 1, 1), but(row(1<<16, 0, 1, 1), 1<<16-1, one), false},
		{row(most+1, 0, 1, 1), row(most, 0, 1, 1), false},
		{row(most, 0, 1, 1), but(row(most, 0, 1, 1), most-1, one), false},
		{row(most, 0, 1, 1), but(row(most, 0, 1, 1), 0, one), false},
	}
	for _, r := range rows {
		if Same(r.a, r.b) != r.want || Same(r.b, r.a) != r.want {
			t.Errorf("Same(%v, %v) is %v, %v the other way", r.a[:min(len(r.a), most)], r.b[:min(len(r.b), most)], Same(r.a, r.b), Same(r.b, r.a))
		}
	}
}

// P12.1: Same of any two short lists, fit or not.
func TestSameByWords(t *testing.T) {
	all := listsOf(3, api.Map{}, at(0, 1, 0), at(0, 1, 1), api.Map{N: 1, Write: true}, at(-1, 0, 0))
	for i, a := range all {
		for j, b := range all {
			if Same(a, b) != (i == j) {
				t.Errorf("Same(%v, %v) is %v", a, b, i != j)
			}
		}
	}
}

// P12.2: Put that is written out: where it goes, what it reaches into, and which error is told first.
func TestPutRows(t *testing.T) {
	two := list(at(2, 4, 1), at(10, 3, 0))
	full := row(most, 10, 2, 5)
	rows := []struct {
		why  string
		l    []api.Map
		m    api.Map
		at   int
		want api.Errno
	}{
		{"the first of all", nil, at(2, 4, 1), 0, api.OK},
		{"all pages", nil, at(0, end, 0), 0, api.OK},
		{"the last page", nil, at(end-1, 1, end-1), 0, api.OK},
		{"ahead", two, at(0, 1, 7), 0, api.OK},
		{"ahead, touching", two, at(0, 2, 7), 0, api.OK},
		{"between", two, at(7, 2, 7), 1, api.OK},
		{"between, touching the left", two, at(6, 2, 7), 1, api.OK},
		{"between, touching the right", two, at(8, 2, 7), 1, api.OK},
		{"between, touching both", two, at(6, 4, 7), 1, api.OK},
		{"behind", two, at(14, 1, 7), 2, api.OK},
		{"behind, touching", two, at(13, 1, 7), 2, api.OK},
		{"behind, all that is left", two, at(13, end-13, 0), 2, api.OK},
		{"of like pages of the segment", two, at(14, 4, 1), 2, api.OK},
		{"the example's", list(at(2, 4, 1)), at(5, 1, 0), 0, api.ErrThere},
		{"into the first from the left", two, at(0, 3, 0), 0, api.ErrThere},
		{"into the first from the right", two, at(5, 2, 0), 0, api.ErrThere},
		{"into the second from the left", two, at(8, 3, 0), 0, api.ErrThere},
		{"into the second from the right", two, at(12, 2, 0), 0, api.ErrThere},
		{"into both", two, at(5, 6, 0), 0, api.ErrThere},
		{"within", two, at(3, 2, 0), 0, api.ErrThere},
		{"within, from the beginning", two, at(2, 1, 0), 0, api.ErrThere},
		{"within, to the end", two, at(4, 2, 0), 0, api.ErrThere},
		{"the same", two, at(2, 4, 1), 0, api.ErrThere},
		{"around one", two, at(1, 6, 0), 0, api.ErrThere},
		{"around the second", two, at(9, 5, 0), 0, api.ErrThere},
		{"around both", two, at(0, end, 0), 0, api.ErrThere},
		{"not fit", two, at(14, 0, 0), 0, api.ErrArg},
		{"not fit, the beginning", two, at(-1, 1, 0), 0, api.ErrArg},
		{"not fit, the segment's", two, at(14, 2, end-1), 0, api.ErrArg},
		{"not fit, and there", two, at(2, 4, -1), 0, api.ErrArg},
		{"not fit, and into both", two, at(5, end, 0), 0, api.ErrArg},
		{"not fit, and great", two, at(math.MaxInt, math.MaxInt, 0), 0, api.ErrArg},
		{"full, ahead", full, at(0, 1, 0), 0, api.ErrFull},
		{"full, ahead, touching", full, at(0, 10, 0), 0, api.ErrFull},
		{"full, between", full, at(12, 3, 0), 0, api.ErrFull},
		{"full, behind", full, at(end-1, 1, 0), 0, api.ErrFull},
		{"full, behind, touching", full, at(87, 1, 0), 0, api.ErrFull},
		{"full, and there", full, at(10, 2, 0), 0, api.ErrThere},
		{"full, and into the last", full, at(86, 9, 0), 0, api.ErrThere},
		{"full, and around all", full, at(0, end, 0), 0, api.ErrThere},
		{"full, and not fit", full, at(0, end+1, 0), 0, api.ErrArg},
		{"full, there, and not fit", full, at(10, 2, end), 0, api.ErrArg},
		{"the sixteenth, ahead", full[1:], at(0, 1, 0), 0, api.OK},
		{"the sixteenth, between", full[1:], at(47, 3, 0), 7, api.OK},
		{"the sixteenth, behind", full[1:], at(87, 1, 0), 15, api.OK},
		{"the sixteenth, there", full[1:], at(15, 1, 0), 0, api.ErrThere},
	}
	for _, r := range rows {
		want := r.l
		if r.want == api.OK {
			want = with(r.l, r.at, r.m)
		}
		if got, err := Put(r.l, r.m); err != r.want || !slices.Equal(got, want) {
			t.Errorf("%s: Put(%v, %v) is %v, %v", r.why, r.l, r.m, got, err)
		}
	}
}

// P12.2: all that a map is stays in it, and the others stay as they are.
func TestPutKeepsAll(t *testing.T) {
	l := list(api.Map{Va: 2, N: 1, Cont: 11, Seg: 12, Off: 13, Write: true}, api.Map{Va: 9, N: 2, Cont: 21, Seg: 22, Off: 23})
	m := api.Map{Va: 4, N: 3, Cont: math.MaxUint64, Seg: 1 << 63, Off: 33, Write: true}
	got, err := Put(l, m)
	if err != api.OK || !slices.Equal(got, list(l[0], m, l[1])) {
		t.Errorf("Put is %v, %v", got, err)
	}
	if got, err = Drop(got, 4); err != api.OK || !slices.Equal(got, l) {
		t.Errorf("Drop is %v, %v", got, err)
	}
}

// P12.2: Put of any map at the edges to any fit maps is what the chapter's words say.
func TestPutByWords(t *testing.T) {
	for _, from := range []int{0, 1, end - width} {
		for _, l := range smalls(from) {
			for va := from - 2; va <= from+width+1; va++ {
				for n := -1; n <= width+3; n++ {
					for _, off := range []int{-1, 0, end - 3, end} {
						holdPut(t, l, api.Map{Va: va, N: n, Cont: 1, Seg: 2, Off: off, Write: true})
					}
				}
			}
		}
	}
}

// P12.2: Put to maps that are many, or great, of any map that begins near one of them.
func TestPutToLongs(t *testing.T) {
	for _, l := range longs() {
		for _, va := range near(l) {
			for _, n := range append(edges(), 3, 4, 5, 9, 10) {
				for _, off := range []int{0, 1, end - 1, math.MaxInt} {
					holdPut(t, l, at(va, n, off))
				}
			}
		}
	}
}

// holdPut holds Put against the chapter's words.
func holdPut(t *testing.T, l []api.Map, m api.Map) {
	want, wantErr := putOf(l, m)
	got, err := Put(l, m)
	if err != wantErr || !slices.Equal(got, want) || !Fit(got) {
		t.Errorf("Put(%v, %v) is %v, %v", l, m, got, err)
	}
}

// P12.2: sixteen maps are put, in any of several orders, and no seventeenth.
func TestPutAll(t *testing.T) {
	all := row(most, 0, 3, 4)
	for seed := range 50 {
		var l []api.Map
		for count, i := range rand.New(rand.NewSource(int64(seed))).Perm(most) {
			got, err := Put(l, all[i])
			if err != api.OK || len(got) != count+1 || !Fit(got) {
				t.Fatalf("order %d: Put(%v, %v) is %v, %v", seed, l, all[i], got, err)
			}
			l = got
		}
		if !slices.Equal(l, all) {
			t.Fatalf("order %d: all are %v", seed, l)
		}
		if got, err := Put(l, at(4*most, 1, 0)); err != api.ErrFull || !slices.Equal(got, all) {
			t.Fatalf("order %d: the seventeenth is %v, %v", seed, got, err)
		}
	}
}

// P12.2: Drop that is written out: each of the maps, a page within one, beside one, and where nothing can be.
func TestDropRows(t *testing.T) {
	three := list(at(2, 4, 1), at(6, 1, 0), at(10, 3, 5))
	full := row(most, 10, 2, 5)
	rows := []struct {
		l    []api.Map
		va   int
		at   int
		want api.Errno
	}{
		{nil, 0, 0, api.ErrName},
		{list(), 0, 0, api.ErrName},
		{list(at(0, 1, 0)), 0, 0, api.OK},
		{list(at(end-1, 1, 0)), end - 1, 0, api.OK},
		{list(at(0, end, 0)), 0, 0, api.OK},
		{list(at(0, end, 0)), 1, 0, api.ErrName},
		{list(at(0, end, 0)), end - 1, 0, api.ErrName},
		{list(at(0, end, 0)), end, 0, api.ErrName},
		{three, 2, 0, api.OK},
		{three, 6, 1, api.OK},
		{three, 10, 2, api.OK},
		{three, 0, 0, api.ErrName},
		{three, 1, 0, api.ErrName},
		{three, 3, 0, api.ErrName},
		{three, 5, 0, api.ErrName},
		{three, 7, 0, api.ErrName},
		{three, 9, 0, api.ErrName},
		{three, 11, 0, api.ErrName},
		{three, 12, 0, api.ErrName},
		{three, 13, 0, api.ErrName},
		{three, -1, 0, api.ErrName},
		{three, end, 0, api.ErrName},
		{three, math.MinInt, 0, api.ErrName},
		{three, math.MaxInt, 0, api.ErrName},
		{full, 10, 0, api.OK},
		{full, 15, 1, api.OK},
		{full, 45, 7, api.OK},
		{full, 80, 14, api.OK},
		{full, 85, 15, api.OK},
		{full, 86, 0, api.ErrName},
		{full, 9, 0, api.ErrName},
	}
	for _, r := range rows {
		want := r.l
		if r.want == api.OK {
			want = without(r.l, r.at)
		}
		if got, err := Drop(r.l, r.va); err != r.want || !slices.Equal(got, want) {
			t.Errorf("Drop(%v, %d) is %v, %v", r.l, r.va, got, err)
		}
	}
}

// P12.2, P12.3: Drop and Find of any page of any fit maps are what the chapter's words say.
func TestDropAndFindByWords(t *testing.T) {
	for _, l := range fits() {
		for _, page := range near(l) {
			want, wantErr := dropOf(l, page)
			if got, err := Drop(l, page); err != wantErr || !slices.Equal(got, want) || !Fit(got) {
				t.Errorf("Drop(%v, %d) is %v, %v", l, page, got, err)
			}
			wantMap, wantPage, wantFound := findOf(l, page)
			if m, n, found := Find(l, page); m != wantMap || n != wantPage || found != wantFound {
				t.Errorf("Find(%v, %d) is %v, %d, %v", l, page, m, n, found)
			}
		}
	}
}

// P12.3: Find that is written out: ahead of a map, its first page, its last, behind it, and what is no page.
func TestFindRows(t *testing.T) {
	one := api.Map{Va: 2, N: 4, Cont: 7, Seg: 8, Off: 1, Write: true}
	two := api.Map{Va: 6, N: 1, Cont: 7, Seg: 9, Off: 1000}
	three := api.Map{Va: end - 2, N: 2, Cont: 7, Seg: 8, Off: end - 2}
	none := api.Map{}
	l := list(one, two, three)
	rows := []struct {
		l     []api.Map
		page  int
		m     api.Map
		n     int
		found bool
	}{
		{l, 0, none, 0, false},
		{l, 1, none, 0, false},
		{l, 2, one, 1, true},
		{l, 3, one, 2, true},
		{l, 5, one, 4, true},
		{l, 6, two, 1000, true},
		{l, 7, none, 0, false},
		{l, end - 3, none, 0, false},
		{l, end - 2, three, end - 2, true},
		{l, end - 1, three, end - 1, true},
		{l, end, none, 0, false},
		{l, -1, none, 0, false},
		{l, math.MinInt, none, 0, false},
		{l, math.MaxInt, none, 0, false},
		{nil, 0, none, 0, false},
		{list(), 0, none, 0, false},
		{list(at(0, end, 0)), 0, at(0, end, 0), 0, true},
		{list(at(0, end, 0)), end - 1, at(0, end, 0), end - 1, true},
		{list(at(0, end, 0)), end, none, 0, false},
		{list(at(0, end, 0)), -1, none, 0, false},
		{list(at(end-1, 1, 0)), end - 1, at(end-1, 1, 0), 0, true},
		{list(at(0, 1, end-1)), 0, at(0, 1, end-1), end - 1, true},
	}
	for _, r := range rows {
		if m, n, found := Find(r.l, r.page); m != r.m || n != r.n || found != r.found {
			t.Errorf("Find(%v, %d) is %v, %d, %v", r.l, r.page, m, n, found)
		}
	}
}

// P12.3: Split that is written out.
func TestSplitRows(t *testing.T) {
	rows := []struct {
		addr       uint64
		page, word int
		ok         bool
	}{
		{0, 0, 0, true},
		{1, 0, 1, true},
		{15, 0, 15, true},
		{16, 1, 0, true},
		{17, 1, 1, true},
		{35, 2, 3, true},
		{1<<24 - 17, end - 2, 15, true},
		{1<<24 - 16, end - 1, 0, true},
		{1<<24 - 1, end - 1, 15, true},
		{1 << 24, 0, 0, false},
		{1<<24 + 1, 0, 0, false},
		{1<<24 + 35, 0, 0, false},
		{1 << 32, 0, 0, false},
		{1<<32 + 35, 0, 0, false},
		{1<<63 - 1, 0, 0, false},
		{1 << 63, 0, 0, false},
		{1<<63 + 35, 0, 0, false},
		{math.MaxUint64 - 15, 0, 0, false},
		{math.MaxUint64, 0, 0, false},
	}
	for _, r := range rows {
		if page, word, ok := Split(r.addr); page != r.page || word != r.word || ok != r.ok {
			t.Errorf("Split(%d) is %d, %d, %v", r.addr, page, word, ok)
		}
	}
}

// P12.3: all addresses are counted through, page by page and word by word; none is behind the last.
func TestSplitAll(t *testing.T) {
	addr := uint64(0)
	for page := range end {
		for word := range words {
			if p, w, ok := Split(addr); p != page || w != word || !ok {
				t.Fatalf("Split(%d) is %d, %d, %v", addr, p, w, ok)
			}
			addr++
		}
	}
	for bit := uint64(end * words); bit != 0; bit <<= 1 {
		for low := range uint64(40) {
			for _, beyond := range []uint64{bit + low, -bit + low, ^low, bit | bit>>1 | low} {
				if p, w, ok := Split(beyond); beyond >= addr && (p != 0 || w != 0 || ok) {
					t.Fatalf("Split(%d) is %d, %d, %v", beyond, p, w, ok)
				}
			}
		}
	}
}

// spot is what Find tells of a page.
type spot struct {
	m     api.Map
	n     int
	found bool
}

// spots are what Find tells of pages.
func spots(l []api.Map, pages []int) []spot {
	var out []spot
	for _, page := range pages {
		m, n, found := Find(l, page)
		out = append(out, spot{m, n, found})
	}
	return out
}

// P12.4: each page is of one map at most, and found just where a map has it: the maps' pages together are those that are found.
func TestOneAtMost(t *testing.T) {
	for _, from := range []int{0, 1, end - width} {
		for _, l := range smalls(from) {
			total, found := 0, 0
			for _, m := range l {
				total += m.N
			}
			for page := from - 1; page <= from+width; page++ {
				owners := 0
				for _, m := range l {
					if alone, n, ok := Find(list(m), page); ok {
						owners++
						if got, at, there := Find(l, page); got != alone || at != n || !there {
							t.Errorf("Find(%v, %d) is %v, %d, %v", l, page, got, at, there)
						}
					}
				}
				if _, _, ok := Find(l, page); ok {
					found++
				}
				if owners > 1 {
					t.Errorf("%v: page %d is of %d maps", l, page, owners)
				}
			}
			if found != total {
				t.Errorf("%v: %d pages are found, of %d", l, found, total)
			}
		}
	}
}

// holdUndone puts a map where it can be, and tells what is wrong: whether other pages than its own are found otherwise, or Drop does not undo it.
func holdUndone(l []api.Map, m api.Map, pages []int) string {
	got, err := Put(l, m)
	if err != api.OK {
		return ""
	}
	was, is := spots(l, pages), spots(got, pages)
	for i, page := range pages {
		want := was[i]
		if between(page, m.Va, m.Va+m.N-1) {
			if want.found {
				return fmt.Sprintf("page %d was another's", page)
			}
			want = spot{m, m.Off + page - m.Va, true}
		}
		if is[i] != want {
			return fmt.Sprintf("page %d is found as %v", page, is[i])
		}
	}
	if back, err := Drop(got, m.Va); err != api.OK || !Same(back, l) || !slices.Equal(back, l) {
		return fmt.Sprintf("Drop makes %v, %v", back, err)
	}
	return ""
}

// P12.4: behind Put of each map that can be put just its pages are found otherwise, and Drop undoes it.
func TestPutIsUndone(t *testing.T) {
	for _, from := range []int{0, 1, end - width} {
		var pages []int
		for page := from - 2; page <= from+width+2; page++ {
			pages = append(pages, page)
		}
		for _, l := range smalls(from) {
			for va := from; va < from+width; va++ {
				for n := 1; va+n <= from+width; n++ {
					m := api.Map{Va: va, N: n, Cont: 1, Seg: 99, Off: 50, Write: true}
					if wrong := holdUndone(l, m, pages); wrong != "" {
						t.Errorf("Put(%v, %v): %s", l, m, wrong)
					}
				}
			}
		}
	}
}

// P12.4: likewise with maps that are many, or great.
func TestPutIsUndoneLongs(t *testing.T) {
	for _, l := range longs() {
		for _, va := range near(l) {
			for _, n := range []int{1, 2, 3, 5, 1 << 10, end / 2, end - 1} {
				m := api.Map{Va: va, N: n, Cont: 1, Seg: 99, Off: 1}
				if wrong := holdUndone(l, m, near(append(slices.Clone(l), at(va, 1, 0), at(va+n, 1, 0)))); wrong != "" {
					t.Errorf("Put(%v, %v): %s", l, m, wrong)
				}
			}
		}
	}
}

// P12.4: long rows of Put and Drop, held against a map of pages.
func TestRowsOfDeeds(t *testing.T) {
	for _, pages := range []int{10, 40, 200} {
		draw := rand.New(rand.NewSource(int64(pages)))
		var l []api.Map
		kept := map[int]spot{}
		for step := range 3000 {
			m := api.Map{Va: draw.Intn(pages), N: draw.Intn(pages/8+1) + 1, Cont: 3, Seg: uint64(step), Off: draw.Intn(end / 2), Write: draw.Intn(2) == 0}
			if draw.Intn(3) > 0 {
				got, err := Put(l, m)
				if err == api.OK {
					for i := range m.N {
						kept[m.Va+i] = spot{m, m.Off + i, true}
					}
				} else if !slices.Equal(got, l) {
					t.Fatalf("step %d: Put(%v, %v) is %v, %v", step, l, m, got, err)
				}
				l = got
			} else if gone := kept[m.Va]; gone.found && gone.m.Va == m.Va {
				l, _ = Drop(l, m.Va)
				for i := range gone.m.N {
					delete(kept, m.Va+i)
				}
			} else if got, err := Drop(l, m.Va); err != api.ErrName || !slices.Equal(got, l) {
				t.Fatalf("step %d: Drop(%v, %d) is %v, %v", step, l, m.Va, got, err)
			}
			for page := -1; page <= 2*pages; page++ {
				if m, n, found := Find(l, page); (spot{m, n, found}) != kept[page] {
					t.Fatalf("step %d: Find(%v, %d) is %v, %d, %v", step, l, page, m, n, found)
				}
			}
			if !Fit(l) {
				t.Fatalf("step %d: %v is not fit", step, l)
			}
		}
	}
}

// changers are the calls that tell maps, of a page, which is put as a map of n pages.
func changers() map[string]func(l []api.Map, va, n int) []api.Map {
	return map[string]func(l []api.Map, va, n int) []api.Map{
		"Put":  func(l []api.Map, va, n int) []api.Map { out, _ := Put(l, at(va, n, 0)); return out },
		"Drop": func(l []api.Map, va, n int) []api.Map { out, _ := Drop(l, va); return out },
	}
}

// P12.2, 0.5: what was handed in is never changed, not even behind its end, and what is told is new memory, also beside an error.
func TestNothingShared(t *testing.T) {
	mark := at(97, 97, 97)
	for name, change := range changers() {
		for _, l := range slices.Concat(smalls(0), longs()) {
			for _, va := range near(l) {
				for n := range 3 {
					room := append(slices.Clone(l), mark, mark)
					in := room[:len(l)]
					out := change(in, va, n)
					told := slices.Clone(out)
					if !slices.Equal(room, append(slices.Clone(l), mark, mark)) {
						t.Fatalf("%s(%v, %d, %d) changes what it was given", name, l, va, n)
					}
					for i := range out {
						out[i] = at(98, 98, 98)
					}
					if !slices.Equal(in, l) {
						t.Fatalf("%s(%v, %d, %d) shares memory with what it was given", name, l, va, n)
					}
					if again := change(in, va, n); !slices.Equal(again, told) {
						t.Fatalf("%s(%v, %d, %d) tells another thing the second time", name, l, va, n)
					}
				}
			}
		}
	}
}

// 0.7: no maps are no list, whatever came in.
func TestNoneIsNone(t *testing.T) {
	for _, l := range [][]api.Map{nil, {}} {
		if out, err := Put(l, at(0, 0, 0)); out != nil || err != api.ErrArg {
			t.Errorf("Put of what is not fit to no maps is %v, %v", out, err)
		}
		if out, err := Drop(l, 0); out != nil || err != api.ErrName {
			t.Errorf("Drop of no maps is %v, %v", out, err)
		}
	}
	if out, err := Drop(list(at(3, 1, 0)), 3); out != nil || err != api.OK {
		t.Errorf("Drop of the only map is %v, %v", out, err)
	}
}

// 0.5: what only asks changes nothing.
func TestAskingChangesNothing(t *testing.T) {
	wrong := list(at(9, 9, 9), at(-1, 0, 3), at(9, 9, 9), at(math.MaxInt, 1, math.MinInt))
	for _, l := range append(fits(), wrong) {
		was := slices.Clone(l)
		Fit(l)
		Same(l, l)
		Find(l, 3)
		Find(l, -1)
		if !slices.Equal(l, was) {
			t.Errorf("%v was changed by being asked", was)
		}
	}
}

// 0.1, 0.4: every call ends and none panics, also of maps that are not fit.
func TestUnfitEnds(t *testing.T) {
	lists := listsOf(3, api.Map{}, at(-1, 1, 0), at(5, -5, 5), at(9, 3, 0), at(2, 9, 0), at(math.MaxInt, math.MaxInt, math.MaxInt), at(math.MinInt, math.MinInt, math.MinInt))
	lists = append(lists, row(most+1, 0, 1, 1), row(1<<16, 0, 1, 1), row(1<<16, 1<<17, 1, -1), slices.Repeat(list(at(3, 1, 0)), 1<<16))
	for _, l := range lists {
		Fit(l)
		Same(l, l)
		for _, page := range edges() {
			Find(l, page)
			if len(l) < 1<<16 || between(page, -1, end) {
				Drop(l, page)
				Put(l, at(page, 1, 0))
				Put(l, at(0, page, 0))
				Put(l, at(1, 1, page))
			}
		}
	}
}
