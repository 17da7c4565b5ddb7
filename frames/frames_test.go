package frames

import (
	"fmt"
	"math"
	"math/rand"
	"slices"
	"testing"

	"curtilage/api"
)

// most is how many frames a machine has at most, last the greatest page, top the greatest owner.
const (
	most = 4096
	last = 1 << 20
	top  = math.MaxUint64
)

// free is a frame that is nobody's.
var free = api.Frame{}

// of is an owner's page.
func of(owner uint64, page int) api.Frame { return api.Frame{Owner: owner, Page: page} }

// list is frames, as they are written.
func list(l ...api.Frame) []api.Frame { return l }

// many are n frames, the pages of an owner from 0 on.
func many(n int, owner uint64) []api.Frame {
	var out []api.Frame
	for page := range n {
		out = append(out, of(owner, page))
	}
	return out
}

// but is frames of which one is another one.
func but(l []api.Frame, at int, f api.Frame) []api.Frame {
	out := slices.Clone(l)
	out[at] = f
	return out
}

// frees are n free frames.
func frees(n int) []api.Frame { return make([]api.Frame, n) }

// owners are numbers that an owner may be asked for by, 0 among them.
func owners() []uint64 { return []uint64{0, 1, 2, 3, 7, 1 << 32, 1 << 63, top} }

// goodPages and badPages are pages at the edges, those that may be taken and those that may not.
func goodPages() []int { return []int{0, 1, 2, last - 1, last} }
func badPages() []int  { return []int{-1, -2, last + 1, -last, math.MinInt, math.MaxInt} }
func anyPages() []int  { return append(goodPages(), badPages()...) }

// listsOf are all lists of at most n frames out of some.
func listsOf(n int, some ...api.Frame) [][]api.Frame {
	out := [][]api.Frame{nil}
	from := 0
	for range n {
		to := len(out)
		for _, l := range out[from:to] {
			for _, f := range some {
				out = append(out, append(slices.Clone(l), f))
			}
		}
		from = to
	}
	return out
}

// isFit tells whether frames are fit by the chapter's words, one sentence after another.
func isFit(l []api.Frame) bool {
	if len(l) > most {
		return false
	}
	for i, f := range l {
		if f.Page < 0 || f.Page > last {
			return false
		}
		if f.Owner == 0 && f.Page != 0 {
			return false
		}
		for _, g := range l[:i] {
			if f.Owner != 0 && f.Owner == g.Owner && f.Page == g.Page {
				return false
			}
		}
	}
	return true
}

// fits are all short fit lists of some owners' pages, and a few long ones.
func fits() [][]api.Frame {
	var out [][]api.Frame
	for _, l := range listsOf(4, free, of(1, 0), of(1, 1), of(2, 0), of(2, last), of(top, 1)) {
		if isFit(l) {
			out = append(out, l)
		}
	}
	full := many(most, 1)
	return append(out, frees(most), full, but(full, most-1, free), but(full, 0, free), but(but(full, 5, free), 9, free),
		but(full, most-1, of(2, 0)), but(full, 1000, of(7, last)), but(frees(most), most-1, of(2, 1)))
}

// have is the place of an owner's page by the chapter's words, -1 if it has none.
func have(l []api.Frame, owner uint64, page int) int {
	for i := len(l) - 1; i >= 0; i-- {
		if owner != 0 && l[i].Owner == owner && l[i].Page == page {
			return i
		}
	}
	return -1
}

// firstFree is the place of the first free frame, -1 if there is none.
func firstFree(l []api.Frame) int {
	at := -1
	for i := len(l) - 1; i >= 0; i-- {
		if l[i].Owner == 0 {
			at = i
		}
	}
	return at
}

// takeOf is Take by the chapter's words.
func takeOf(l []api.Frame, owner uint64, page int) ([]api.Frame, int, api.Errno) {
	switch {
	case owner == 0, page < 0, page > last:
		return l, 0, api.ErrArg
	case have(l, owner, page) >= 0:
		return l, 0, api.ErrThere
	case firstFree(l) < 0:
		return l, 0, api.ErrFull
	}
	at := firstFree(l)
	return but(l, at, of(owner, page)), at, api.OK
}

// giveOf is Give by the chapter's words.
func giveOf(l []api.Frame, owner uint64, page int) ([]api.Frame, api.Errno) {
	at := have(l, owner, page)
	if at < 0 {
		return l, api.ErrName
	}
	return but(l, at, free), api.OK
}

// dropOf is Drop by the chapter's words.
func dropOf(l []api.Frame, owner uint64) ([]api.Frame, int) {
	out := slices.Clone(l)
	n := 0
	for i, f := range l {
		if owner != 0 && f.Owner == owner {
			out[i] = free
			n++
		}
	}
	return out, n
}

// short tells frames as a text that is no longer than a line.
func short(l []api.Frame) string {
	if len(l) > 8 {
		return fmt.Sprintf("%v.. (%d)", l[:8], len(l))
	}
	return fmt.Sprint(l)
}

// P11.1: New of the numbers at both ends, and of others.
func TestNew(t *testing.T) {
	for _, n := range []int{0, 1, 2, 16, 1000, most - 1, most} {
		l, err := New(n)
		if err != api.OK || len(l) != n {
			t.Errorf("New(%d) is %d frames, %v", n, len(l), err)
		}
		for i, f := range l {
			if f != (api.Frame{}) {
				t.Fatalf("New(%d): frame %d is %v", n, i, f)
			}
		}
		if n == 0 && l != nil {
			t.Error("New(0) is a list")
		}
		if !Fit(l) || Free(l) != n {
			t.Errorf("New(%d) is not fit, or only %d are free", n, Free(l))
		}
	}
	for _, n := range []int{-1, -2, -most, most + 1, most + 2, 2 * most, 1 << 20, math.MinInt, math.MaxInt} {
		if l, err := New(n); err != api.ErrArg || l != nil {
			t.Errorf("New(%d) is %d frames, %v", n, len(l), err)
		}
	}
}

// P11.1: what New tells is new memory each time.
func TestNewIsNew(t *testing.T) {
	a, _ := New(3)
	a[1] = of(7, 7)
	b, _ := New(3)
	if !slices.Equal(b, frees(3)) {
		t.Errorf("New(3) is %v behind a change of an earlier answer", b)
	}
}

// P11.1: Fit of frames that are written out.
func TestFitRows(t *testing.T) {
	rows := []struct {
		l    []api.Frame
		want bool
	}{
		{nil, true},
		{list(), true},
		{list(free), true},
		{list(free, free, free), true},
		{list(of(7, 0)), true},
		{list(of(7, 0), of(7, 1), of(8, 0), of(8, 1)), true},
		{list(of(7, last)), true},
		{list(of(7, last-1), of(7, last), of(top, last)), true},
		{list(of(7, last+1)), false},
		{list(of(7, -1)), false},
		{list(of(7, math.MinInt)), false},
		{list(of(7, math.MaxInt)), false},
		{list(of(0, 1)), false},
		{list(of(0, last)), false},
		{list(of(0, -1)), false},
		{list(of(0, last+1)), false},
		{list(free, of(7, 3), of(0, 1)), false},
		{list(of(7, 0), of(7, 0)), false},
		{list(of(7, last), of(7, last)), false},
		{list(of(7, 3), free, of(8, 3), of(7, 3)), false},
		{list(of(7, 3), of(8, 3), of(9, 3)), true},
		{list(of(1, 2), of(2, 1)), true},
		{frees(most), true},
		{frees(most + 1), false},
		{frees(1 << 16), false},
		{many(most, 7), true},
		{many(most+1, 7), false},
		{but(many(most, 7), most-1, of(7, 0)), false},
		{but(many(most, 7), 0, of(7, most-1)), false},
		{but(many(most, 7), 0, of(8, most-1)), true},
		{but(many(most, 7), most-1, of(0, 1)), false},
		{but(frees(most), most-1, of(3, -1)), false},
		{but(frees(most), most/2, of(3, last+1)), false},
		{but(frees(most), most/2, of(3, last)), true},
	}
	for _, r := range rows {
		if got := Fit(r.l); got != r.want {
			t.Errorf("Fit(%s) is %v", short(r.l), got)
		}
	}
}

// P11.1: Fit of all short lists of frames, good ones and wrong ones, is what the chapter's words say.
func TestFitByWords(t *testing.T) {
	some := list(free, of(0, 1), of(1, 0), of(1, 1), of(2, 0), of(2, -1), of(2, last), of(2, last+1), of(top, 1))
	for _, l := range listsOf(4, some...) {
		if got, want := Fit(l), isFit(l); got != want {
			t.Errorf("Fit(%v) is %v", l, got)
		}
	}
}

// P11.1: Same goes by how many there are, by their order, and by each field.
func TestSameRows(t *testing.T) {
	rows := []struct {
		a, b []api.Frame
		want bool
	}{
		{nil, nil, true},
		{nil, list(), true},
		{nil, list(free), false},
		{list(free), list(free), true},
		{list(free), list(free, free), false},
		{list(of(7, 1)), list(of(7, 1)), true},
		{list(of(7, 1)), list(of(7, 2)), false},
		{list(of(7, 1)), list(of(8, 1)), false},
		{list(of(7, 1), of(8, 2)), list(of(8, 2), of(7, 1)), false},
		{list(of(7, 1), of(8, 2)), list(of(7, 1), of(8, 2)), true},
		{list(of(7, 1), of(8, 2)), list(of(7, 1)), false},
		{list(of(7, 0)), list(free), false},
		{list(of(0, 1)), list(free), false},
		{list(of(0, 1)), list(of(0, 1)), true},
		{list(of(7, -1), of(7, -1)), list(of(7, -1), of(7, -1)), true},
		{many(most, 7), many(most, 7), true},
		{many(most+1, 7), many(most+1, 7), true},
		{many(most+1, 7), many(most, 7), false},
		{many(most, 7), but(many(most, 7), most-1, of(7, 0)), false},
		{many(most, 7), but(many(most, 7), 0, free), false},
	}
	for _, r := range rows {
		if Same(r.a, r.b) != r.want || Same(r.b, r.a) != r.want {
			t.Errorf("Same(%s, %s) is %v, %v the other way", short(r.a), short(r.b), Same(r.a, r.b), Same(r.b, r.a))
		}
	}
}

// P11.1: Same of any two short lists, fit or not.
func TestSameByWords(t *testing.T) {
	all := listsOf(3, free, of(0, 1), of(1, 0), of(1, -1), of(2, 0))
	for i, a := range all {
		for j, b := range all {
			if Same(a, b) != (i == j) {
				t.Errorf("Same(%v, %v) is %v", a, b, i != j)
			}
		}
	}
}

// P11.2: Take that is written out: the chapter's example, each error, and which one is told first.
func TestTakeRows(t *testing.T) {
	rows := []struct {
		l     []api.Frame
		owner uint64
		page  int
		want  []api.Frame
		at    int
		err   api.Errno
	}{
		{list(free, free), 7, 0, list(of(7, 0), free), 0, api.OK},
		{list(of(7, 0), free), 7, 1, list(of(7, 0), of(7, 1)), 1, api.OK},
		{list(of(7, 0), free), 8, 0, list(of(7, 0), of(8, 0)), 1, api.OK},
		{list(of(7, 0), free, of(8, 0), free), 9, 5, list(of(7, 0), of(9, 5), of(8, 0), free), 1, api.OK},
		{list(free, of(7, 0)), 7, 1, list(of(7, 1), of(7, 0)), 0, api.OK},
		{list(free), 7, last, list(of(7, last)), 0, api.OK},
		{list(free), top, last, list(of(top, last)), 0, api.OK},
		{list(free), 0, 0, list(free), 0, api.ErrArg},
		{list(free), 0, 1, list(free), 0, api.ErrArg},
		{list(free), 7, -1, list(free), 0, api.ErrArg},
		{list(free), 7, last + 1, list(free), 0, api.ErrArg},
		{list(free), 7, math.MinInt, list(free), 0, api.ErrArg},
		{list(free), 7, math.MaxInt, list(free), 0, api.ErrArg},
		{list(free, of(7, 0)), 7, 0, list(free, of(7, 0)), 0, api.ErrThere},
		{list(of(7, 0), of(7, last), free), 7, last, list(of(7, 0), of(7, last), free), 0, api.ErrThere},
		{list(of(7, 0)), 7, 1, list(of(7, 0)), 0, api.ErrFull},
		{list(of(7, 0)), 8, 0, list(of(7, 0)), 0, api.ErrFull},
		{nil, 7, 0, nil, 0, api.ErrFull},
		{nil, 0, 0, nil, 0, api.ErrArg},
		{nil, 7, -1, nil, 0, api.ErrArg},
		{list(of(7, 0)), 7, 0, list(of(7, 0)), 0, api.ErrThere},
		{list(of(7, 0)), 0, 0, list(of(7, 0)), 0, api.ErrArg},
		{list(of(7, 0)), 7, last + 1, list(of(7, 0)), 0, api.ErrArg},
	}
	for _, r := range rows {
		l, at, err := Take(r.l, r.owner, r.page)
		if !slices.Equal(l, r.want) || at != r.at || err != r.err {
			t.Errorf("Take(%v, %d, %d) is %v, %d, %v", r.l, r.owner, r.page, l, at, err)
		}
	}
}

// P11.2: Take of any fit frames, any owner and any page is what the chapter's words say.
func TestTakeByWords(t *testing.T) {
	for _, l := range fits() {
		for _, owner := range owners() {
			for _, page := range anyPages() {
				want, wantAt, wantErr := takeOf(l, owner, page)
				got, at, err := Take(l, owner, page)
				if !slices.Equal(got, want) || at != wantAt || err != wantErr {
					t.Errorf("Take(%s, %d, %d) is %s, %d, %v", short(l), owner, page, short(got), at, err)
				}
				if len(got) <= 8 && !isFit(got) || !Fit(got) {
					t.Errorf("Take(%s, %d, %d) is not fit", short(l), owner, page)
				}
			}
		}
	}
}

// P11.2: all frames are taken, one after another, each in its place; then there is none, till one is given.
func TestTakeAll(t *testing.T) {
	l, _ := New(most)
	for i := range most {
		m, at, err := Take(l, uint64(i%5+1), i/5)
		if at != i || err != api.OK {
			t.Fatalf("Take %d is %d, %v", i, at, err)
		}
		l = m
	}
	if m, at, err := Take(l, 6, 0); !slices.Equal(m, l) || at != 0 || err != api.ErrFull {
		t.Errorf("Take of full frames is %d, %v", at, err)
	}
	for _, i := range []int{0, 1, 2048, most - 1} {
		m, err := Give(l, uint64(i%5+1), i/5)
		if err != api.OK {
			t.Fatalf("Give of frame %d is %v", i, err)
		}
		if m, at, err := Take(m, 6, last); !slices.Equal(m, but(l, i, of(6, last))) || at != i || err != api.OK {
			t.Errorf("Take behind Give of frame %d is %d, %v", i, at, err)
		}
	}
}

// P11.3: Give that is written out: what nobody has, what another has, owner 0, and pages that can't be.
func TestGiveRows(t *testing.T) {
	two := list(of(7, 0), free, of(8, 1), of(7, last))
	rows := []struct {
		l     []api.Frame
		owner uint64
		page  int
		want  []api.Frame
		err   api.Errno
	}{
		{nil, 7, 0, nil, api.ErrName},
		{list(free, free), 7, 0, list(free, free), api.ErrName},
		{two, 7, 0, list(free, free, of(8, 1), of(7, last)), api.OK},
		{two, 8, 1, list(of(7, 0), free, free, of(7, last)), api.OK},
		{two, 7, last, list(of(7, 0), free, of(8, 1), free), api.OK},
		{two, 7, 1, two, api.ErrName},
		{two, 8, 0, two, api.ErrName},
		{two, 9, 0, two, api.ErrName},
		{two, 0, 0, two, api.ErrName},
		{two, 0, 1, two, api.ErrName},
		{two, 7, -1, two, api.ErrName},
		{two, 7, last + 1, two, api.ErrName},
		{list(of(7, 0)), 7, 0, list(free), api.OK},
		{list(of(top, 3)), top, 3, list(free), api.OK},
		{list(of(top, 3)), top - 1, 3, list(of(top, 3)), api.ErrName},
	}
	for _, r := range rows {
		l, err := Give(r.l, r.owner, r.page)
		if !slices.Equal(l, r.want) || err != r.err {
			t.Errorf("Give(%v, %d, %d) is %v, %v", r.l, r.owner, r.page, l, err)
		}
	}
}

// P11.3: Give of any fit frames, any owner and any page is what the chapter's words say.
func TestGiveByWords(t *testing.T) {
	for _, l := range fits() {
		for _, owner := range owners() {
			for _, page := range append(anyPages(), 5, 1000, most-1) {
				want, wantErr := giveOf(l, owner, page)
				got, err := Give(l, owner, page)
				if !slices.Equal(got, want) || err != wantErr || !Fit(got) {
					t.Errorf("Give(%s, %d, %d) is %s, %v", short(l), owner, page, short(got), err)
				}
			}
		}
	}
}

// P11.3: Drop that is written out: of an owner of none, of one, of several, of all, and of 0.
func TestDropRows(t *testing.T) {
	mixed := list(of(7, 0), free, of(8, 1), of(7, last), free)
	rows := []struct {
		l     []api.Frame
		owner uint64
		want  []api.Frame
		n     int
	}{
		{nil, 7, nil, 0},
		{nil, 0, nil, 0},
		{list(free, free), 0, list(free, free), 0},
		{list(free, free), 7, list(free, free), 0},
		{mixed, 9, mixed, 0},
		{mixed, 0, mixed, 0},
		{mixed, 8, list(of(7, 0), free, free, of(7, last), free), 1},
		{mixed, 7, list(free, free, of(8, 1), free, free), 2},
		{many(3, 7), 7, frees(3), 3},
		{many(3, 7), 0, many(3, 7), 0},
		{many(most, top), top, frees(most), most},
		{many(most, top), top - 1, many(most, top), 0},
		{but(many(most, 7), most-1, of(8, 0)), 8, but(many(most, 7), most-1, free), 1},
		{but(many(most, 7), most-1, of(8, 0)), 7, but(frees(most), most-1, of(8, 0)), most - 1},
	}
	for _, r := range rows {
		l, n := Drop(r.l, r.owner)
		if !slices.Equal(l, r.want) || n != r.n {
			t.Errorf("Drop(%s, %d) is %s, %d", short(r.l), r.owner, short(l), n)
		}
	}
}

// P11.3: Drop of any fit frames and any owner is what the chapter's words say, and what as many Gives would make.
func TestDropByWords(t *testing.T) {
	for _, l := range fits() {
		for _, owner := range owners() {
			want, wantN := dropOf(l, owner)
			got, n := Drop(l, owner)
			if !slices.Equal(got, want) || n != wantN || !Fit(got) {
				t.Errorf("Drop(%s, %d) is %s, %d", short(l), owner, short(got), n)
			}
			if Held(got, owner) != 0 || Free(got) != Free(l)+n || Held(l, owner) != n {
				t.Errorf("Drop(%s, %d): %d are held, %d are free", short(l), owner, Held(got, owner), Free(got))
			}
		}
	}
}

// P11.4: Find, Free and Held of any fit frames, 0 and owners of none among who is asked for.
func TestAskedByWords(t *testing.T) {
	for _, l := range fits() {
		nobody := 0
		for _, f := range l {
			if f.Owner == 0 {
				nobody++
			}
		}
		if Free(l) != nobody {
			t.Errorf("Free(%s) is %d", short(l), Free(l))
		}
		for _, owner := range owners() {
			if _, n := dropOf(l, owner); Held(l, owner) != n {
				t.Errorf("Held(%s, %d) is %d", short(l), owner, Held(l, owner))
			}
			for _, page := range append(anyPages(), 5, 1000, most-1) {
				want := have(l, owner, page)
				at, found := Find(l, owner, page)
				if found != (want >= 0) || at != max(want, 0) {
					t.Errorf("Find(%s, %d, %d) is %d, %v", short(l), owner, page, at, found)
				}
			}
		}
	}
}

// P11.4: Find, Free and Held that are written out.
func TestAskedRows(t *testing.T) {
	l := list(of(7, 0), free, of(8, 0), of(7, last), free, of(8, 3), of(8, 4))
	finds := []struct {
		owner uint64
		page  int
		at    int
		found bool
	}{
		{7, 0, 0, true}, {8, 0, 2, true}, {7, last, 3, true}, {8, 3, 5, true}, {8, 4, 6, true},
		{7, 1, 0, false}, {7, 3, 0, false}, {9, 0, 0, false}, {0, 0, 0, false}, {0, 3, 0, false}, {7, -1, 0, false}, {7, last + 1, 0, false},
	}
	for _, r := range finds {
		if at, found := Find(l, r.owner, r.page); at != r.at || found != r.found {
			t.Errorf("Find(%d, %d) is %d, %v", r.owner, r.page, at, found)
		}
	}
	if at, found := Find(frees(3), 0, 0); at != 0 || found {
		t.Errorf("Find of 0 is %d, %v", at, found)
	}
	for owner, n := range map[uint64]int{0: 0, 7: 2, 8: 3, 9: 0, top: 0} {
		if Held(l, owner) != n {
			t.Errorf("Held(%d) is %d", owner, Held(l, owner))
		}
	}
	if Free(l) != 2 || Free(nil) != 0 || Free(frees(most)) != most || Free(many(most, 7)) != 0 {
		t.Errorf("Free is %d, %d, %d, %d", Free(l), Free(nil), Free(frees(most)), Free(many(most, 7)))
	}
	if Held(nil, 7) != 0 || Held(many(most, 7), 7) != most || Held(frees(most), 0) != 0 {
		t.Errorf("Held is %d, %d, %d", Held(nil, 7), Held(many(most, 7), 7), Held(frees(most), 0))
	}
}

// changers are the calls that tell frames, by one owner and one page.
func changers() map[string]func([]api.Frame, uint64, int) []api.Frame {
	return map[string]func([]api.Frame, uint64, int) []api.Frame{
		"Take": func(l []api.Frame, owner uint64, page int) []api.Frame { m, _, _ := Take(l, owner, page); return m },
		"Give": func(l []api.Frame, owner uint64, page int) []api.Frame { m, _ := Give(l, owner, page); return m },
		"Drop": func(l []api.Frame, owner uint64, page int) []api.Frame { m, _ := Drop(l, owner); return m },
	}
}

// P11.2, P11.3, 0.5: what was handed in is never changed, not even behind its end, and what is told is new memory, also beside an error.
func TestNothingShared(t *testing.T) {
	mark := of(99, 99)
	for name, change := range changers() {
		for _, l := range fits() {
			for _, owner := range []uint64{0, 1, 2, 9} {
				for _, page := range []int{-1, 0, 1, last} {
					room := append(slices.Clone(l), mark, mark)
					in := room[:len(l)]
					out := change(in, owner, page)
					told := slices.Clone(out)
					if !slices.Equal(room, append(slices.Clone(l), mark, mark)) {
						t.Fatalf("%s(%s, %d, %d) changes what it was given", name, short(l), owner, page)
					}
					for i := range out {
						out[i] = of(98, 98)
					}
					if !slices.Equal(in, l) {
						t.Fatalf("%s(%s, %d, %d) shares memory with what it was given", name, short(l), owner, page)
					}
					if again := change(in, owner, page); !slices.Equal(again, told) {
						t.Fatalf("%s(%s, %d, %d) tells another thing the second time", name, short(l), owner, page)
					}
				}
			}
		}
	}
}

// 0.7: no frames are no list, whatever came in.
func TestNoneIsNone(t *testing.T) {
	for name, change := range changers() {
		for _, l := range [][]api.Frame{nil, {}} {
			if out := change(l, 7, 0); out != nil {
				t.Errorf("%s of no frames is a list", name)
			}
		}
	}
}

// 0.5: what only asks changes nothing.
func TestAskingChangesNothing(t *testing.T) {
	wrong := list(of(0, 3), of(7, -1), of(7, 2), of(7, 2), free)
	for _, l := range append(fits(), wrong) {
		was := slices.Clone(l)
		Fit(l)
		Free(l)
		Held(l, 1)
		Held(l, 0)
		Find(l, 1, 1)
		Find(l, 0, 0)
		Same(l, l)
		if !slices.Equal(l, was) {
			t.Errorf("%s was changed by being asked", short(was))
		}
	}
}

// 0.1, 0.4: every call ends and none panics, also of frames that are not fit.
func TestUnfitEnds(t *testing.T) {
	lists := listsOf(3, free, of(0, 1), of(0, -1), of(1, 0), of(1, -1), of(1, last+1))
	lists = append(lists, frees(1<<16), many(1<<16, 7), slices.Repeat(list(of(7, 3)), 1<<16))
	for _, l := range lists {
		Fit(l)
		Free(l)
		Same(l, l)
		for _, owner := range []uint64{0, 1, 7} {
			Held(l, owner)
			Drop(l, owner)
			for _, page := range []int{-1, 0, 3, last, last + 1} {
				Find(l, owner, page)
				Take(l, owner, page)
				Give(l, owner, page)
			}
		}
	}
}

// accounted tells what is wrong with frames by P11.5: what is free and what all hold is all there is, and no frame is found for two.
func accounted(l []api.Frame) string {
	held := map[uint64]int{}
	found := map[int]int{}
	for at, f := range l {
		if f.Owner == 0 {
			continue
		}
		held[f.Owner]++
		place, there := Find(l, f.Owner, f.Page)
		if !there || place != at {
			return fmt.Sprintf("frame %d is found at %d, %v", at, place, there)
		}
		found[place]++
	}
	all := Free(l)
	for owner, n := range held {
		if Held(l, owner) != n {
			return fmt.Sprintf("%d holds %d, not %d", owner, Held(l, owner), n)
		}
		all += Held(l, owner)
	}
	if all != len(l) {
		return fmt.Sprintf("%d are free or held, of %d", all, len(l))
	}
	if len(found) != len(l)-Free(l) {
		return fmt.Sprintf("%d are found, of %d", len(found), len(l)-Free(l))
	}
	if !Fit(l) {
		return "they are not fit"
	}
	return ""
}

// P11.5: all fit frames are accounted for, also behind any call.
func TestEachOnes(t *testing.T) {
	for _, l := range fits() {
		if len(l) > 8 && Free(l) < len(l)-8 {
			l = l[:600] // each page is sought in all of them
		}
		if wrong := accounted(l); wrong != "" {
			t.Errorf("%s: %s", short(l), wrong)
		}
		for name, change := range changers() {
			for _, owner := range []uint64{0, 1, 2, 3} {
				for _, page := range []int{-1, 0, 1, last} {
					m := change(l, owner, page)
					if wrong := accounted(m); wrong != "" || len(m) != len(l) {
						t.Fatalf("%s(%s, %d, %d): %s", name, short(l), owner, page, wrong)
					}
				}
			}
		}
	}
}

// deed is something that is done to frames: of which kind, whose, and which page.
type deed struct {
	kind  int
	owner uint64
	page  int
}

// Kinds of deeds.
const (
	take = iota
	give
	drop
)

// play does a deed to frames, holds what is told against the pages that are kept in a map of places, and tells what is wrong.
func play(l []api.Frame, kept map[api.Frame]int, d deed) ([]api.Frame, string) {
	key := of(d.owner, d.page)
	place, there := kept[key]
	was := Free(l)
	switch d.kind {
	case take:
		m, at, err := Take(l, d.owner, d.page)
		switch {
		case there && err != api.ErrThere, !there && was == 0 && err != api.ErrFull, !there && was > 0 && err != api.OK:
			return m, fmt.Sprintf("Take is %v", err)
		case err == api.OK && (Free(m) != was-1 || Held(m, d.owner) != Held(l, d.owner)+1):
			return m, fmt.Sprintf("behind Take %d are free and %d held", Free(m), Held(m, d.owner))
		case err == api.OK:
			kept[key] = at
		}
		return m, ""
	case give:
		m, err := Give(l, d.owner, d.page)
		switch {
		case there != (err == api.OK), !there && err != api.ErrName:
			return m, fmt.Sprintf("Give is %v", err)
		case there && (Free(m) != was+1 || Held(m, d.owner) != Held(l, d.owner)-1 || m[place] != free):
			return m, fmt.Sprintf("behind Give %d are free and %d held", Free(m), Held(m, d.owner))
		}
		delete(kept, key)
		return m, ""
	}
	m, n := Drop(l, d.owner)
	gone := 0
	for key := range kept {
		if key.Owner == d.owner {
			delete(kept, key)
			gone++
		}
	}
	if n != gone || Free(m) != was+n {
		return m, fmt.Sprintf("Drop is %d, not %d, and %d are free", n, gone, Free(m))
	}
	return m, ""
}

// foundAll tells what is wrong where a kept page is not found at its place, or another is found.
func foundAll(l []api.Frame, kept map[api.Frame]int) string {
	for key, place := range kept {
		if at, found := Find(l, key.Owner, key.Page); !found || at != place {
			return fmt.Sprintf("%v is found at %d, %v, not at %d", key, at, found, place)
		}
	}
	if len(kept) != len(l)-Free(l) {
		return fmt.Sprintf("%d are kept, of %d that are not free", len(kept), len(l)-Free(l))
	}
	return ""
}

// P11.6: all short rows of deeds of two owners: a page that was taken is found at its place until it is given, whatever others do.
func TestTakenIsFoundShort(t *testing.T) {
	var deeds []deed
	for _, owner := range []uint64{1, 2} {
		for _, page := range []int{0, 1} {
			deeds = append(deeds, deed{take, owner, page}, deed{give, owner, page})
		}
		deeds = append(deeds, deed{drop, owner, 0})
	}
	for n := range 4 {
		rows := 1
		for range 5 {
			rows *= len(deeds)
		}
		for row := range rows {
			l, _ := New(n)
			kept := map[api.Frame]int{}
			for left := row; left > 0; left /= len(deeds) {
				var wrong string
				l, wrong = play(l, kept, deeds[left%len(deeds)])
				if wrong == "" {
					wrong = foundAll(l, kept)
				}
				if wrong != "" {
					t.Fatalf("%d frames, row %d: %s", n, row, wrong)
				}
			}
		}
	}
}

// P11.5, P11.6: long rows of deeds of many owners, on few and on many frames.
func TestTakenIsFoundLong(t *testing.T) {
	for _, n := range []int{1, 2, 5, 40, 700} {
		draw := rand.New(rand.NewSource(int64(n)))
		l, _ := New(n)
		kept := map[api.Frame]int{}
		for step := range 4000 {
			d := deed{take, uint64(draw.Intn(6) + 1), draw.Intn(n/2 + 2)}
			switch lot := draw.Intn(n + 20); { // the more frames, the less often all of one owner go, so that they become full
			case lot == 0:
				d.kind = drop
			case lot < (n+20)/3:
				d.kind = give
			case lot >= n+18:
				d.page = last - d.page
			}
			var wrong string
			l, wrong = play(l, kept, d)
			if wrong == "" && (step%50 == 0 || n <= 5) {
				wrong = foundAll(l, kept)
			}
			if wrong == "" && step%200 == 0 {
				wrong = accounted(l)
			}
			if wrong != "" {
				t.Fatalf("%d frames, step %d, %v: %s", n, step, d, wrong)
			}
		}
	}
}

// P11.6: behind taking and giving there is as much as ahead, frame by frame, and whatever another did between.
func TestTakenAndGiven(t *testing.T) {
	for _, l := range fits() {
		for _, owner := range []uint64{1, 2, 3, top} {
			for _, page := range goodPages() {
				m, at, err := Take(l, owner, page)
				if err != api.OK {
					continue
				}
				if found, ok := Find(m, owner, page); !ok || found != at {
					t.Errorf("%s: %d of %d was taken at %d, and is found at %d, %v", short(l), page, owner, at, found, ok)
				}
				if back, err := Give(m, owner, page); err != api.OK || !Same(back, l) {
					t.Errorf("%s: %d of %d was taken and given, and there is %s, %v", short(l), page, owner, short(back), err)
				}
				other, _, otherErr := Take(m, 1<<40, 9)
				other, _ = Drop(other, 1<<40)
				if found, ok := Find(other, owner, page); !ok || found != at || !Same(other, m) {
					t.Errorf("%s: %d of %d is not found behind another's Take (%v) and Drop", short(l), page, owner, otherErr)
				}
				if back, err := Give(other, owner, page); err != api.OK || !Same(back, l) {
					t.Errorf("%s: %d of %d was given behind another's, and there is %s, %v", short(l), page, owner, short(back), err)
				}
			}
		}
	}
}
