package serial

import (
	"fmt"
	"math"
	"math/big"
	"slices"
	"testing"

	"curtilage/api"
	"curtilage/perm"
)

// last is the greatest name, and where all numbers end; top is the greatest word.
const (
	last = 1 << 61
	top  = math.MaxUint64
)

// span is the numbers from lo on, below hi.
func span(lo, hi uint64) api.Span { return api.Span{Lo: lo, Hi: hi} }

// edges are ends that numbers may have.
func edges() []uint64 {
	out := []uint64{0, 1, 2, 3, 5, 15, 16, 17, 31, 32, 33, 47, 48, 255, 256, 257, 1000, 1<<16 - 1, 1 << 16, 1<<16 + 1}
	for _, bit := range []int{31, 32, 52, 53, 60} {
		out = append(out, 1<<bit-16, 1<<bit-1, 1<<bit, 1<<bit+1, 1<<bit+15)
	}
	for _, less := range []uint64{257, 256, 255, 48, 33, 32, 31, 17, 16, 15, 2, 1, 0} {
		out = append(out, last-less)
	}
	return out
}

// beyond are words above all ends.
func beyond() []uint64 {
	return []uint64{last + 1, last + 2, last + 16, 1<<62 - 1, 1 << 62, 1<<63 - 1, 1 << 63, 1<<63 + 1, 3 * last, 7*last + 5, top - 1, top}
}

// spans are fit ones of all edges, empty ones among them.
func spans() []api.Span {
	var out []api.Span
	for i, hi := range edges() {
		for _, lo := range edges()[:i+1] {
			out = append(out, span(lo, hi))
		}
	}
	return out
}

// unfits are spans of edges and words beyond that can't be.
func unfits() []api.Span {
	var out []api.Span
	all := append(edges(), beyond()...)
	for _, lo := range all {
		for i, hi := range all {
			if lo > hi || i >= len(edges()) {
				out = append(out, span(lo, hi))
			}
		}
	}
	return out
}

// of is a word as a number without bounds.
func of(word uint64) *big.Int { return new(big.Int).SetUint64(word) }

// count is how many numbers a span has, without bounds; below 0 if its ends are crossed.
func count(s api.Span) *big.Int { return new(big.Int).Sub(of(s.Hi), of(s.Lo)) }

// isFit tells whether numbers are fit, by the chapter's words, on numbers without bounds.
func isFit(s api.Span) bool {
	most := new(big.Int).Exp(big.NewInt(2), big.NewInt(61), nil)
	return count(s).Sign() >= 0 && of(s.Hi).Cmp(most) <= 0
}

// splitOf is Split by the chapter's words, on numbers without bounds.
func splitOf(s api.Span) (api.Span, api.Span, api.Errno) {
	if count(s).Cmp(big.NewInt(16)) < 0 {
		return s, api.Span{}, api.ErrSerial
	}
	given := new(big.Int).Div(count(s), big.NewInt(16))
	cut := new(big.Int).Sub(of(s.Hi), given).Uint64()
	return span(s.Lo, cut), span(cut, s.Hi), api.OK
}

// inside are the numbers of a short span, one by one; of a long one, which comes from a fault alone, the first.
func inside(s api.Span) []uint64 {
	var out []uint64
	for n := s.Lo; n < s.Hi && n-s.Lo < 1<<13; n++ {
		out = append(out, n)
	}
	return out
}

// short are all spans of at most n numbers that begin at one of the n numbers from first on.
func short(first, n uint64) []api.Span {
	var out []api.Span
	for lo := range n {
		for hi := lo; hi <= n; hi++ {
			out = append(out, span(first+lo, first+hi))
		}
	}
	return append(out, span(first+n, first+n))
}

// P7.1: Fit of spans that are written out: ends that are the same, crossed, at 2^61 and above.
func TestFitRows(t *testing.T) {
	rows := []struct {
		s    api.Span
		want bool
	}{
		{span(0, 0), true},
		{span(0, 1), true},
		{span(1, 0), false},
		{span(3, 5), true},
		{span(5, 5), true},
		{span(6, 5), false},
		{span(0, last-1), true},
		{span(0, last), true},
		{span(0, last+1), false},
		{span(last-1, last), true},
		{span(last, last), true},
		{span(last, last-1), false},
		{span(last, last+1), false},
		{span(last+1, last), false},
		{span(last+1, last+1), false},
		{span(0, top), false},
		{span(top, 0), false},
		{span(top, top), false},
		{span(top, last), false},
		{span(1<<63, 1<<63), false},
	}
	for _, r := range rows {
		if got := Fit(r.s); got != r.want {
			t.Errorf("Fit(%v) is %v", r.s, got)
		}
	}
}

// P7.1: Fit of any ends is what the chapter's words say.
func TestFitByWords(t *testing.T) {
	all := append(edges(), beyond()...)
	for _, lo := range all {
		for _, hi := range all {
			if got, want := Fit(span(lo, hi)), isFit(span(lo, hi)); got != want {
				t.Errorf("Fit(%v) is %v, not %v", span(lo, hi), got, want)
			}
		}
	}
	for _, s := range spans() {
		if !Fit(s) {
			t.Errorf("%v is not fit", s)
		}
	}
	for _, s := range unfits() {
		if Fit(s) {
			t.Errorf("%v is fit", s)
		}
	}
}

// P7.1: Take that is written out: the chapter's example, of none, of the last one, and at both ends of all numbers.
func TestTakeRows(t *testing.T) {
	rows := []struct {
		s    api.Span
		n    uint64
		left api.Span
		err  api.Errno
	}{
		{span(3, 5), 3, span(4, 5), api.OK},
		{span(4, 5), 4, span(5, 5), api.OK},
		{span(5, 5), 0, span(5, 5), api.ErrSerial},
		{span(0, 0), 0, span(0, 0), api.ErrSerial},
		{span(0, 1), 0, span(1, 1), api.OK},
		{span(1, 1), 0, span(1, 1), api.ErrSerial},
		{span(0, last), 0, span(1, last), api.OK},
		{span(last-2, last), last - 2, span(last-1, last), api.OK},
		{span(last-1, last), last - 1, span(last, last), api.OK},
		{span(last, last), 0, span(last, last), api.ErrSerial},
	}
	for _, r := range rows {
		n, left, err := Take(r.s)
		if n != r.n || left != r.left || err != r.err {
			t.Errorf("Take(%v) is %d, %v, %v, not %d, %v, %v", r.s, n, left, err, r.n, r.left, r.err)
		}
	}
}

// P7.1: Take of any fit span is what the chapter's words say.
func TestTakeByWords(t *testing.T) {
	for _, s := range spans() {
		wantN, wantLeft, wantErr := s.Lo, span(s.Lo+1, s.Hi), api.OK
		if count(s).Sign() == 0 {
			wantN, wantLeft, wantErr = 0, s, api.ErrSerial
		}
		n, left, err := Take(s)
		if n != wantN || left != wantLeft || err != wantErr {
			t.Errorf("Take(%v) is %d, %v, %v", s, n, left, err)
		}
	}
}

// P7.2: Split that is written out: the chapter's example, of fewer than 16, of 16, and of counts that 16 does not part evenly.
func TestSplitRows(t *testing.T) {
	rows := []struct {
		s, kept, given api.Span
		err            api.Errno
	}{
		{span(0, 32), span(0, 30), span(30, 32), api.OK},
		{span(0, 0), span(0, 0), span(0, 0), api.ErrSerial},
		{span(5, 5), span(5, 5), span(0, 0), api.ErrSerial},
		{span(5, 6), span(5, 6), span(0, 0), api.ErrSerial},
		{span(0, 15), span(0, 15), span(0, 0), api.ErrSerial},
		{span(0, 16), span(0, 15), span(15, 16), api.OK},
		{span(0, 17), span(0, 16), span(16, 17), api.OK},
		{span(0, 31), span(0, 30), span(30, 31), api.OK},
		{span(7, 22), span(7, 22), span(0, 0), api.ErrSerial},
		{span(7, 23), span(7, 22), span(22, 23), api.OK},
		{span(7, 38), span(7, 37), span(37, 38), api.OK},
		{span(7, 39), span(7, 37), span(37, 39), api.OK},
		{span(7, 40), span(7, 38), span(38, 40), api.OK},
		{span(100, 1100), span(100, 1038), span(1038, 1100), api.OK},
		{span(0, last), span(0, 15<<57), span(15<<57, last), api.OK},
		{span(1, last), span(1, 15<<57+1), span(15<<57+1, last), api.OK},
		{span(0, last-1), span(0, 15<<57), span(15<<57, last-1), api.OK},
		{span(last-15, last), span(last-15, last), span(0, 0), api.ErrSerial},
		{span(last-16, last), span(last-16, last-1), span(last-1, last), api.OK},
		{span(last-33, last), span(last-33, last-2), span(last-2, last), api.OK},
		{span(last, last), span(last, last), span(0, 0), api.ErrSerial},
		{span(1<<52, 2<<52), span(1<<52, 31<<48), span(31<<48, 2<<52), api.OK},
	}
	for _, r := range rows {
		kept, given, err := Split(r.s)
		if kept != r.kept || given != r.given || err != r.err {
			t.Errorf("Split(%v) is %v, %v, %v, not %v, %v, %v", r.s, kept, given, err, r.kept, r.given, r.err)
		}
	}
}

// P7.2: Split of any fit span is what the chapter's words say.
func TestSplitByWords(t *testing.T) {
	all := spans()
	for _, first := range []uint64{0, 1, 1000, 1 << 52, last - 300} {
		for n := range uint64(301) {
			all = append(all, span(first, first+min(n, last-first)))
		}
	}
	for _, s := range all {
		kept, given, err := Split(s)
		wantKept, wantGiven, wantErr := splitOf(s)
		if kept != wantKept || given != wantGiven || err != wantErr {
			t.Errorf("Split(%v) is %v, %v, %v, not %v, %v, %v", s, kept, given, err, wantKept, wantGiven, wantErr)
		}
	}
}

// keys are any.
func keys() []uint64 {
	return []uint64{0, 1, 3, last - 1, last, 1 << 63, top, 0x9e3779b97f4a7c15, 0x0123456789abcdef}
}

// P7.3: Has, written out by names whose numbers are known: the number below, at, and above both ends.
func TestHasRows(t *testing.T) {
	rows := []struct{ key, name, n uint64 }{
		{0, 1, 0x078d95b728b40a45},
		{0, 2, 0x02814d843ad7e057},
		{0, last, 0x109c1da27074e5e3},
		{3, 1, 0x00d0147c9efc1b69},
		{3, last, 0x0e7407adcd835821},
		{3, 0x07008cf9b1bc3b3c, 5},
		{top, 1, 0x140b8d2d60ca60b9},
		{top, last, 0x03e76e7698244028},
		{top, 0x04153c57db1b3d92, 1 << 52},
	}
	for _, r := range rows {
		for _, in := range []api.Span{span(r.n, r.n+1), span(r.n-1, r.n+1), span(r.n, r.n+2), span(0, r.n+1), span(r.n, last), span(0, last)} {
			if !Has(r.key, in, r.name) {
				t.Errorf("Has(%#x, %v, %#x) is false", r.key, in, r.name)
			}
		}
		for _, out := range []api.Span{span(r.n, r.n), span(r.n-1, r.n), span(0, r.n), span(r.n+1, r.n+2), span(r.n+1, last), span(0, 0), span(last, last)} {
			if Has(r.key, out, r.name) {
				t.Errorf("Has(%#x, %v, %#x) is true", r.key, out, r.name)
			}
		}
	}
}

// P7.3: what is no name is not to be given, whatever its lower bits are.
func TestHasNoName(t *testing.T) {
	for _, key := range keys() {
		for _, name := range append(beyond(), 0) {
			for _, s := range spans() {
				if Has(key, s, name) {
					t.Errorf("Has(%#x, %v, %#x) is true", key, s, name)
				}
			}
		}
		for _, name := range []uint64{1, 2, 3, 5, 1 << 30, 1 << 60, last - 1, last} {
			if !Has(key, span(0, last), name) {
				t.Errorf("Has(%#x, all, %#x) is false", key, name)
			}
		}
	}
}

// P7.3: just the names of a span's numbers are still to be given of it.
func TestHasByWords(t *testing.T) {
	for _, key := range keys() {
		for _, first := range []uint64{0, 1 << 30, 1 << 52, last - 8} {
			for _, s := range short(first, 8) {
				for n := first; n < first+8; n++ {
					want := slices.Contains(inside(s), n)
					if got := Has(key, s, perm.Name(key, n)); got != want {
						t.Errorf("Has(%#x, %v, name of %d) is %v", key, s, n, got)
					}
				}
			}
		}
		for _, s := range spans() {
			for _, name := range []uint64{1, 2, 1 << 20, 1 << 40, last - 1, last} {
				n := of(perm.Number(key, name))
				want := n.Cmp(of(s.Lo)) >= 0 && n.Cmp(of(s.Hi)) < 0
				if got := Has(key, s, name); got != want {
					t.Errorf("Has(%#x, %v, %#x) is %v", key, s, name, got)
				}
			}
		}
	}
}

// P7.3: Has hangs on the key: the name of a number by one key is here not that of the same number by another.
func TestHasByKey(t *testing.T) {
	for _, key := range keys() {
		for _, other := range keys() {
			s := span(5, 6)
			if got := Has(other, s, perm.Name(key, 5)); got != (key == other) {
				t.Errorf("by %#x, the name of 5 by %#x: %v", other, key, got)
			}
		}
	}
}

// P7.3: Apart, written out, either way round: numbers that touch, overlap, hold one another, and empty ones.
func TestApartRows(t *testing.T) {
	rows := []struct {
		a, b api.Span
		want bool
	}{
		{span(0, 3), span(3, 5), true},
		{span(0, 3), span(2, 5), false},
		{span(0, 3), span(4, 5), true},
		{span(0, 3), span(0, 3), false},
		{span(0, 9), span(3, 5), false},
		{span(0, 9), span(0, 5), false},
		{span(0, 9), span(5, 9), false},
		{span(0, 9), span(8, 9), false},
		{span(0, 9), span(9, 10), true},
		{span(0, 9), span(5, 5), true},
		{span(0, 9), span(0, 0), true},
		{span(0, 9), span(9, 9), true},
		{span(0, 9), span(20, 20), true},
		{span(5, 5), span(5, 5), true},
		{span(0, 0), span(0, 0), true},
		{span(5, 5), span(6, 6), true},
		{span(0, last), span(last, last), true},
		{span(0, last), span(last-1, last), false},
		{span(0, last), span(0, 1), false},
		{span(0, last), span(0, last), false},
		{span(0, last-1), span(last-1, last), true},
		{span(1<<52, 2<<52), span(2<<52, 3<<52), true},
	}
	for _, r := range rows {
		if got := Apart(r.a, r.b); got != r.want {
			t.Errorf("Apart(%v, %v) is %v", r.a, r.b, got)
		}
		if got := Apart(r.b, r.a); got != r.want {
			t.Errorf("Apart(%v, %v) is %v", r.b, r.a, got)
		}
	}
}

// P7.3: Apart of any two short spans tells whether a number, one by one, is in both.
func TestApartByWords(t *testing.T) {
	for _, first := range []uint64{0, 1 << 52, last - 7} {
		for _, a := range short(first, 7) {
			for _, b := range short(first, 7) {
				want := !slices.ContainsFunc(inside(a), func(n uint64) bool { return slices.Contains(inside(b), n) })
				if got := Apart(a, b); got != want {
					t.Errorf("Apart(%v, %v) is %v", a, b, got)
				}
			}
		}
	}
}

// P7.3: Apart of long spans: one that has a number of both is told not to be apart, by an end of one in the other.
func TestApartLong(t *testing.T) {
	in := func(n uint64, s api.Span) bool { return of(n).Cmp(of(s.Lo)) >= 0 && of(n).Cmp(of(s.Hi)) < 0 }
	all := spans()
	for i, a := range all {
		for j := i % 7; j < len(all); j += 7 {
			b := all[j]
			some := count(a).Sign() > 0 && count(b).Sign() > 0
			want := !(some && (in(a.Lo, b) || in(b.Lo, a)))
			if got := Apart(a, b); got != want {
				t.Errorf("Apart(%v, %v) is %v", a, b, got)
			}
		}
	}
}

// P7.4: what is taken is not there any more, and nothing else goes.
func TestTakenIsGone(t *testing.T) {
	for _, s := range spans() {
		n, left, err := Take(s)
		if err != api.OK {
			continue
		}
		one := span(n, n+1)
		if !Fit(left) || !Apart(one, left) || count(left).Cmp(new(big.Int).Sub(count(s), big.NewInt(1))) != 0 || left.Hi != s.Hi {
			t.Errorf("of %v %d was taken, and %v is left", s, n, left)
		}
		for _, key := range keys()[:4] {
			name := perm.Name(key, n)
			if !Has(key, s, name) || Has(key, left, name) {
				t.Errorf("by %#x, the name of %d of %v can be given of %v", key, n, s, left)
			}
		}
	}
}

// P7.4: numbers that were parted are apart, both some, and together what they were.
func TestPartedIsApart(t *testing.T) {
	for _, s := range spans() {
		kept, given, err := Split(s)
		if err != api.OK {
			continue
		}
		if !Fit(kept) || !Fit(given) || !Apart(kept, given) || !Apart(given, kept) {
			t.Errorf("%v was parted into %v and %v, which are not fit and apart", s, kept, given)
		}
		if count(kept).Sign() <= 0 || count(given).Sign() <= 0 {
			t.Errorf("%v was parted into %v and %v, of which one is none", s, kept, given)
		}
		if kept.Lo != s.Lo || kept.Hi != given.Lo || given.Hi != s.Hi {
			t.Errorf("%v was parted into %v and %v, which are not it together", s, kept, given)
		}
	}
}

// play is what owners hold and have taken, in a row of takings and partings.
type play struct {
	held  []api.Span
	taken []uint64
}

// do makes the owner who is told take, or part its numbers with a new one.
func (p *play) do(who int, part bool) {
	who %= len(p.held)
	if part {
		kept, given, err := Split(p.held[who])
		p.held[who] = kept
		if err == api.OK {
			p.held = append(p.held, given)
		}
		return
	}
	n, left, err := Take(p.held[who])
	p.held[who] = left
	if err == api.OK {
		p.taken = append(p.taken, n)
	}
}

// wrong is what is wrong with what began as a short span: each number of it must have been taken once or be held once, and no other.
func (p *play) wrong(s api.Span) string {
	all := slices.Clone(p.taken)
	for i, a := range p.held {
		all = append(all, inside(a)...)
		for _, b := range p.held[:i] {
			if !Apart(a, b) {
				return fmt.Sprint(a, " and ", b, " are not apart")
			}
		}
	}
	slices.Sort(all)
	if !slices.Equal(all, inside(s)) {
		return fmt.Sprint(p.taken, " taken and ", p.held, " held are not ", s)
	}
	return ""
}

// steps are all rows of n steps, each of one of three owners, who takes or parts.
func steps(n int) [][]int {
	out := [][]int{nil}
	for range n {
		var longer [][]int
		for _, row := range out {
			for step := range 6 {
				longer = append(longer, append(slices.Clone(row), step))
			}
		}
		out = longer
	}
	return out
}

// P7.4: no number is taken twice in any row of up to 5 takings and partings by up to 3 owners.
func TestNeverTwiceAllRows(t *testing.T) {
	for _, s := range []api.Span{span(0, 16), span(0, 18), span(3, 36), span(last-34, last), span(0, 260)} {
		for n := range 6 {
			for _, row := range steps(n) {
				p := &play{held: []api.Span{s}}
				for _, step := range row {
					p.do(step/2, step%2 == 1)
				}
				if told := p.wrong(s); told != "" {
					t.Errorf("row %v: %s", row, told)
				}
			}
		}
	}
}

// P7.4: no number is taken twice when many owners take and part till nothing is left, in several orders; in the end all are taken.
func TestNeverTwiceToTheEnd(t *testing.T) {
	for _, s := range []api.Span{span(0, 1000), span(7, 1<<12), span(last-3000, last), span(1<<52, 1<<52+2049)} {
		for seed := range uint64(12) {
			p := &play{held: []api.Span{s}}
			x := seed
			for range 50 * (s.Hi - s.Lo) {
				x = x*6364136223846793005 + 1442695040888963407
				who := int((x >> 40) % uint64(len(p.held)))
				part := (x>>33)%(seed+2) == 0 && len(p.held) < 64
				if !part {
					who = p.someone(who)
				}
				p.do(who, part)
				if uint64(len(p.taken)) >= s.Hi-s.Lo {
					break
				}
			}
			if told := p.wrong(s); told != "" || uint64(len(p.taken)) != s.Hi-s.Lo {
				t.Errorf("seed %d, %d taken of %v: %s", seed, len(p.taken), s, told)
			}
		}
	}
}

// someone is the first owner from one on who has numbers.
func (p *play) someone(from int) int {
	for i := range p.held {
		who := (from + i) % len(p.held)
		if p.held[who].Lo < p.held[who].Hi {
			return who
		}
	}
	return from
}

// P7.4: all numbers at once, parted 2^16 times and taken of in between: what was taken and what is held never meets.
func TestNeverTwiceOfAll(t *testing.T) {
	p := &play{held: []api.Span{span(0, last)}}
	for i := range 1 << 16 {
		p.do(i*31, i%3 != 0)
	}
	var ends []api.Span
	for _, n := range p.taken {
		ends = append(ends, span(n, n+1))
	}
	for _, s := range p.held {
		if s.Lo < s.Hi {
			ends = append(ends, s)
		}
	}
	if len(p.taken) < 1<<12 || len(p.held) < 1<<12 {
		t.Errorf("only %d were taken, and there are only %d owners", len(p.taken), len(p.held))
	}
	slices.SortFunc(ends, func(a, b api.Span) int { return of(a.Lo).Cmp(of(b.Lo)) })
	whole := span(0, 0)
	for _, s := range ends {
		if s.Lo != whole.Hi {
			t.Fatalf("%v comes behind %v", s, whole)
		}
		whole.Hi = s.Hi
	}
	if whole != span(0, last) {
		t.Errorf("all together are %v", whole)
	}
}

// P7.1, P7.2: takings in a row rise by one, until there is none; partings in a row get less, until there are fewer than 16.
func TestTillNone(t *testing.T) {
	s := span(last-40, last)
	for i := range uint64(40) {
		n, left, err := Take(s)
		if n != last-40+i || err != api.OK {
			t.Errorf("taking %d is %d, %v", i, n, err)
		}
		s = left
	}
	for range 2 {
		if n, left, err := Take(s); n != 0 || left != span(last, last) || err != api.ErrSerial {
			t.Errorf("one more is %d, %v, %v", n, left, err)
		}
	}
	s, rounds := span(0, last), 0
	for err := api.OK; err == api.OK && rounds < 10000; rounds++ {
		s, _, err = Split(s)
	}
	if s != span(0, 15) || rounds < 100 || rounds == 10000 {
		t.Errorf("behind %d partings %v is left", rounds, s)
	}
}

// P7.1 to P7.3, 0.1: of numbers that are not fit, too, every call ends.
func TestUnfitEnds(t *testing.T) {
	for _, s := range unfits() {
		Take(s)
		Split(s)
		for _, name := range []uint64{0, 1, last, last + 1, top} {
			Has(3, s, name)
		}
		for _, other := range []api.Span{span(0, 0), span(0, last), span(5, 3), span(top, 0), s} {
			Apart(s, other)
			Apart(other, s)
		}
	}
}

// P7.1, P7.2: a giver that is asked changes nothing; what it gives is not its own any more.
func TestGiver(t *testing.T) {
	g := giver{span(3, 40)}
	if g.asked(numbers.some) != api.OK || g.asked(numbers.divisible) != api.OK || g.Span != span(3, 40) {
		t.Errorf("a giver of 3 to 40 that was asked has %v", g.Span)
	}
	if n := g.next(); n != 3 || g.Span != span(4, 40) {
		t.Errorf("a giver gave %d and has %v", n, g.Span)
	}
	if s := g.part(); s != span(38, 40) || g.Span != span(4, 38) {
		t.Errorf("a giver gave %v and has %v", s, g.Span)
	}
	none := giver{span(9, 9)}
	if none.asked(numbers.some) != api.ErrSerial || none.asked(numbers.divisible) != api.ErrSerial || none.Span != span(9, 9) {
		t.Errorf("a giver of none has %v", none.Span)
	}
}
