package seg

import (
	"fmt"
	"math"
	"math/rand"
	"reflect"
	"slices"
	"testing"

	"curtilage/api"
	"curtilage/label"
	"curtilage/obj"
)

// sizes are numbers of words, and places, round those of an object, and such as no segment has.
func sizes(o api.Object) []int {
	room := pageLen * (o.Quota - 1)
	out := []int{math.MinInt, math.MinInt + 1, -1 << 32, -pageLen, -2, -1, 0, 1, 2, 1 << 31, 1 << 32, 1<<32 + 1, 1 << 60, 1<<60 + 1, math.MaxInt - 15, math.MaxInt - 1, math.MaxInt}
	for _, near := range []int{len(o.Data), room, pageLen, 2 * pageLen, topWords} {
		out = append(out, near-1, near, near+1)
	}
	return out
}

// places are those of sizes, as words, and the greatest ones.
func places(o api.Object) []uint64 {
	out := []uint64{1 << 63, 1<<63 + 1, 1<<63 - 1, math.MaxUint64, math.MaxUint64 - 1}
	for _, n := range sizes(o) {
		out = append(out, uint64(n))
	}
	return out
}

// quotas are such as can be, round what an object's words need, and such as can't.
func quotas(o api.Object) []int {
	need := 1 + (len(o.Data)+pageLen-1)/pageLen
	return []int{math.MinInt, -1 << 32, -1, 0, 1, 2, 3, need - 2, need - 1, need, need + 1, topQuota - 1, topQuota, topQuota + 1, 1 << 28, 1 << 32, 1 << 59, 1 << 60, 1<<60 + 1, math.MaxInt}
}

// fitLabels are labels that are fit, of which some may be a segment's.
func fitLabels() map[string]api.Label {
	return map[string]api.Label{
		"none":         nil,
		"one":          pair(7, api.Lev3),
		"great":        pair(math.MaxUint64, api.Lev0),
		"several":      {{Cat: 0, Lev: api.Lev0}, {Cat: 5, Lev: api.Lev2}, {Cat: 9, Lev: api.Lev3}},
		"as many":      pairs(topPairs, api.Lev2),
		"one more":     pairs(topPairs+1, api.Lev2),
		"many":         pairs(100, api.Lev3),
		"owns":         pair(7, api.Star),
		"owns, too":    {{Cat: 3, Lev: api.Lev3}, {Cat: 7, Lev: api.Star}},
		"above":        pair(7, api.Above),
		"above, too":   {{Cat: 3, Lev: api.Above}, {Cat: 7, Lev: api.Lev0}},
		"many own":     pairs(topPairs, api.Star),
		"too many own": pairs(topPairs+1, api.Star),
	}
}

// holdSound holds that what is told of a sound object is sound.
func holdSound(t *testing.T, name string, o api.Object) {
	t.Helper()
	if !obj.Sound(o) {
		t.Errorf("%s: what it tells is not sound", name)
	}
}

// holdResize holds Resize against the chapter's words, and tells what it tells.
func holdResize(t *testing.T, o api.Object, n int) api.Object {
	t.Helper()
	want, wantErr := resizeOf(o, n)
	got, err := Resize(o, n)
	if err != wantErr || !obj.SameOne(got, want) {
		t.Errorf("Resize of kind %d, quota %d, %d words to %d: error %d, %d words; asked for are error %d, %d words", o.Kind, o.Quota, len(o.Data), n, err, len(got.Data), wantErr, len(want.Data))
	}
	holdSound(t, "Resize", got)
	return got
}

// holdGet holds Get against the chapter's words.
func holdGet(t *testing.T, o api.Object, at uint64) {
	t.Helper()
	want, wantErr := getOf(o, at)
	if got, err := Get(o, at); got != want || err != wantErr {
		t.Errorf("Get of word %d of %d, kind %d: %d, error %d; asked for are %d, error %d", at, len(o.Data), o.Kind, got, err, want, wantErr)
	}
}

// holdPut holds Put against the chapter's words, and tells what it tells.
func holdPut(t *testing.T, o api.Object, at, v uint64) api.Object {
	t.Helper()
	want, wantErr := putOf(o, at, v)
	got, err := Put(o, at, v)
	if err != wantErr || !obj.SameOne(got, want) {
		t.Errorf("Put of word %d of %d, kind %d: error %d, as it should be: %v; asked for is error %d", at, len(o.Data), o.Kind, err, obj.SameOne(got, want), wantErr)
	}
	holdSound(t, "Put", got)
	return got
}

// holdCopy holds Copy against the chapter's words, and tells what it tells.
func holdCopy(t *testing.T, o api.Object, id uint64, l api.Label, quota int) api.Object {
	t.Helper()
	want, wantErr := copyOf(o, id, l, quota)
	got, err := Copy(o, id, l, quota)
	if err != wantErr || !obj.SameOne(got, want) {
		t.Errorf("Copy of kind %d, %d words to %d of quota %d and label %v: error %d, as it should be: %v; asked for is error %d", o.Kind, len(o.Data), id, quota, l, err, obj.SameOne(got, want), wantErr)
	}
	if err == api.OK {
		holdSound(t, "Copy", got)
	} else if !reflect.DeepEqual(got, api.Object{}) {
		t.Errorf("Copy of kind %d tells something beside error %d", o.Kind, err)
	}
	return got
}

// holdPage holds Page against the chapter's words.
func holdPage(t *testing.T, o api.Object, n int) {
	t.Helper()
	if got, want := Page(o, n), pageOf(o, n); got != want {
		t.Errorf("Page %d of kind %d, %d words: %v, not %v", n, o.Kind, len(o.Data), got, want)
	}
}

// holdAll holds all calls of an object, at places and numbers round its own.
func holdAll(t *testing.T, o api.Object) {
	t.Helper()
	was := deep(o)
	for _, n := range sizes(o) {
		holdResize(t, o, n)
		holdPage(t, o, n)
	}
	for _, at := range places(o) {
		holdGet(t, o, at)
		holdPut(t, o, at, at+5)
	}
	for _, quota := range quotas(o) {
		holdCopy(t, o, 3, pair(7, api.Lev3), quota)
		holdCopy(t, o, 0, nil, quota)
	}
	for n := -2; n <= obj.Pages(o)+2; n++ {
		holdPage(t, o, n)
	}
	if !reflect.DeepEqual(o, was) {
		t.Errorf("what was handed in, kind %d, %d words, is another one", o.Kind, len(o.Data))
	}
}

// some are sound segments of all sorts but the greatest ones.
func some() []api.Object {
	out := []api.Object{{Id: 1, Kind: api.KdSegment, Quota: 1}, {Id: topId, Kind: api.KdSegment, Quota: 2, Fixed: true, Label: pairs(topPairs, api.Lev0), Data: []uint64{math.MaxUint64}}}
	for _, quota := range []int{1, 2, 3, 4, 9, 60, topQuota} {
		room := pageLen * (quota - 1)
		for _, words := range []int{0, 1, 2, 15, 16, 17, 31, 32, 33, 100, 900} {
			if words <= room {
				out = append(out, segment(quota, words))
			}
		}
		if quota < topQuota {
			out = append(out, segment(quota, room))
		}
	}
	return out
}

// The objects of these tests are sound, and the labels fit.
func TestSound(t *testing.T) {
	for _, o := range append(some(), segment(topQuota, topWords)) {
		holdSound(t, "a segment", o)
	}
	for _, kind := range kinds() {
		holdSound(t, fmt.Sprint("kind ", kind), other(kind))
	}
	for name, l := range fitLabels() {
		if !label.Fit(l) {
			t.Errorf("%s is not fit", name)
		}
	}
}

// Example 1: to 17 words a segment of Quota 2 has no room; of three words there is no word 3.
func TestExample(t *testing.T) {
	o := api.Object{Id: 2, Kind: api.KdSegment, Quota: 2}
	same, err := Resize(o, 17)
	if err != api.ErrQuota || !obj.SameOne(same, o) {
		t.Errorf("to 17: %v, error %d", same, err)
	}
	three, err := Resize(o, 3)
	if err != api.OK || !slices.Equal(three.Data, []uint64{0, 0, 0}) || three.Id != 2 || three.Quota != 2 {
		t.Errorf("to 3: %v, error %d", three, err)
	}
	if word, err := Get(three, 3); err != api.ErrRange || word != 0 {
		t.Errorf("word 3: %d, error %d", word, err)
	}
	if word, err := Get(three, 2); err != api.OK || word != 0 {
		t.Errorf("word 2: %d, error %d", word, err)
	}
}

// P16.1 to P16.3: of what is no segment each call tells ErrKind ahead of any other error, and Page zeros.
func TestNoSegment(t *testing.T) {
	for _, kind := range kinds() {
		if kind == api.KdSegment {
			continue
		}
		for _, o := range []api.Object{other(kind), {Id: 4, Kind: kind, Quota: 1}} {
			for _, n := range []int{math.MinInt, -1, 0, 1, 5, pageLen, 80, 81, topWords, math.MaxInt} {
				if got, err := Resize(o, n); err != api.ErrKind || !obj.SameOne(got, o) {
					t.Errorf("Resize of kind %d to %d: %v, error %d", kind, n, got, err)
				}
				if got := Page(o, n); got != [pageLen]uint64{} {
					t.Errorf("Page %d of kind %d: %v", n, kind, got)
				}
				at := uint64(n)
				if word, err := Get(o, at); err != api.ErrKind || word != 0 {
					t.Errorf("Get of word %d of kind %d: %d, error %d", at, kind, word, err)
				}
				if got, err := Put(o, at, 6); err != api.ErrKind || !obj.SameOne(got, o) {
					t.Errorf("Put of word %d of kind %d: %v, error %d", at, kind, got, err)
				}
				if got, err := Copy(o, at, pair(7, api.Star), n); err != api.ErrKind || !reflect.DeepEqual(got, api.Object{}) {
					t.Errorf("Copy of kind %d in quota %d: %v, error %d", kind, n, got, err)
				}
			}
			if got, err := Copy(o, 3, nil, 5); err != api.ErrKind || !reflect.DeepEqual(got, api.Object{}) {
				t.Errorf("Copy of kind %d: %v, error %d", kind, got, err)
			}
			holdAll(t, o)
		}
	}
}

// P16.1: which error Resize tells, written out, and how many words it makes.
func TestResize(t *testing.T) {
	rows := []struct {
		quota, words, n int
		err             api.Errno
	}{
		{1, 0, 0, api.OK}, {1, 0, 1, api.ErrQuota}, {1, 0, 16, api.ErrQuota}, {1, 0, -1, api.ErrArg}, {1, 0, math.MaxInt, api.ErrQuota}, {1, 0, math.MinInt, api.ErrArg},
		{2, 0, 0, api.OK}, {2, 0, 1, api.OK}, {2, 0, 15, api.OK}, {2, 0, 16, api.OK}, {2, 0, 17, api.ErrQuota}, {2, 0, 32, api.ErrQuota},
		{2, 16, 16, api.OK}, {2, 16, 15, api.OK}, {2, 16, 1, api.OK}, {2, 16, 0, api.OK}, {2, 16, 17, api.ErrQuota}, {2, 16, -1, api.ErrArg}, {2, 16, -17, api.ErrArg},
		{3, 5, 5, api.OK}, {3, 5, 4, api.OK}, {3, 5, 6, api.OK}, {3, 5, 16, api.OK}, {3, 5, 17, api.OK}, {3, 5, 31, api.OK}, {3, 5, 32, api.OK}, {3, 5, 33, api.ErrQuota}, {3, 5, 48, api.ErrQuota},
		{3, 32, 0, api.OK}, {3, 32, 16, api.OK}, {3, 32, 17, api.OK}, {3, 32, 31, api.OK}, {3, 32, 33, api.ErrQuota},
		{100, 90, 1584, api.OK}, {100, 90, 1585, api.ErrQuota}, {100, 90, 1600, api.ErrQuota},
		{topQuota, 40, topWords, api.OK}, {topQuota, 40, topWords + 1, api.ErrQuota}, {topQuota, 40, topWords + pageLen, api.ErrQuota}, {topQuota, 40, math.MaxInt, api.ErrQuota}, {topQuota, 40, 1 << 32, api.ErrQuota},
		{topQuota, topWords, topWords, api.OK}, {topQuota, topWords, topWords - 1, api.OK}, {topQuota, topWords, 3, api.OK}, {topQuota, topWords, 0, api.OK}, {topQuota, topWords, topWords + 1, api.ErrQuota}, {topQuota, topWords, -topWords, api.ErrArg},
	}
	for _, r := range rows {
		o := segment(r.quota, r.words)
		got, err := Resize(o, r.n)
		words := r.words
		if r.err == api.OK {
			words = r.n
		}
		if err != r.err || len(got.Data) != words {
			t.Errorf("quota %d, %d words to %d: error %d, %d words", r.quota, r.words, r.n, err, len(got.Data))
		}
		holdResize(t, o, r.n)
	}
}

// P16.1, P16.4: what is within stays, behind it there is 0, also where words were that have been cut off.
func TestResizeBack(t *testing.T) {
	for _, full := range []int{1, 5, 15, 16, 17, 32, 33, 47, 48} {
		for cut := range full + 1 {
			for _, back := range []int{full, 48} {
				o := segment(4, full)
				small := holdResize(t, o, cut)
				if !slices.Equal(small.Data, o.Data[:cut]) {
					t.Errorf("of %d words %d stay as %v", full, cut, small.Data)
				}
				again := holdResize(t, small, back)
				if !slices.Equal(again.Data, slices.Concat(o.Data[:cut], make([]uint64, back-cut))) {
					t.Errorf("of %d words that were cut to %d: %v", full, cut, again.Data)
				}
			}
		}
	}
	o := segment(topQuota, topWords)
	again := holdResize(t, holdResize(t, o, topWords-17), topWords)
	if !slices.Equal(again.Data[:topWords-17], o.Data[:topWords-17]) || slices.ContainsFunc(again.Data[topWords-17:], func(v uint64) bool { return v != 0 }) {
		t.Error("of the greatest segment, behind what was cut off, there is something")
	}
}

// P16.1: words behind the end of the list that came in are not the segment's.
func TestResizeBehindTheEnd(t *testing.T) {
	for _, words := range []int{0, 1, 7, 16, 20} {
		data := count(1, 48)
		o := sized(segment(4, 0), data[:words])
		got, err := Resize(o, 48)
		if err != api.OK || !slices.Equal(got.Data, slices.Concat(data[:words], make([]uint64, 48-words))) {
			t.Errorf("%d words to 48: %v, error %d", words, got.Data, err)
		}
		if page := Page(o, 0); page != pageOf(sized(o, slices.Clone(data[:words])), 0) {
			t.Errorf("Page 0 of %d words: %v", words, page)
		}
	}
}

// P16.2: Get and Put, written out: the first word, the last one, the one behind it, and places that are greater than any number of words.
func TestGetPut(t *testing.T) {
	rows := []struct {
		quota, words int
		at           uint64
		err          api.Errno
	}{
		{1, 0, 0, api.ErrRange}, {1, 0, 1, api.ErrRange}, {1, 0, math.MaxUint64, api.ErrRange}, {9, 0, 0, api.ErrRange}, {9, 0, 127, api.ErrRange},
		{2, 1, 0, api.OK}, {2, 1, 1, api.ErrRange}, {2, 1, 15, api.ErrRange}, {2, 1, 16, api.ErrRange},
		{2, 16, 0, api.OK}, {2, 16, 15, api.OK}, {2, 16, 16, api.ErrRange}, {2, 16, 17, api.ErrRange},
		{5, 20, 15, api.OK}, {5, 20, 16, api.OK}, {5, 20, 19, api.OK}, {5, 20, 20, api.ErrRange}, {5, 20, 21, api.ErrRange}, {5, 20, 64, api.ErrRange},
		{5, 20, 1 << 32, api.ErrRange}, {5, 20, 1<<32 + 3, api.ErrRange}, {5, 20, 1 << 63, api.ErrRange}, {5, 20, 1<<63 + 3, api.ErrRange}, {5, 20, math.MaxUint64, api.ErrRange}, {5, 20, math.MaxUint64 - 19, api.ErrRange},
		{topQuota, topWords, 0, api.OK}, {topQuota, topWords, topWords - 1, api.OK}, {topQuota, topWords, topWords, api.ErrRange}, {topQuota, topWords, topWords + 1, api.ErrRange}, {topQuota, topWords, math.MaxUint64, api.ErrRange},
	}
	for _, r := range rows {
		o := segment(r.quota, r.words)
		word, err := Get(o, r.at)
		want := uint64(0)
		if r.err == api.OK {
			want = 1001 + r.at
		}
		if err != r.err || word != want {
			t.Errorf("word %d of %d: %d, error %d", r.at, r.words, word, err)
		}
		for _, v := range []uint64{0, 1, 77, want, math.MaxUint64} {
			if _, err := Put(o, r.at, v); err != r.err {
				t.Errorf("Put of word %d of %d: error %d", r.at, r.words, err)
			}
			holdPut(t, o, r.at, v)
		}
	}
}

// P16.3: which error Copy tells by its quota, written out.
func TestCopyQuota(t *testing.T) {
	rows := []struct {
		words, quota int
		err          api.Errno
	}{
		{0, math.MinInt, api.ErrQuota}, {0, -1, api.ErrQuota}, {0, 0, api.ErrQuota}, {0, 1, api.OK}, {0, 2, api.OK}, {0, topQuota, api.OK}, {0, topQuota + 1, api.ErrArg}, {0, math.MaxInt, api.ErrArg},
		{1, 0, api.ErrQuota}, {1, 1, api.ErrQuota}, {1, 2, api.OK}, {15, 1, api.ErrQuota}, {15, 2, api.OK},
		{16, 0, api.ErrQuota}, {16, 1, api.ErrQuota}, {16, 2, api.OK}, {16, 3, api.OK}, {17, 2, api.ErrQuota}, {17, 3, api.OK}, {17, 1, api.ErrQuota},
		{32, 2, api.ErrQuota}, {32, 3, api.OK}, {33, 3, api.ErrQuota}, {33, 4, api.OK}, {33, topQuota, api.OK}, {33, topQuota + 1, api.ErrArg}, {33, 1 << 60, api.ErrArg}, {33, 1<<60 + 1, api.ErrArg}, {33, math.MaxInt, api.ErrArg}, {33, -4, api.ErrQuota}, {33, math.MinInt, api.ErrQuota},
		{topWords, 1, api.ErrQuota}, {topWords, topQuota - 1, api.ErrQuota}, {topWords, topQuota, api.OK}, {topWords, topQuota + 1, api.ErrArg}, {topWords, math.MaxInt, api.ErrArg}, {topWords - 15, topQuota - 1, api.ErrQuota}, {topWords - 16, topQuota - 1, api.OK},
	}
	for _, r := range rows {
		o := segment(topQuota, r.words)
		got, err := Copy(o, 3, pair(7, api.Lev3), r.quota)
		if err != r.err || err == api.OK && (got.Quota != r.quota || !slices.Equal(got.Data, o.Data)) {
			t.Errorf("%d words in quota %d: error %d, %d words of quota %d", r.words, r.quota, err, len(got.Data), got.Quota)
		}
		holdCopy(t, o, 3, pair(7, api.Lev3), r.quota)
	}
}

// P16.3: an id, a label or a quota by which it would not be sound is ErrArg; ErrQuota is told ahead of it; beside either there is nothing.
func TestCopyArg(t *testing.T) {
	ids := []uint64{0, 1, 2, 7, 1 << 40, topId - 1, topId, topId + 1, 1 << 62, 1 << 63, math.MaxUint64}
	for _, o := range []api.Object{segment(2, 0), segment(3, 17), segment(9, 100)} {
		for name, l := range fitLabels() {
			for _, id := range ids {
				for _, quota := range quotas(o) {
					holdCopy(t, o, id, l, quota)
				}
				for _, quota := range []int{-1, 0, obj.Pages(o) - 1} {
					if _, err := Copy(o, id, l, quota); err != api.ErrQuota {
						t.Errorf("label %s, id %d, quota %d: error %d", name, id, quota, err)
					}
				}
			}
		}
	}
	wrong := []struct {
		id    uint64
		l     api.Label
		quota int
	}{
		{0, nil, 5}, {topId + 1, nil, 5}, {math.MaxUint64, nil, 5}, {3, pair(7, api.Star), 5}, {3, pair(7, api.Above), 5}, {3, pairs(topPairs+1, api.Lev0), 5},
		{3, nil, topQuota + 1}, {0, pair(7, api.Star), math.MaxInt},
	}
	for _, r := range wrong {
		if got, err := Copy(segment(5, 30), r.id, r.l, r.quota); err != api.ErrArg || !reflect.DeepEqual(got, api.Object{}) {
			t.Errorf("id %d, label %v, quota %d: %v, error %d", r.id, r.l, r.quota, got, err)
		}
	}
}

// P16.3: a copy has its own id, label and quota, is not Fixed, and has all the words and nothing else.
func TestCopy(t *testing.T) {
	for _, o := range append(some(), segment(topQuota, topWords)) {
		for _, fixed := range []bool{false, true} {
			from := changed(o, func(o *api.Object) { o.Fixed = fixed })
			for name, l := range fitLabels() {
				if !isKept(l) {
					continue
				}
				got := holdCopy(t, from, 12, l, topQuota)
				if want := (api.Object{Id: 12, Kind: api.KdSegment, Label: l, Quota: topQuota, Data: o.Data}); !obj.SameOne(got, want) {
					t.Errorf("%s: of %d words a copy of %d words, quota %d, label %v, fixed %v", name, len(o.Data), len(got.Data), got.Quota, got.Label, got.Fixed)
				}
			}
			same := holdCopy(t, from, o.Id, o.Label, o.Quota)
			if want := changed(o, func(o *api.Object) { o.Fixed = false }); !obj.SameOne(same, want) {
				t.Errorf("a copy of %d words to its own id is another one", len(o.Data))
			}
		}
	}
}

// P16.3: Page, written out.
func TestPage(t *testing.T) {
	o := segment(4, 20)
	var none, first, second [pageLen]uint64
	copy(first[:], count(1001, 16))
	copy(second[:], count(1017, 4))
	rows := []struct {
		n    int
		want [pageLen]uint64
	}{
		{math.MinInt, none}, {math.MinInt + 1, none}, {-1 << 60, none}, {-16, none}, {-2, none}, {-1, none},
		{0, first}, {1, second}, {2, none}, {3, none}, {4, none}, {16, none}, {20, none}, {topQuota, none},
		{1 << 28, none}, {1 << 32, none}, {1 << 59, none}, {1 << 60, none}, {1<<60 + 1, none}, {1 << 61, none}, {1 << 62, none}, {math.MaxInt / pageLen, none}, {math.MaxInt - 1, none}, {math.MaxInt, none},
	}
	for _, r := range rows {
		if got := Page(o, r.n); got != r.want {
			t.Errorf("page %d: %v", r.n, got)
		}
	}
	if got := Page(segment(3, 16), 0); got != first {
		t.Errorf("page 0 of 16 words: %v", got)
	}
	if got := Page(segment(3, 16), 1); got != none {
		t.Errorf("page 1 of 16 words: %v", got)
	}
	if got := Page(segment(3, 0), 0); got != none {
		t.Errorf("page 0 of no words: %v", got)
	}
	great := segment(topQuota, topWords)
	if got := Page(great, topQuota-2); !slices.Equal(got[:], great.Data[topWords-pageLen:]) {
		t.Errorf("the last page of the greatest segment: %v", got)
	}
	if got := Page(great, topQuota-1); got != none {
		t.Errorf("a page behind the greatest segment: %v", got)
	}
}

// P16.1 to P16.3: all calls of all sorts of segments, at edges.
func TestEdges(t *testing.T) {
	for _, o := range some() {
		holdAll(t, o)
	}
}

// P16.1 to P16.3: all small segments: each quota, number of words, place and page.
func TestAllSmall(t *testing.T) {
	for quota := 1; quota <= 4; quota++ {
		room := pageLen * (quota - 1)
		for words := range room + 1 {
			o := segment(quota, words)
			for n := -3; n <= room+pageLen+2; n++ {
				holdResize(t, o, n)
				holdGet(t, o, uint64(n))
				holdPut(t, o, uint64(n), uint64(n+4))
				holdPage(t, o, n)
			}
			for less := -1; less <= quota+2; less++ {
				holdCopy(t, o, 1, nil, less)
			}
		}
	}
}

// P16.4: what was put is got, all other words stay, and all else of the segment.
func TestPutFound(t *testing.T) {
	for _, o := range []api.Object{segment(2, 1), segment(2, 16), segment(4, 33), segment(9, 100)} {
		for at := range o.Data {
			for _, v := range []uint64{0, 5, math.MaxUint64} {
				got, err := Put(o, uint64(at), v)
				if word, getErr := Get(got, uint64(at)); err != api.OK || getErr != api.OK || word != v {
					t.Errorf("put as word %d of %d was %d, got is %d, errors %d, %d", at, len(o.Data), v, word, err, getErr)
				}
				for place := range o.Data {
					was, _ := Get(o, uint64(place))
					if is, err := Get(got, uint64(place)); place != at && (is != was || err != api.OK) {
						t.Errorf("behind Put of word %d, word %d of %d is %d, not %d", at, place, len(o.Data), is, was)
					}
				}
				if got.Data[at] = o.Data[at]; !obj.SameOne(got, o) {
					t.Errorf("behind Put of word %d of %d something else is another one", at, len(o.Data))
				}
			}
		}
	}
}

// P16.4: Put of what Get tells changes nothing; of two words in one place the last one counts; words in two places come to the same in either order.
func TestPuts(t *testing.T) {
	o := segment(3, 20)
	for a := range uint64(20) {
		word, _ := Get(o, a)
		if same := holdPut(t, o, a, word); !obj.SameOne(same, o) {
			t.Errorf("Put of word %d as it is changes something", a)
		}
		if last := holdPut(t, holdPut(t, o, a, 5), a, 6); !obj.SameOne(last, holdPut(t, o, a, 6)) {
			t.Errorf("of two words in place %d it is not the last one", a)
		}
		for b := range a {
			one, two := holdPut(t, holdPut(t, o, a, 5), b, 6), holdPut(t, holdPut(t, o, b, 6), a, 5)
			if !obj.SameOne(one, two) {
				t.Errorf("words %d and %d: in the other order it is another one", a, b)
			}
		}
	}
}

// P16.4: in rows of drawn calls each word is the one that was put last, or 0 if it was cut off since.
func TestRows(t *testing.T) {
	for seed := range int64(30) {
		draw := rand.New(rand.NewSource(seed))
		o := api.Object{Id: 5, Kind: api.KdSegment, Quota: 1 + draw.Intn(7), Label: pair(7, api.Lev2), Fixed: seed%2 == 0}
		var words []uint64
		sorts := map[api.Errno]int{}
		for range 300 {
			n, at, v := draw.Intn(8*pageLen)-2, uint64(draw.Intn(8*pageLen)), draw.Uint64()
			var err api.Errno
			switch draw.Intn(6) {
			case 0:
				o, err = Resize(o, n)
				if n >= 0 && n <= pageLen*(o.Quota-1) {
					words = append(words[:min(n, len(words))], make([]uint64, max(0, n-len(words)))...)
				}
			case 1:
				var other api.Object
				other, err = Copy(o, draw.Uint64()>>2+1, nil, draw.Intn(9))
				if err == api.OK {
					o = other
				}
			default:
				o, err = Put(o, at, v)
				if at < uint64(len(words)) {
					words[at] = v
				}
			}
			sorts[err]++
			if !slices.Equal(o.Data, words) || !obj.Sound(o) {
				t.Fatalf("by seed %d: %v, not %v", seed, o.Data, words)
			}
			holdGet(t, o, at)
			holdPage(t, o, n/pageLen)
		}
		for _, err := range []api.Errno{api.OK, api.ErrQuota, api.ErrRange} {
			if sorts[err] == 0 {
				t.Errorf("by seed %d error %d was never told", seed, err)
			}
		}
	}
}

// P16.4: resizing keeps what is within: each word that is there on both sides, whatever the words are.
func TestResizeKeeps(t *testing.T) {
	draw := rand.New(rand.NewSource(4))
	for range 400 {
		quota := 1 + draw.Intn(12)
		room := pageLen * (quota - 1)
		o := sized(segment(quota, 0), anyWords(draw, draw.Intn(room+1)))
		n := draw.Intn(room + 1)
		got := holdResize(t, o, n)
		for at := range n {
			want := uint64(0)
			if at < len(o.Data) {
				want, _ = Get(o, uint64(at))
			}
			if word, err := Get(got, uint64(at)); word != want || err != api.OK {
				t.Errorf("%d words to %d: word %d is %d, not %d", len(o.Data), n, at, word, want)
			}
		}
		if same := holdResize(t, o, len(o.Data)); !obj.SameOne(same, o) {
			t.Errorf("to as many as there are, %d, something changes", len(o.Data))
		}
		if got.Data = o.Data; !obj.SameOne(got, o) {
			t.Errorf("%d words to %d: something beside the words is another one", len(o.Data), n)
		}
	}
}

// P16.5: pages, one behind the other, are the words, with 0 behind them; as many pages as the object takes but one have words.
func TestPagesAreWords(t *testing.T) {
	draw := rand.New(rand.NewSource(5))
	all := append(some(), segment(topQuota, topWords), segment(topQuota, topWords-1), segment(topQuota, topWords-16))
	for words := range 6*pageLen + 1 {
		all = append(all, sized(segment(7, 0), anyWords(draw, words)))
	}
	for _, o := range all {
		var words []uint64
		for n := range obj.Pages(o) - 1 {
			page := Page(o, n)
			words = append(words, page[:]...)
		}
		if len(words) < len(o.Data) || !slices.Equal(words[:len(o.Data)], o.Data) || slices.ContainsFunc(words[len(o.Data):], func(v uint64) bool { return v != 0 }) {
			t.Errorf("pages of %d words are not these", len(o.Data))
		}
		for n := obj.Pages(o) - 1; n < obj.Pages(o)+3; n++ {
			if page := Page(o, n); page != [pageLen]uint64{} {
				t.Errorf("page %d of %d words: %v", n, len(o.Data), page)
			}
		}
		for _, at := range []int{0, 1, 15, 16, 17, len(o.Data) / 2, len(o.Data) - 1} {
			if at < 0 || at >= len(o.Data) {
				continue
			}
			word, _ := Get(o, uint64(at))
			if page := Page(o, at/pageLen); page[at%pageLen] != word {
				t.Errorf("word %d of %d is %d, in its page %d", at, len(o.Data), word, page[at%pageLen])
			}
		}
	}
}

// P16.5: a word that is put is in its page, all other pages stay; a copy has the same pages.
func TestPagesBehindPut(t *testing.T) {
	o := segment(6, 70)
	twin := holdCopy(t, o, 8, nil, 6)
	for at := range o.Data {
		got := holdPut(t, o, uint64(at), 5)
		for n := range 7 {
			want := Page(o, n)
			if Page(twin, n) != want {
				t.Errorf("page %d of the copy is another one", n)
			}
			if n == at/pageLen {
				want[at%pageLen] = 5
			}
			if Page(got, n) != want {
				t.Errorf("behind Put of word %d page %d is %v", at, n, Page(got, n))
			}
		}
	}
}

// A page is a value: who changes one changes nothing else.
func TestPageIsValue(t *testing.T) {
	o := segment(3, 20)
	was := deep(o)
	page := Page(o, 0)
	twin := page
	page[3] = 5
	if twin == page || Page(o, 0) != twin || !reflect.DeepEqual(o, was) {
		t.Error("a page that was changed is seen elsewhere")
	}
}

// told is all that a call may tell.
type told struct {
	o    api.Object
	word uint64
	page [pageLen]uint64
	err  api.Errno
}

// calls are all calls, by name, at an argument each.
func calls(o api.Object, l api.Label) map[string]func() told {
	out := map[string]func() told{}
	for _, n := range []int{-1, 0, 1, len(o.Data), len(o.Data) + 1, 30, 1000} {
		out[fmt.Sprint("Resize ", n)] = func() told { x, err := Resize(o, n); return told{o: x, err: err} }
		out[fmt.Sprint("Put ", n)] = func() told { x, err := Put(o, uint64(n), 6); return told{o: x, err: err} }
		out[fmt.Sprint("Get ", n)] = func() told { v, err := Get(o, uint64(n)); return told{word: v, err: err} }
		out[fmt.Sprint("Copy ", n)] = func() told { x, err := Copy(o, 5, l, n); return told{o: x, err: err} }
		out[fmt.Sprint("Page ", n)] = func() told { return told{page: Page(o, n)} }
	}
	return out
}

// 0.5: what is told is new memory, also beside an error; no two lists of it share any, and nothing that was given is another one.
func TestNothingShared(t *testing.T) {
	all := some()
	for _, kind := range kinds() {
		all = append(all, other(kind))
	}
	for _, o := range all {
		o.Data, o.Label, o.Links = slices.Grow(o.Data, 40), slices.Grow(o.Label, 4), slices.Grow(o.Links, 4)
		for name, call := range calls(o, o.Label) {
			was := deep(o)
			first := call()
			if !reflect.DeepEqual(o, was) {
				t.Errorf("%s changes what it is given", name)
			}
			mine := stretches(reflect.ValueOf(first.o), "told")
			if s := shared(stretches(reflect.ValueOf(o), "o"), mine); s != "" {
				t.Errorf("%s of kind %d shares %s", name, o.Kind, s)
			}
			if again := call(); !reflect.DeepEqual(first, again) || shared(mine, stretches(reflect.ValueOf(again.o), "again")) != "" {
				t.Errorf("%s tells another thing the second time, or shares with the first", name)
			}
		}
	}
}

// 0.5: lists that were given with room behind their ends are not written there.
func TestNothingBehindTheEnd(t *testing.T) {
	for _, words := range []int{0, 1, 15, 16, 17, 30} {
		data, l := count(1, 60), pairs(5, api.Lev2)
		o := api.Object{Id: 4, Kind: api.KdSegment, Quota: 4, Label: l[:2], Data: data[:words]}
		for name, call := range calls(o, l[1:3]) {
			call()
			if !slices.Equal(data, count(1, 60)) || !slices.Equal(l, pairs(5, api.Lev2)) {
				t.Fatalf("%s of %d words writes: %v, %v", name, words, data, l)
			}
		}
	}
}

// 0.7: an empty list is none, whatever came in.
func TestNoneIsNone(t *testing.T) {
	all := []api.Object{segment(1, 0), segment(3, 0), segment(3, 20)}
	for _, kind := range kinds() {
		all = append(all, other(kind), api.Object{Id: 4, Kind: kind, Quota: 1})
	}
	for _, o := range all {
		empty := changed(o, func(o *api.Object) { empties(reflect.ValueOf(o).Elem()) })
		plain := calls(o, nil)
		for name, call := range calls(empty, api.Label{}) {
			got, want := call(), plain[name]()
			if !noLists(reflect.ValueOf(got.o)) || !noLists(reflect.ValueOf(want.o)) {
				t.Errorf("%s of kind %d tells an empty list", name, o.Kind)
			}
			if !reflect.DeepEqual(got, want) {
				t.Errorf("%s of kind %d tells another thing of empty lists", name, o.Kind)
			}
		}
	}
}

// odds are objects that are not sound, with numbers that can't be.
func odds() []api.Object {
	wild := other(api.KdThread)
	wild.Id, wild.Data, wild.Label = math.MaxUint64, count(1, 40), api.Label{{Cat: 9, Lev: 77}, {Cat: 2, Lev: -5}}
	out := []api.Object{{}, {Kind: -1, Data: count(1, 9)}, {Kind: math.MaxInt, Quota: math.MinInt}, wild}
	for _, quota := range []int{math.MinInt, -1<<60 + 1<<16, -5, 0, 1, 2, topQuota + 1, 1 << 40, 1 << 60, 1<<60 + 1, math.MaxInt} {
		for _, words := range []int{0, 17, topWords, topWords + 40} {
			out = append(out, api.Object{Kind: api.KdSegment, Quota: quota, Data: make([]uint64, words), Links: []uint64{9, 9, 0}})
		}
	}
	return out
}

// 0.1, 0.4: every call ends and none panics, also of objects that are not sound and of labels that are not fit; no quota that can't be makes more words than there may be.
func TestUnfitEnds(t *testing.T) {
	for _, o := range odds() {
		was := deep(o)
		for _, n := range append(sizes(api.Object{Data: o.Data, Quota: 3}), len(o.Data)/pageLen) {
			if got, _ := Resize(o, n); len(got.Data) > max(topWords, len(o.Data)) {
				t.Errorf("quota %d, %d words to %d: %d words", o.Quota, len(o.Data), n, len(got.Data))
			}
			if page := Page(o, n); o.Kind != api.KdSegment && page != [pageLen]uint64{} {
				t.Errorf("page %d of kind %d: %v", n, o.Kind, page)
			}
			Get(o, uint64(n))
			Put(o, uint64(n), 5)
			for _, l := range []api.Label{nil, {{Cat: 9, Lev: 77}, {Cat: 2, Lev: -5}}, {{}, {}}, pairs(3000, -1)} {
				Copy(o, uint64(n), l, n)
				Copy(o, 1, l, 1+n/pageLen)
			}
		}
		if !reflect.DeepEqual(o, was) {
			t.Errorf("kind %d, quota %d, %d words is another one behind the calls", o.Kind, o.Quota, len(o.Data))
		}
	}
}
