package codec

import (
	"fmt"
	"math"
	"math/big"
	"regexp"
	"slices"
	"strings"
	"testing"

	"curtilage/api"
)

// top is the greatest category.
const top = math.MaxUint64

// topText is the greatest category's digits.
const topText = "18446744073709551615"

// signOf is the sign of each number that is the Lev of a pair of a fit label.
var signOf = map[int]string{api.Star: "*", api.Lev0: "0", api.Lev2: "2", api.Lev3: "3", api.Above: "J"}

// isFit tells whether a label is fit, without other packages.
func isFit(l api.Label) bool {
	for i, p := range l {
		if signOf[p.Lev] == "" || i > 0 && p.Cat <= l[i-1].Cat {
			return false
		}
	}
	return true
}

// asWords is a fit label as words, and asText as a text, by the chapter's words.
func asWords(l api.Label) []uint64 {
	w := []uint64{uint64(len(l))}
	for _, p := range l {
		w = append(w, p.Cat)
		w = append(w, uint64(p.Lev))
	}
	return w
}

func asText(l api.Label) string {
	if len(l) == 0 {
		return "-"
	}
	var text strings.Builder
	for i, p := range l {
		if i > 0 {
			text.WriteString(",")
		}
		fmt.Fprintf(&text, "%d:%s", p.Cat, signOf[p.Lev])
	}
	return text.String()
}

// pairsOf are all pairs of cats and levs.
func pairsOf(cats []uint64, levs []int) []api.Pair {
	var out []api.Pair
	for _, cat := range cats {
		for _, lev := range levs {
			out = append(out, api.Pair{Cat: cat, Lev: lev})
		}
	}
	return out
}

// rows are all rows of at most n items, the row of none ahead.
func rows[T any](items []T, n int) [][]T {
	out := [][]T{nil}
	last := out
	for range n {
		var longer [][]T
		for _, row := range last {
			for _, item := range items {
				longer = append(longer, append(slices.Clone(row), item))
			}
		}
		out = append(out, longer...)
		last = longer
	}
	return out
}

// long is a fit label of n pairs: every step-th category from first on, levels in turn.
func long(n int, first, step uint64) api.Label {
	var l api.Label
	turn := []int{api.Above, api.Lev3, api.Lev2, api.Lev0, api.Star}
	for i := range n {
		l = append(l, api.Pair{Cat: first + uint64(i)*step, Lev: turn[i%len(turn)]})
	}
	return l
}

// fits are fit labels of at most MaxPairs pairs: all of a few categories, and longer ones.
func fits() []api.Label {
	var out []api.Label
	levs := []int{api.Star, api.Lev0, api.Lev2, api.Lev3, api.Above}
	for _, row := range rows(pairsOf([]uint64{0, 1, 10, top}, levs), 3) {
		if l := api.Label(row); isFit(l) {
			out = append(out, l)
		}
	}
	for n := 4; n <= api.MaxPairs; n++ {
		out = append(out, long(n, 0, 1), long(n, 5, 1<<60-1), long(n, top-uint64(n)+1, 1))
	}
	return out
}

// unfits are labels that are not fit, each for one cause.
func unfits() []api.Label {
	out := []api.Label{
		{{Cat: 9, Lev: api.Star}, {Cat: 7, Lev: api.Lev3}},
		{{Cat: 7, Lev: api.Lev3}, {Cat: 7, Lev: api.Lev3}},
		{{Cat: 7, Lev: api.Lev3}, {Cat: 7, Lev: api.Star}},
		{{Cat: top, Lev: api.Lev3}, {Cat: 0, Lev: api.Star}},
		{{Cat: 7, Lev: api.Lev1}},
		{{Cat: 7, Lev: api.Lev3}, {Cat: 9, Lev: api.Lev1}},
	}
	for _, lev := range []int{-1, 6, 7, 100, 256, 1 << 32, 1<<32 + 4, math.MaxInt, math.MinInt} {
		out = append(out, api.Label{{Cat: 7, Lev: lev}}, api.Label{{Cat: 7, Lev: api.Star}, {Cat: 9, Lev: lev}})
	}
	for _, n := range []int{api.MaxPairs, api.MaxPairs + 1, 1 << 16} {
		l := long(n, 0, 1)
		l[n-1].Cat = l[n-2].Cat
		out = append(out, l)
	}
	return out
}

// wantParse holds what Parse tells of words against a label, how many words it takes, and an error.
func wantParse(t *testing.T, w []uint64, l api.Label, n int, err api.Errno) {
	t.Helper()
	gotLabel, gotN, gotErr := Parse(w)
	if gotErr != err || gotN != n || !slices.Equal(gotLabel, l) {
		t.Errorf("Parse(%v) is %v, %d, %v, not %v, %d, %v", w, gotLabel, gotN, gotErr, l, n, err)
	}
	if len(gotLabel) == 0 && gotLabel != nil {
		t.Errorf("Parse(%v) is a list without pairs, not none", w)
	}
}

// wantRead holds what Read tells of a text against a label and an error.
func wantRead(t *testing.T, s string, l api.Label, err api.Errno) {
	t.Helper()
	gotLabel, gotErr := Read(s)
	if gotErr != err || !slices.Equal(gotLabel, l) {
		t.Errorf("Read(%.200q) is %v, %v, not %v, %v", s, gotLabel, gotErr, l, err)
	}
	if len(gotLabel) == 0 && gotLabel != nil {
		t.Errorf("Read(%.200q) is a list without pairs, not none", s)
	}
}

// P4.1: how many pairs, then of each its Cat and its Lev; also of more than MaxPairs, of which nothing is said.
func TestWordsOfFitLabels(t *testing.T) {
	table := []struct {
		l    api.Label
		want []uint64
	}{
		{nil, []uint64{0}},
		{api.Label{}, []uint64{0}},
		{api.Label{{Cat: 0, Lev: api.Star}}, []uint64{1, 0, 0}},
		{api.Label{{Cat: top, Lev: api.Above}}, []uint64{1, top, 5}},
		{api.Label{{Cat: 7, Lev: api.Lev3}, {Cat: 9, Lev: api.Star}}, []uint64{2, 7, 4, 9, 0}},
		{api.Label{{Cat: 1, Lev: api.Lev0}, {Cat: 2, Lev: api.Lev2}}, []uint64{2, 1, 1, 2, 3}},
	}
	for _, r := range table {
		if got := Words(r.l); !slices.Equal(got, r.want) {
			t.Errorf("Words(%v) is %v, not %v", r.l, got, r.want)
		}
	}
	for _, l := range append(fits(), long(17, 3, 1), long(1<<16, 3, 1)) {
		if got := Words(l); !slices.Equal(got, asWords(l)) {
			t.Fatalf("Words of %d pairs, %.200s", len(l), asText(l))
		}
	}
}

// P4.1: a label that is not fit has no words. P4.2: and its text is empty.
func TestUnfitLabelsHaveNone(t *testing.T) {
	for _, l := range unfits() {
		if w := Words(l); w != nil {
			t.Errorf("Words of %d pairs that are not fit is %d words", len(l), len(w))
		}
		if s := Text(l); s != "" {
			t.Errorf("Text of %d pairs that are not fit is %.200q", len(l), s)
		}
	}
	for _, row := range rows(pairsOf([]uint64{0, 1, 2}, []int{-1, 0, 1, 2, 3, 4, 5, 6}), 2) {
		l := api.Label(row)
		if fit := isFit(l); (Words(l) != nil) != fit || (Text(l) != "") != fit {
			t.Errorf("%v: fit is %t, Words %v, Text %q", l, fit, Words(l), Text(l))
		}
	}
}

// P4.1: words that are a label's, with and without others behind, of which none counts.
func TestParseTakesALabel(t *testing.T) {
	for _, l := range fits() {
		w := asWords(l)
		wantParse(t, w, l, len(w), api.OK)
		wantParse(t, append(w, 0, top, 17), l, len(w), api.OK)
	}
	wantParse(t, []uint64{0}, nil, 1, api.OK)
	wantParse(t, []uint64{0, 1, 7, 4}, nil, 1, api.OK)
	wantParse(t, []uint64{1, 7, 4, 3}, api.Label{{Cat: 7, Lev: api.Lev3}}, 3, api.OK)
	wantParse(t, []uint64{1, 9, 0, 7, 4}, api.Label{{Cat: 9, Lev: api.Star}}, 3, api.OK)
	wantParse(t, make([]uint64, 1<<16), nil, 1, api.OK)
}

// P4.1: no words; a first word above MaxPairs, however many follow.
func TestParseFirstWord(t *testing.T) {
	wantParse(t, nil, nil, 0, api.ErrForm)
	wantParse(t, []uint64{}, nil, 0, api.ErrForm)
	sixteen := asWords(long(16, 7, 1))
	wantParse(t, sixteen, long(16, 7, 1), 33, api.OK)
	for _, n := range []int{17, 18, 100, 1<<15 - 1} {
		wantParse(t, asWords(long(n, 7, 1)), nil, 0, api.ErrForm)
	}
	for _, first := range []uint64{17, 256, 1 << 31, 1 << 32, 1<<32 + 1, 1 << 62, 1 << 63, 1<<63 + 1, top - 1, top} {
		wantParse(t, []uint64{first}, nil, 0, api.ErrForm)
		w := slices.Concat([]uint64{first}, sixteen[1:], []uint64{99, 0})
		wantParse(t, w, nil, 0, api.ErrForm)
	}
}

// P4.1: fewer words than the first takes.
func TestParseFewerWords(t *testing.T) {
	for n := 1; n <= api.MaxPairs; n++ {
		w := asWords(long(n, 7, 3))
		for short := 1; short < len(w); short++ {
			wantParse(t, w[:short:short], nil, 0, api.ErrForm)
			// What lies behind the words' end is not given, even where there is memory.
			wantParse(t, w[:short], nil, 0, api.ErrForm)
		}
	}
}

// P4.1: words that are no fit label's: out of order, twice, Lev1, no level, such as are a level's in fewer bits.
func TestParseUnfit(t *testing.T) {
	for _, l := range unfits() {
		if len(l) <= api.MaxPairs {
			wantParse(t, asWords(l), nil, 0, api.ErrForm)
			wantParse(t, append(asWords(l), 99, 0), nil, 0, api.ErrForm)
		}
	}
	for _, lev := range []uint64{2, 6, 7, 256, 1 << 31, 1 << 32, 1<<32 + 4, 1 << 63, 1<<63 + 4, top - 4, top} {
		wantParse(t, []uint64{1, 7, lev}, nil, 0, api.ErrForm)
		wantParse(t, []uint64{2, 7, 4, 9, lev}, nil, 0, api.ErrForm)
		wantParse(t, []uint64{2, 7, lev, 9, 4}, nil, 0, api.ErrForm)
	}
}

// P4.1: all rows of a few words against the chapter's words.
func TestParseAllRows(t *testing.T) {
	for _, w := range rows([]uint64{0, 1, 2, 3, 5, 6, 17, top}, 5) {
		var l api.Label
		n, err := 0, api.ErrForm
		if len(w) > 0 && w[0] <= 2 && len(w) >= 1+2*int(w[0]) {
			for i := 1; i < 1+2*int(w[0]); i += 2 {
				l = append(l, api.Pair{Cat: w[i], Lev: int(w[i+1])})
			}
			n, err = 1+2*len(l), api.OK
		}
		if !isFit(l) || err != api.OK {
			l, n, err = nil, 0, api.ErrForm
		}
		wantParse(t, w, l, n, err)
	}
}

// P4.2: each pair's Cat in digits, ":" and the level's sign, "," between, "-" without pairs; any number of pairs.
func TestTextOfFitLabels(t *testing.T) {
	table := []struct {
		l    api.Label
		want string
	}{
		{nil, "-"},
		{api.Label{}, "-"},
		{api.Label{{Cat: 0, Lev: api.Star}}, "0:*"},
		{api.Label{{Cat: top, Lev: api.Above}}, topText + ":J"},
		{api.Label{{Cat: 7, Lev: api.Lev3}, {Cat: 9, Lev: api.Star}}, "7:3,9:*"},
		{api.Label{{Cat: 10, Lev: api.Lev0}, {Cat: 200, Lev: api.Lev2}, {Cat: 3000, Lev: api.Above}}, "10:0,200:2,3000:J"},
	}
	for _, r := range table {
		if got := Text(r.l); got != r.want {
			t.Errorf("Text(%v) is %q, not %q", r.l, got, r.want)
		}
	}
	for _, l := range append(fits(), long(17, 3, 1), long(1<<16, 3, 1)) {
		if got := Text(l); got != asText(l) {
			t.Fatalf("Text of %d pairs is %.200q, not %.200q", len(l), got, asText(l))
		}
	}
}

// P4.2: texts that are a label's.
func TestReadTakesALabel(t *testing.T) {
	wantRead(t, "-", nil, api.OK)
	wantRead(t, "0:*", api.Label{{Cat: 0, Lev: api.Star}}, api.OK)
	wantRead(t, "7:3,9:*", api.Label{{Cat: 7, Lev: api.Lev3}, {Cat: 9, Lev: api.Star}}, api.OK)
	wantRead(t, topText+":J", api.Label{{Cat: top, Lev: api.Above}}, api.OK)
	wantRead(t, "9:0,10:2", api.Label{{Cat: 9, Lev: api.Lev0}, {Cat: 10, Lev: api.Lev2}}, api.OK)
	for _, l := range fits() {
		wantRead(t, asText(l), l, api.OK)
	}
}

// P4.2: texts that are none.
func TestReadNoText(t *testing.T) {
	texts := []string{
		"", " ", "\x00", "--", "-,", ",-", "-,7:3", "7:3,-", "-:3", "-7:3", "+7:3", " -", "- ", "-\n", "\u2212", "\xff",
		",", ":", "7", "7:", ":3", "7:3,", ",7:3", "7:3,,9:*", "7:3;9:*", "7:3 ,9:*", "7:3, 9:*", " 7:3", "7:3 ", "7 :3", "7: 3",
		"7:33", "7:3:3", "7::3", "7:3*", "7:**", "7:*J", "7=3", "73", "7:3\n", "7:3\x00", "7,3",
		"7:1", "7:4", "7:5", "7:-", "7:j", "7:+3", "7:03", "7:\xff", "7:\u0663", "\u0667:3",
		"9:*,7:3", "7:3,7:3", "7:3,7:*", "10:0,9:2", topText + ":0,0:0", "7:3,9:1",
		"00:*", "07:3", "007:3", "7:3,09:*", "0" + topText + ":J", "00", "0x7:3", "1_0:3", "1e1:3", "7.0:3", "a:3", "0b1:3", "0o7:3",
		"18446744073709551616:3", "18446744073709551622:3", "99999999999999999999:3", "184467440737095516150:3", "340282366920938463463374607431768211463:3",
		strings.Repeat("9", 1<<16-2) + ":3", strings.Repeat("0", 1<<16-3) + "7:3", strings.Repeat(",", 1<<16), strings.Repeat(":", 1<<16),
		strings.Repeat("-", 1<<16), strings.Repeat("7:3,", 1<<14),
	}
	for _, s := range texts {
		wantRead(t, s, nil, api.ErrForm)
	}
	for _, l := range unfits() {
		wantRead(t, Text(l), nil, api.ErrForm)
	}
}

// P4.2: a text of more than MaxPairs pairs is ErrFull only if all of it is a fit label's.
func TestReadFull(t *testing.T) {
	for _, n := range []int{17, 18, 100, 1 << 13} {
		s := asText(long(n, 0, 1))
		wantRead(t, s, nil, api.ErrFull)
		for _, end := range []string{",", ",-", ",x", ",0:*", fmt.Sprintf(",%d:1", n), fmt.Sprintf(",%d:0", n-1), fmt.Sprintf(",0%d:0", n), ",18446744073709551616:0"} {
			wantRead(t, s+end, nil, api.ErrForm)
		}
		wantRead(t, "1:3,"+s, nil, api.ErrForm)
		wantRead(t, s+fmt.Sprintf(",%d:0", n), nil, api.ErrFull)
	}
	wantRead(t, asText(long(16, 0, 1)), long(16, 0, 1), api.OK)
	wantRead(t, asText(long(17, 5, 1<<59)), nil, api.ErrFull)
}

// shape is that of a label's text, but for the order and greatness of its categories.
var shape = regexp.MustCompile(`\A(-|((0|[1-9][0-9]*):[*023J])(,(0|[1-9][0-9]*):[*023J])*)\z`)

// meant is the label of a text by its shape and its numbers; false, if it is no fit label's text.
func meant(s string) (api.Label, bool) {
	if !shape.MatchString(s) {
		return nil, false
	}
	var l api.Label
	if s == "-" {
		return l, true
	}
	for _, part := range strings.Split(s, ",") {
		var cat big.Int
		cat.SetString(part[:len(part)-2], 10)
		for lev, sign := range signOf {
			if strings.HasSuffix(part, sign) && cat.IsUint64() {
				l = append(l, api.Pair{Cat: cat.Uint64(), Lev: lev})
			}
		}
	}
	return l, isFit(l) && len(l) == 1+strings.Count(s, ",")
}

// wantMeant holds what Read tells of a text of at most MaxPairs pairs against what it means.
func wantMeant(t *testing.T, s string) {
	t.Helper()
	if l, ok := meant(s); ok {
		wantRead(t, s, l, api.OK)
	} else {
		wantRead(t, s, nil, api.ErrForm)
	}
}

// P4.2: all texts of a few bytes, against their shape.
func TestReadAllTexts(t *testing.T) {
	for _, s := range rows([]byte("-,:012*J"), 5) {
		wantMeant(t, string(s))
	}
	for _, row := range rows([]string{"-", ",", ":", "0:*", "1:J", ",1:3", ",7:1", ",10:0", "," + topText + ":2", ",18446744073709551616:2"}, 4) {
		wantMeant(t, strings.Join(row, ""))
	}
}

// P4.2: a text with one byte changed, put in or left out is read by its shape, too.
func TestReadNearTexts(t *testing.T) {
	whole := "0:J,7:3,19:*," + topText + ":0"
	for at := range len(whole) {
		wantMeant(t, whole[:at])
		wantMeant(t, whole[at:])
		wantMeant(t, whole[:at]+whole[at+1:])
		for b := range 256 {
			wantMeant(t, whole[:at]+string([]byte{byte(b)})+whole[at+1:])
			wantMeant(t, whole[:at]+string([]byte{byte(b)})+whole[at:])
		}
	}
}

// P4.3: there and back, with any words behind; unlike labels have unlike words and texts.
func TestThereAndBack(t *testing.T) {
	words := map[string]int{}
	texts := map[string]int{}
	for i, l := range fits() {
		w := Words(l)
		for _, behind := range [][]uint64{nil, {0}, {1, 7}, {top, top, top}, w} {
			wantParse(t, slices.Concat(w, behind), l, len(w), api.OK)
		}
		wantRead(t, Text(l), l, api.OK)
		words[fmt.Sprint(w)] = i
		texts[Text(l)] = i
	}
	if n := len(fits()); len(words) != n || len(texts) != n {
		t.Errorf("%d labels have %d words and %d texts", n, len(words), len(texts))
	}
}

// P4.3: of what is read, Words and Text tell what was given.
func TestBackAndThere(t *testing.T) {
	for _, w := range rows([]uint64{0, 1, 2, 3, 4, 5}, 5) {
		if l, n, err := Parse(w); err == api.OK && !slices.Equal(Words(l), w[:n]) {
			t.Errorf("Words of Parse(%v) is %v", w, Words(l))
		}
	}
	for _, b := range rows([]byte("-,:07*J"), 5) {
		if l, err := Read(string(b)); err == api.OK && Text(l) != string(b) {
			t.Errorf("Text of Read(%q) is %q", b, Text(l))
		}
	}
}

// Rule 0.5: no argument is changed, also where it has room behind its end, and no answer shares its memory.
func TestArgumentsStay(t *testing.T) {
	for _, l := range append(fits(), unfits()...) {
		roomy := append(slices.Clone(l), api.Pair{Cat: 42, Lev: 42}, api.Pair{Cat: 43, Lev: 43})
		before := slices.Clone(roomy)
		given := roomy[:len(l)]
		w := Words(given)
		Text(given)
		for i := range w[:cap(w)] {
			w[:cap(w)][i] = 77
		}
		if !slices.Equal(roomy, before) {
			t.Fatalf("a label was changed: %v to %v", before, roomy)
		}
	}
	for _, l := range fits() {
		w := append(asWords(l), 42, 43)
		before := slices.Clone(w)
		first, _, _ := Parse(w)
		for i := range first[:cap(first)] {
			first[:cap(first)][i] = api.Pair{Cat: 77, Lev: 77}
		}
		if !slices.Equal(w, before) {
			t.Fatalf("words were changed: %v to %v", before, w)
		}
		wantParse(t, w, l, len(w)-2, api.OK)
		again, _ := Read(asText(l))
		for i := range again[:cap(again)] {
			again[:cap(again)][i] = api.Pair{Cat: 77, Lev: 77}
		}
		wantRead(t, asText(l), l, api.OK)
	}
}

// Parts of a text are handed out in order, each time anew, and none behind one that the asker leaves at.
func TestPartsAreHandedOut(t *testing.T) {
	table := []struct {
		s    string
		want []string
	}{
		{"-", nil}, {"", []string{""}}, {",", []string{"", ""}}, {"7:3", []string{"7:3"}},
		{"7:3,9:*,-", []string{"7:3", "9:*", "-"}},
	}
	for _, r := range table {
		seq := parts(r.s)
		for range 2 {
			if got := slices.Collect(seq); !slices.Equal(got, r.want) {
				t.Errorf("parts of %q are %q", r.s, got)
			}
		}
		for n := range r.want {
			var got []string
			for part := range seq {
				got = append(got, part)
				if len(got) > n {
					break
				}
			}
			if !slices.Equal(got, r.want[:n+1]) {
				t.Errorf("the first %d parts of %q are %q", n+1, r.s, got)
			}
		}
	}
}

// An error that a reader throws is caught, whichever it is, and beside it nothing is told.
func TestThrownIsCaught(t *testing.T) {
	for _, err := range []api.Errno{api.ErrForm, api.ErrFull} {
		l, got := caught(func() api.Label {
			need(true, api.ErrName)
			need(false, err)
			return long(2, 0, 1)
		})
		if l != nil || got != err {
			t.Errorf("thrown %v, caught %v, %v", err, l, got)
		}
	}
	if l, err := caught(func() api.Label { return long(2, 0, 1) }); len(l) != 2 || err != api.OK {
		t.Errorf("nothing thrown, caught %v, %v", l, err)
	}
}
