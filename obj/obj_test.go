package obj

import (
	"cmp"
	"fmt"
	"maps"
	"math"
	"math/rand"
	"reflect"
	"slices"
	"testing"

	"curtilage/api"
)

// The chapter's numbers.
const (
	topId    = 1 << 61
	topQuota = 4096
	topPairs = 16
	topLinks = 64
	topAlert = 8
	topIn    = 64
	topOut   = 1024
	topMaps  = 16
	topVa    = 1 << 20
	topCount = 1024
	topTime  = 1 << 40
	words    = 16
)

// kinds are all kinds that there are.
func kinds() []int {
	return []int{api.KdSegment, api.KdContainer, api.KdSpace, api.KdThread, api.KdGate, api.KdDevice}
}

// own are the fields that are a kind's.
func own(kind int) []string {
	switch kind {
	case api.KdSegment:
		return []string{"Data"}
	case api.KdContainer:
		return []string{"Links"}
	case api.KdSpace:
		return []string{"Maps"}
	case api.KdThread:
		return []string{"Thread"}
	case api.KdGate:
		return []string{"Gate"}
	case api.KdDevice:
		return []string{"In", "Out"}
	}
	return nil
}

// pair is a label of one category.
func pair(cat uint64, lev int) api.Label { return api.Label{{Cat: cat, Lev: lev}} }

// pairs is a label of n categories at a level.
func pairs(n, lev int) api.Label {
	var out api.Label
	for i := range n {
		out = append(out, api.Pair{Cat: uint64(3*i + 1), Lev: lev})
	}
	return out
}

// count are the words from one on, n of them.
func count(from uint64, n int) []uint64 {
	var out []uint64
	for i := range n {
		out = append(out, from+uint64(i))
	}
	return out
}

// room is n maps of a page each.
func room(n int) []api.Map {
	var out []api.Map
	for i := range n {
		out = append(out, api.Map{Va: 2 * i, N: 1, Cont: 5, Seg: 6, Off: i})
	}
	return out
}

// least is an object of a kind with as little as it can have.
func least(kind int, id uint64) api.Object { return api.Object{Id: id, Kind: kind, Quota: 1} }

// thread is one that has something of all that a thread can have.
func thread() api.Thread {
	t := api.Thread{
		Pc: 21, Clear: api.Label{{Cat: 3, Lev: api.Lev3}, {Cat: 8, Lev: api.Lev0}}, Space: api.Ref{Cont: 22, Id: 23}, Handler: 24, Vector: 25,
		State: api.ThWait, Wait: api.Wait{Ref: api.Ref{Cont: 26, Id: 27}, Index: 28, Val: 29, Dev: true},
		Alerts: []uint64{30, 31, 30}, Span: api.Span{Lo: 32, Hi: 40},
		Labs: [4]api.Label{pair(5, api.Star), nil, pair(7, api.Lev2), pair(8, api.Lev3)},
	}
	for i := range t.Regs {
		t.Regs[i] = uint64(100 + i)
	}
	return t
}

// gate is one that has something of all that a gate can have.
func gate() api.Gate {
	return api.Gate{Grant: pair(3, api.Star), Clear: pair(3, api.Lev2), Space: api.Ref{Cont: 41, Id: 42}, Pc: 43, Arg: 44}
}

// most is a sound object of a kind that has something of all that it can have.
func most(kind int, id uint64) api.Object {
	o := api.Object{Id: id, Kind: kind, Quota: 9, Fixed: true, Label: api.Label{{Cat: 4, Lev: api.Lev0}, {Cat: 6, Lev: api.Lev3}}}
	switch kind {
	case api.KdSegment:
		o.Data = count(50, 40)
	case api.KdContainer:
		o.Links = []uint64{1, 5, 1 << 40, topId}
	case api.KdSpace:
		o.Maps = []api.Map{{Va: 1, N: 2, Cont: 3, Seg: 4, Off: 5, Write: true}, {Va: 9, N: 1, Cont: 6, Seg: 7}}
	case api.KdThread:
		o.Fixed, o.Thread = false, thread()
		o.Label = api.Label{{Cat: 3, Lev: api.Star}, {Cat: 8, Lev: api.Star}, {Cat: 9, Lev: api.Lev0}}
	case api.KdGate:
		o.Gate = gate()
	case api.KdDevice:
		o.In, o.Out = count(60, 5), count(70, 7)
	}
	return o
}

// all is an object that has something of everything, whatever its kind; it is not sound.
func all() api.Object {
	o := most(api.KdSegment, 7)
	o.Links, o.Maps = []uint64{1, 5, 9}, most(api.KdSpace, 1).Maps
	o.Thread, o.Gate = thread(), gate()
	o.In, o.Out = count(60, 5), count(70, 7)
	return o
}

// changed is an object, or a world, behind something that is done to it.
func changed[T any](x T, does func(*T)) T {
	out := deep(x)
	does(&out)
	return out
}

// deep is a copy that shares no memory, whatever it is of; a list that is there, but empty, stays so.
func deep[T any](x T) T {
	out := reflect.New(reflect.TypeOf(x)).Elem()
	deepInto(out, reflect.ValueOf(x))
	return out.Interface().(T)
}

// deepInto copies one value into another.
func deepInto(to, from reflect.Value) {
	switch from.Kind() {
	case reflect.Struct:
		for i := range from.NumField() {
			deepInto(to.Field(i), from.Field(i))
		}
	case reflect.Array:
		for i := range from.Len() {
			deepInto(to.Index(i), from.Index(i))
		}
	case reflect.Slice:
		if !from.IsNil() {
			to.Set(reflect.MakeSlice(from.Type(), from.Len(), from.Len()))
		}
		for i := range from.Len() {
			deepInto(to.Index(i), from.Index(i))
		}
	default:
		to.Set(from)
	}
}

// alike tells whether two values are the same, field by field, an empty list being none.
func alike(a, b reflect.Value) bool {
	switch a.Kind() {
	case reflect.Struct:
		for i := range a.NumField() {
			if !alike(a.Field(i), b.Field(i)) {
				return false
			}
		}
		return true
	case reflect.Array, reflect.Slice:
		if a.Len() != b.Len() {
			return false
		}
		for i := range a.Len() {
			if !alike(a.Index(i), b.Index(i)) {
				return false
			}
		}
		return true
	}
	return a.Interface() == b.Interface()
}

// equal tells whether two values are the same, field by field, an empty list being none.
func equal[T any](a, b T) bool { return alike(reflect.ValueOf(a), reflect.ValueOf(b)) }

// variant is something that differs from another one in one thing alone.
type variant[T any] struct {
	where string
	field string
	is    T
}

// variants are all that differ from x in one number or bool, or in one list's length.
func variants[T any](x T) []variant[T] {
	var out []variant[T]
	whole := reflect.New(reflect.TypeOf(x)).Elem()
	whole.Set(reflect.ValueOf(deep(x)))
	var walk func(v reflect.Value, where, field string)
	walk = func(v reflect.Value, where, field string) {
		try := func(why string, other reflect.Value) {
			was := reflect.New(v.Type()).Elem()
			was.Set(v)
			v.Set(other)
			out = append(out, variant[T]{where + why, field, deep(whole.Interface().(T))})
			v.Set(was)
		}
		switch v.Kind() {
		case reflect.Struct:
			for i := range v.NumField() {
				name := v.Type().Field(i).Name
				top := field
				if top == "" {
					top = name
				}
				walk(v.Field(i), where+"."+name, top)
			}
		case reflect.Slice:
			try(" and one more", reflect.Append(deepSlice(v), reflect.Zero(v.Type().Elem())))
			if v.Len() > 0 {
				try(" but the last", v.Slice(0, v.Len()-1))
				try(" but the first", v.Slice(1, v.Len()))
			}
			fallthrough
		case reflect.Array:
			for i := range v.Len() {
				walk(v.Index(i), fmt.Sprintf("%s[%d]", where, i), field)
			}
		case reflect.Bool:
			try(" not", reflect.ValueOf(!v.Bool()))
		case reflect.Uint64:
			for _, bit := range []int{0, 1, 31, 32, 63} {
				try(fmt.Sprintf(" bit %d", bit), reflect.ValueOf(v.Uint()^1<<bit))
			}
		default:
			for _, bit := range []int{0, 1, 31, 32, 63} {
				try(fmt.Sprintf(" bit %d", bit), reflect.ValueOf(int(uint64(v.Int())^1<<bit)))
			}
		}
	}
	walk(whole, "", "")
	return out
}

// deepSlice is a list in memory of its own.
func deepSlice(v reflect.Value) reflect.Value {
	out := reflect.New(v.Type()).Elem()
	deepInto(out, v)
	return out
}

// isKept tells whether a label is a kept one by the chapter's words.
func isKept(l api.Label) bool {
	seen := map[uint64]bool{}
	last := uint64(0)
	for _, p := range l {
		if seen[p.Cat] || p.Cat < last || p.Lev < 0 || p.Lev > 4 || p.Lev == 2 {
			return false
		}
		seen[p.Cat], last = true, p.Cat
	}
	return len(l) <= topPairs
}

// levelOf is a category's level, 1 (2) where the label says nothing.
func levelOf(l api.Label, cat uint64) int {
	for _, p := range l {
		if p.Cat == cat {
			return p.Lev
		}
	}
	return 2
}

// isAtMost tells whether one kept label is at most another: each category that either names.
func isAtMost(a, b api.Label) bool {
	for _, p := range slices.Concat(a, b) {
		if levelOf(a, p.Cat) > levelOf(b, p.Cat) {
			return false
		}
	}
	return true
}

// isRow tells whether ids are from 1 to 2^61, rising, none twice.
func isRow(l []uint64) bool {
	for i, id := range l {
		if id == 0 || id > topId {
			return false
		}
		for _, other := range l[:i] {
			if other >= id {
				return false
			}
		}
	}
	return true
}

// isSpace tells whether an address space's maps are fit by chapter 12's words.
func isSpace(l []api.Map) bool {
	next := 0
	for _, m := range l {
		if m.Va < next || m.Va >= topVa || m.Off < 0 || m.Off >= topVa || m.N < 1 || m.N > topVa || m.Va+m.N > topVa || m.Off+m.N > topVa {
			return false
		}
		next = m.Va + m.N
	}
	return len(l) <= topMaps
}

// isThread tells whether a thread's own parts can be by the chapter's words.
func isThread(o api.Object) bool {
	t := o.Thread
	for _, l := range append(t.Labs[:], t.Clear) {
		if !isKept(l) {
			return false
		}
	}
	switch t.State {
	case api.ThRun, api.ThHalt:
		if !equal(t.Wait, api.Wait{}) {
			return false
		}
	case api.ThWait:
	default:
		return false
	}
	return !o.Fixed && isAtMost(o.Label, t.Clear) && len(t.Alerts) <= topAlert && t.Span.Lo <= t.Span.Hi && t.Span.Hi <= topId
}

// isOwn tells whether what is an object's kind's can be by the chapter's words.
func isOwn(o api.Object) bool {
	switch o.Kind {
	case api.KdSegment:
		return len(o.Data) <= words*(o.Quota-1)
	case api.KdContainer:
		return len(o.Links) <= topLinks && isRow(o.Links)
	case api.KdSpace:
		return isSpace(o.Maps)
	case api.KdThread:
		return isThread(o)
	case api.KdGate:
		return isKept(o.Gate.Grant) && isKept(o.Gate.Clear) && isAtMost(o.Gate.Grant, o.Gate.Clear)
	case api.KdDevice:
		return len(o.In) <= topIn && len(o.Out) <= topOut
	}
	return false
}

// isSound tells whether an object is sound by the chapter's words.
func isSound(o api.Object) bool {
	if o.Id < 1 || o.Id > topId || o.Quota < 1 || o.Quota > topQuota || !isKept(o.Label) || !isOwn(o) {
		return false
	}
	for _, p := range o.Label {
		if p.Lev == api.Star && o.Kind != api.KdThread {
			return false
		}
	}
	v := reflect.ValueOf(o)
	for i := range v.NumField() {
		name := v.Type().Field(i).Name
		if !slices.Contains(append(own(o.Kind), "Id", "Kind", "Label", "Quota", "Fixed"), name) && !alike(v.Field(i), reflect.Zero(v.Field(i).Type())) {
			return false
		}
	}
	return true
}

// P13.1: what the tests take for sound is, of each of the six kinds, with as little and as much as it can have; of no other kind is anything.
func TestSoundKinds(t *testing.T) {
	for _, kind := range kinds() {
		for _, o := range []api.Object{least(kind, 1), least(kind, topId), most(kind, 1), most(kind, topId)} {
			if !Sound(o) || !isSound(o) {
				t.Errorf("%+v is not sound", o)
			}
		}
	}
	for _, kind := range []int{0, 7, 8, -1, math.MinInt, math.MaxInt, 1 << 32, 1<<32 + 1, 257} {
		for _, o := range []api.Object{least(kind, 1), most(kind, 1)} {
			if Sound(o) || isSound(o) {
				t.Errorf("kind %d is sound", kind)
			}
		}
	}
	if Sound(api.Object{}) || Sound(all()) {
		t.Error("nothing, or everything, is sound")
	}
}

// P13.1: what all kinds have is asked of each kind alike: Id and Quota at their edges.
func TestSoundNumbers(t *testing.T) {
	for _, kind := range kinds() {
		for _, o := range []api.Object{least(kind, 1), most(kind, 1)} {
			for _, id := range []uint64{0, 1, 2, 1 << 32, topId - 1, topId, topId + 1, 1 << 62, 1 << 63, math.MaxUint64} {
				want := id >= 1 && id <= topId
				if got := Sound(changed(o, func(o *api.Object) { o.Id = id })); got != want {
					t.Errorf("kind %d with Id %d is %v", kind, id, got)
				}
			}
		}
		for _, quota := range []int{math.MinInt, -1, 0, 1, 2, 4095, 4096, 4097, 1 << 32, 1<<32 + 1, math.MaxInt} {
			want := quota >= 1 && quota <= topQuota
			if got := Sound(changed(least(kind, 1), func(o *api.Object) { o.Quota = quota })); got != want {
				t.Errorf("kind %d with Quota %d is %v", kind, quota, got)
			}
		}
	}
}

// edge is a label, whether it is a kept one, and whether such a one owns something.
type edge struct {
	l          api.Label
	kept, owns bool
}

// edges are labels at and beyond all bounds.
func edges() map[string]edge {
	return map[string]edge{
		"none":                 {nil, true, false},
		"empty":                {api.Label{}, true, false},
		"0":                    {pair(7, api.Lev0), true, false},
		"1":                    {pair(7, api.Lev1), false, false},
		"2":                    {pair(7, api.Lev2), true, false},
		"3":                    {pair(7, api.Lev3), true, false},
		"owned":                {pair(7, api.Star), true, true},
		"above":                {pair(7, api.Above), false, false},
		"no level":             {pair(7, 6), false, false},
		"no level either":      {pair(7, -1), false, false},
		"a great category":     {pair(math.MaxUint64, api.Lev3), true, false},
		"category 0":           {pair(0, api.Lev3), true, false},
		"15":                   {pairs(15, api.Lev3), true, false},
		"16":                   {pairs(16, api.Lev3), true, false},
		"17":                   {pairs(17, api.Lev3), false, false},
		"many":                 {pairs(1<<16, api.Lev3), false, false},
		"16 owned":             {pairs(16, api.Star), true, true},
		"17 owned":             {pairs(17, api.Star), false, false},
		"the last owned":       {append(pairs(15, api.Lev3), api.Pair{Cat: 1000, Lev: api.Star}), true, true},
		"the last above":       {append(pairs(15, api.Lev3), api.Pair{Cat: 1000, Lev: api.Above}), false, false},
		"the first above":      {append(pair(0, api.Above), pairs(15, api.Lev3)...), false, false},
		"one between is above": {api.Label{{Cat: 1, Lev: api.Lev0}, {Cat: 2, Lev: api.Above}, {Cat: 3, Lev: api.Lev3}}, false, false},
		"twice":                {api.Label{{Cat: 1, Lev: api.Lev0}, {Cat: 1, Lev: api.Lev0}}, false, false},
		"falling":              {api.Label{{Cat: 2, Lev: api.Lev0}, {Cat: 1, Lev: api.Lev0}}, false, false},
		"the last falling":     {append(pairs(15, api.Lev3), api.Pair{Cat: 2, Lev: api.Lev3}), false, false},
	}
}

// bound is a clearance that is no less than any kept label of the tests: it has no room for all categories, so it names those of the label.
func bound(l api.Label) api.Label {
	var out api.Label
	for _, p := range l {
		if len(out) < topPairs {
			out = append(out, api.Pair{Cat: p.Cat, Lev: api.Lev3})
		}
	}
	return out
}

// P13.1: a label is a kept one, which owns nothing, but a thread's.
func TestSoundLabels(t *testing.T) {
	for name, r := range edges() {
		if isKept(r.l) != r.kept {
			t.Fatalf("the label %s is kept: %v", name, !r.kept)
		}
		for _, kind := range kinds() {
			o := least(kind, 1)
			o.Label = r.l
			want := r.kept && !r.owns
			if kind == api.KdThread {
				want = r.kept
				o.Thread.Clear = bound(r.l)
				if !r.kept {
					o.Thread.Clear = nil
				}
			}
			if got := Sound(o); got != want {
				t.Errorf("kind %d with the label %s is %v", kind, name, got)
			}
		}
	}
}

// P13.1: a thread's Clear and each of its Labs, a gate's Grant and Clear are kept labels; they may own.
func TestSoundInnerLabels(t *testing.T) {
	for name, r := range edges() {
		for at := range 4 {
			o := least(api.KdThread, 1)
			o.Thread.Labs[at] = r.l
			if got := Sound(o); got != r.kept {
				t.Errorf("a thread with Labs[%d] %s is %v", at, name, got)
			}
		}
		o := least(api.KdThread, 1)
		o.Thread.Clear = r.l
		for _, p := range r.l {
			if len(o.Label) < topPairs {
				o.Label = append(o.Label, api.Pair{Cat: p.Cat, Lev: api.Star})
			}
		}
		if !r.kept {
			o.Label = nil
		}
		if got := Sound(o); got != r.kept {
			t.Errorf("a thread with Clear %s is %v", name, got)
		}
		g := least(api.KdGate, 1)
		g.Gate.Clear, g.Gate.Grant = r.l, o.Label
		if got := Sound(g); got != r.kept {
			t.Errorf("a gate with Clear %s is %v", name, got)
		}
		g.Gate.Clear, g.Gate.Grant = bound(r.l), r.l
		if !r.kept {
			g.Gate.Clear = nil
		}
		if got := Sound(g); got != r.kept {
			t.Errorf("a gate with Grant %s is %v", name, got)
		}
	}
}

// P13.1: a thread's Label is at most its Clear, a gate's Grant at most its Clear, category by category.
func TestSoundBounds(t *testing.T) {
	rows := []struct {
		l, bound api.Label
		want     bool
	}{
		{nil, nil, true},
		{pair(7, api.Star), nil, true},
		{pair(7, api.Lev0), nil, true},
		{pair(7, api.Lev2), nil, false},
		{pair(7, api.Lev3), nil, false},
		{nil, pair(7, api.Lev0), false},
		{nil, pair(7, api.Star), false},
		{nil, pair(7, api.Lev2), true},
		{pair(7, api.Lev3), pair(7, api.Lev3), true},
		{pair(7, api.Lev3), pair(7, api.Lev2), false},
		{pair(7, api.Lev2), pair(7, api.Lev3), true},
		{pair(7, api.Star), pair(7, api.Star), true},
		{pair(7, api.Lev0), pair(7, api.Star), false},
		{pair(7, api.Star), pair(7, api.Lev0), true},
		{pair(7, api.Lev3), pair(8, api.Lev3), false},
		{pair(8, api.Lev3), pair(7, api.Lev3), false},
		{api.Label{{Cat: 7, Lev: api.Star}, {Cat: 9, Lev: api.Lev3}}, pair(9, api.Lev3), true},
		{api.Label{{Cat: 7, Lev: api.Star}, {Cat: 9, Lev: api.Lev3}}, pair(7, api.Lev3), false},
		{pairs(16, api.Lev3), pairs(16, api.Lev3), true},
		{pairs(16, api.Lev3), pairs(15, api.Lev3), false},
		{pairs(15, api.Lev3), pairs(16, api.Lev3), true},
		{pairs(16, api.Lev3), pairs(16, api.Lev2), false},
		{pairs(16, api.Star), pairs(16, api.Star), true},
	}
	for _, r := range rows {
		o := least(api.KdThread, 1)
		o.Label, o.Thread.Clear = r.l, r.bound
		if got := Sound(o); got != r.want || isAtMost(r.l, r.bound) != r.want {
			t.Errorf("a thread with Label %v and Clear %v is %v", r.l, r.bound, got)
		}
		g := least(api.KdGate, 1)
		g.Gate.Grant, g.Gate.Clear = r.l, r.bound
		if got := Sound(g); got != r.want {
			t.Errorf("a gate with Grant %v and Clear %v is %v", r.l, r.bound, got)
		}
	}
}

// P13.1: what is not its kind's is zero: each field of others, one at a time, makes an object not sound, and an empty list does not.
func TestSoundForeign(t *testing.T) {
	for _, kind := range kinds() {
		for _, o := range []api.Object{least(kind, 3), most(kind, 3)} {
			foreign := 0
			for _, v := range variants(o) {
				if slices.Contains(append(own(kind), "Id", "Kind", "Label", "Quota", "Fixed"), v.field) {
					continue
				}
				foreign++
				if Sound(v.is) {
					t.Errorf("kind %d with%s is sound", kind, v.where)
				}
			}
			if foreign < 20 {
				t.Errorf("kind %d: only %d others' fields", kind, foreign)
			}
			full := emptied(o)
			if !Sound(full) {
				t.Errorf("kind %d with empty lists is not sound", kind)
			}
		}
	}
}

// emptied is an object, or a world, whose lists are there, if empty.
func emptied[T any](x T) T {
	return changed(x, func(x *T) { empties(reflect.ValueOf(x).Elem()) })
}

// empties makes each list that is none an empty one.
func empties(v reflect.Value) {
	switch v.Kind() {
	case reflect.Struct:
		for i := range v.NumField() {
			empties(v.Field(i))
		}
	case reflect.Array:
		for i := range v.Len() {
			empties(v.Index(i))
		}
	case reflect.Slice:
		if v.Len() == 0 {
			v.Set(reflect.MakeSlice(v.Type(), 0, 3))
		}
		for i := range v.Len() {
			empties(v.Index(i))
		}
	}
}

// P13.1: parts of another kind make an object not sound, whole as they are.
func TestSoundMixed(t *testing.T) {
	for _, kind := range kinds() {
		for _, other := range kinds() {
			o := most(other, 3)
			o.Kind, o.Label, o.Fixed = kind, nil, false
			if kind == api.KdThread || other == api.KdThread {
				o.Label = pair(8, api.Lev0)
			}
			if got := Sound(o); got != (kind == other) {
				t.Errorf("kind %d with the parts of %d is %v", kind, other, got)
			}
		}
	}
}

// P13.1, P13.5: a segment has at most 16 times its Quota less 1 words: one more is not sound, and as many take all of the Quota.
func TestSoundSegments(t *testing.T) {
	data := make([]uint64, words*topQuota+1)
	for quota := 1; quota <= topQuota; quota++ {
		o := least(api.KdSegment, 9)
		o.Quota, o.Data = quota, data[:words*(quota-1)]
		if !Sound(o) || Pages(o) != quota {
			t.Fatalf("a segment of Quota %d with %d words is %v, takes %d", quota, len(o.Data), Sound(o), Pages(o))
		}
		for _, more := range []int{1, 2, words - 1, words} {
			o.Data = data[:words*(quota-1)+more]
			if Sound(o) || Pages(o) != quota+1 {
				t.Fatalf("a segment of Quota %d with %d words is %v, takes %d", quota, len(o.Data), Sound(o), Pages(o))
			}
		}
	}
	for _, quota := range []int{0, -1, math.MinInt, math.MinInt + 1, math.MaxInt, math.MaxInt - 1, 1 << 60, 1<<60 + 1, 1<<60 + 2, 1<<59 + 1, -1 << 60, 1<<32 + 2, topQuota + 1} {
		for _, n := range []int{0, 1, 16, 17} {
			o := least(api.KdSegment, 9)
			o.Quota, o.Data = quota, data[:n]
			if Sound(o) {
				t.Errorf("a segment of Quota %d with %d words is sound", quota, n)
			}
		}
	}
}

// P13.1: a container's Links are ids, at most 64, rising, none twice.
func TestSoundContainers(t *testing.T) {
	rows := []struct {
		why  string
		l    []uint64
		want bool
	}{
		{"none", nil, true},
		{"one", []uint64{1}, true},
		{"its own", []uint64{9}, true},
		{"the last", []uint64{topId}, true},
		{"the first and the last", []uint64{1, topId}, true},
		{"0", []uint64{0}, false},
		{"0 first", []uint64{0, 1}, false},
		{"more than the last", []uint64{topId + 1}, false},
		{"more than the last behind others", []uint64{1, 2, topId + 1}, false},
		{"the greatest word", []uint64{1, math.MaxUint64}, false},
		{"twice", []uint64{3, 3}, false},
		{"twice at the end", []uint64{1, 2, 3, 3}, false},
		{"twice at the beginning", []uint64{1, 1, 2, 3}, false},
		{"falling", []uint64{3, 2}, false},
		{"falling in between", []uint64{1, 5, 4, 6}, false},
		{"falling at the end", []uint64{1, 5, 6, 2}, false},
		{"as a number falling", []uint64{1, 1 << 60}, true},
		{"63", count(1, 63), true},
		{"64", count(1, 64), true},
		{"64 to the last", count(topId-63, 64), true},
		{"64 beyond the last", count(topId-62, 64), false},
		{"65", count(1, 65), false},
		{"65 of 64", append(count(1, 64), 64), false},
		{"many", count(1, 1<<16), false},
		{"64, the first 0", count(0, 64), false},
	}
	for _, r := range rows {
		o := least(api.KdContainer, 9)
		o.Links = r.l
		if got := Sound(o); got != r.want {
			t.Errorf("a container with Links %s is %v", r.why, got)
		}
		o.Fixed, o.Quota = true, topQuota
		if got := Sound(o); got != r.want {
			t.Errorf("a Fixed container with Links %s is %v", r.why, got)
		}
	}
}

// P13.1: an address space's Maps are fit.
func TestSoundSpaces(t *testing.T) {
	rows := []struct {
		why  string
		l    []api.Map
		want bool
	}{
		{"none", nil, true},
		{"all pages", []api.Map{{N: topVa}}, true},
		{"more than all", []api.Map{{N: topVa + 1}}, false},
		{"no pages", []api.Map{{}}, false},
		{"ahead of all", []api.Map{{Va: -1, N: 1}}, false},
		{"behind the last", []api.Map{{Va: topVa, N: 1}}, false},
		{"ahead of the segment", []api.Map{{N: 1, Off: -1}}, false},
		{"the last", []api.Map{{Va: topVa - 1, N: 1, Off: topVa - 1}}, true},
		{"beyond the last", []api.Map{{Va: topVa - 1, N: 2}}, false},
		{"16", room(16), true},
		{"17", room(17), false},
		{"falling", []api.Map{{Va: 2, N: 1}, {Va: 1, N: 1}}, false},
		{"twice", []api.Map{{Va: 2, N: 1}, {Va: 2, N: 1}}, false},
		{"touching", []api.Map{{Va: 2, N: 2}, {Va: 4, N: 1}}, true},
		{"into the next", []api.Map{{Va: 2, N: 3}, {Va: 4, N: 1}}, false},
		{"of nothing that can be", []api.Map{{N: 1, Cont: math.MaxUint64, Seg: 0, Write: true}}, true},
	}
	for _, r := range rows {
		o := least(api.KdSpace, 9)
		o.Maps = r.l
		if got := Sound(o); got != r.want || isSpace(r.l) != r.want {
			t.Errorf("an address space with Maps %s is %v", r.why, got)
		}
	}
}

// P13.1: what a thread has at the edges: State, Alerts, Span, Wait, Fixed; its registers and places are any words.
func TestSoundThreads(t *testing.T) {
	great := uint64(math.MaxUint64)
	rows := []struct {
		why  string
		does func(o *api.Object)
		want bool
	}{
		{"runs", func(o *api.Object) { o.Thread.State = 0 }, true},
		{"waits", func(o *api.Object) { o.Thread.State = 1 }, true},
		{"halted", func(o *api.Object) { o.Thread.State = 2 }, true},
		{"State -1", func(o *api.Object) { o.Thread.State = -1 }, false},
		{"State 3", func(o *api.Object) { o.Thread.State = 3 }, false},
		{"a great State", func(o *api.Object) { o.Thread.State = 1 << 32 }, false},
		{"the least State", func(o *api.Object) { o.Thread.State = math.MinInt }, false},
		{"8 Alerts", func(o *api.Object) { o.Thread.Alerts = count(0, 8) }, true},
		{"9 Alerts", func(o *api.Object) { o.Thread.Alerts = count(0, 9) }, false},
		{"many Alerts", func(o *api.Object) { o.Thread.Alerts = count(0, 1<<16) }, false},
		{"any Alerts", func(o *api.Object) { o.Thread.Alerts = []uint64{great, 0, great, 0} }, true},
		{"all numbers", func(o *api.Object) { o.Thread.Span = api.Span{Lo: 0, Hi: topId} }, true},
		{"no numbers", func(o *api.Object) { o.Thread.Span = api.Span{Lo: topId, Hi: topId} }, true},
		{"numbers beyond all", func(o *api.Object) { o.Thread.Span = api.Span{Lo: 0, Hi: topId + 1} }, false},
		{"no numbers beyond all", func(o *api.Object) { o.Thread.Span = api.Span{Lo: topId + 1, Hi: topId + 1} }, false},
		{"numbers the wrong way", func(o *api.Object) { o.Thread.Span = api.Span{Lo: 4, Hi: 3} }, false},
		{"numbers from the greatest on", func(o *api.Object) { o.Thread.Span = api.Span{Lo: great, Hi: 3} }, false},
		{"Fixed", func(o *api.Object) { o.Fixed = true }, false},
		{"any words", func(o *api.Object) {
			o.Thread.Regs, o.Thread.Pc = [16]uint64{0: great, 15: great}, great
			o.Thread.Space, o.Thread.Handler, o.Thread.Vector = api.Ref{Cont: great, Id: great}, great, great
		}, true},
	}
	waits := []api.Wait{{Ref: api.Ref{Cont: 1}}, {Ref: api.Ref{Id: 1}}, {Index: 1}, {Val: 1}, {Dev: true}, {Ref: api.Ref{Cont: great, Id: great}, Index: great, Val: great, Dev: true}}
	for _, r := range rows {
		if got := Sound(changed(least(api.KdThread, 9), r.does)); got != r.want {
			t.Errorf("a thread, %s, is %v", r.why, got)
		}
	}
	for _, state := range []int{-1, 0, 1, 2, 3} {
		for _, wait := range waits {
			o := least(api.KdThread, 9)
			o.Thread.State, o.Thread.Wait = state, wait
			if got := Sound(o); got != (state == api.ThWait) {
				t.Errorf("a thread in State %d with Wait %v is %v", state, wait, got)
			}
		}
	}
}

// P13.1: what came to a device and what it put out is bounded; they are any words.
func TestSoundDevices(t *testing.T) {
	for _, in := range []int{0, 1, 63, 64, 65, 1024, 1 << 16} {
		for _, out := range []int{0, 1, 64, 1023, 1024, 1025, 1 << 16} {
			o := least(api.KdDevice, 9)
			o.In, o.Out = count(math.MaxUint64-3, in), count(math.MaxUint64-3, out)
			if got := Sound(o); got != (in <= topIn && out <= topOut) {
				t.Errorf("a device with %d words In, %d Out is %v", in, out, got)
			}
		}
	}
}

// P13.1: Sound of all that differs from a sound object in one thing, and of all that differs from that in one thing more, is what the chapter's words say.
func TestSoundByWords(t *testing.T) {
	for _, kind := range kinds() {
		for _, o := range []api.Object{least(kind, 3), most(kind, 3), most(kind, topId)} {
			sound := 0
			for _, v := range variants(o) {
				got := Sound(v.is)
				if got != isSound(v.is) {
					t.Errorf("kind %d with%s is %v", kind, v.where, got)
				}
				if got {
					sound++
				}
			}
			if sound < 3 {
				t.Errorf("kind %d: only %d others are sound", kind, sound)
			}
		}
		once := variants(most(kind, 3))
		draw := rand.New(rand.NewSource(int64(kind)))
		for range 60 {
			v := once[draw.Intn(len(once))]
			for _, u := range variants(v.is) {
				if got := Sound(u.is); got != isSound(u.is) {
					t.Errorf("kind %d with%s and%s is %v", kind, v.where, u.where, got)
				}
			}
		}
	}
}

// world is a fit world of objects with ids, of all kinds by turns.
func world(ids ...uint64) api.World {
	w := api.World{Time: 11, Key: 12, Root: 13}
	for i, id := range ids {
		w.Objects = append(w.Objects, most(kinds()[i%len(kinds())], id))
	}
	return w
}

// steps are n ids, each as far behind the last one as step says.
func steps(from uint64, n int, step uint64) []uint64 {
	var out []uint64
	for i := range n {
		out = append(out, from+uint64(i)*step)
	}
	return out
}

// ids are the ids of a world's objects.
func ids(w api.World) []uint64 {
	var out []uint64
	for _, o := range w.Objects {
		out = append(out, o.Id)
	}
	return out
}

// worlds are fit ones of few and of many objects.
func worlds() []api.World {
	out := []api.World{{}, {Time: topTime, Key: math.MaxUint64, Root: math.MaxUint64}, world(), world(1), world(topId), world(1, topId), world(1, 2, 3), world(5, 1<<32, 1<<33, 1<<60)}
	for n := 1; n <= 18; n++ {
		out = append(out, world(steps(2, n, 3)...))
	}
	return append(out, world(steps(topId-99, 100, 1)...))
}

// larges are fit worlds that are full, or nearly.
func larges() []api.World {
	return []api.World{world(steps(2, topCount, 2)...), world(steps(2, topCount-1, 2)...), world(steps(topId-topCount+1, topCount, 1)...), world(steps(topId-topCount+1, topCount-1, 1)...)}
}

// P13.1: a world is fit by its Time, by how many objects it has, by their order, and by each of them; Key and Root are any.
func TestFitRows(t *testing.T) {
	three := world(2, 5, 9)
	rows := []struct {
		why  string
		w    api.World
		want bool
	}{
		{"nothing", api.World{}, true},
		{"no objects", api.World{Objects: []api.Object{}}, true},
		{"Time -1", api.World{Time: -1}, false},
		{"Time 0", api.World{Time: 0}, true},
		{"Time 1", api.World{Time: 1}, true},
		{"Time 2^40", api.World{Time: topTime}, true},
		{"Time one more", api.World{Time: topTime + 1}, false},
		{"the least Time", api.World{Time: math.MinInt}, false},
		{"the greatest Time", api.World{Time: math.MaxInt}, false},
		{"Key and Root", api.World{Key: math.MaxUint64, Root: math.MaxUint64}, true},
		{"three", three, true},
		{"three, Time -1", changed(three, func(w *api.World) { w.Time = -1 }), false},
		{"three, Time one more", changed(three, func(w *api.World) { w.Time = topTime + 1 }), false},
		{"1023", world(steps(1, topCount-1, 1)...), true},
		{"1024", world(steps(1, topCount, 1)...), true},
		{"1025", world(steps(1, topCount+1, 1)...), false},
		{"2048", world(steps(1, 2*topCount, 1)...), false},
		{"to the last", world(steps(topId-9, 10, 1)...), true},
		{"beyond the last", world(steps(topId-8, 10, 1)...), false},
		{"from 0 on", world(steps(0, 10, 1)...), false},
		{"twice", world(2, 2), false},
		{"twice the same", api.World{Objects: []api.Object{least(1, 4), least(1, 4)}}, false},
		{"twice at the end", world(1, 2, 3, 3), false},
		{"twice at the beginning", world(1, 1, 2, 3), false},
		{"twice, not beside", world(1, 2, 1), false},
		{"falling", world(3, 2), false},
		{"falling in between", world(1, 5, 4, 6), false},
		{"falling at the end", world(1, 2, 3, 1), false},
		{"all falling", world(9, 8, 7), false},
		{"one of no kind", changed(three, func(w *api.World) { w.Objects[1].Kind = 0 }), false},
		{"the first of no Quota", changed(three, func(w *api.World) { w.Objects[0].Quota = 0 }), false},
		{"the last of no Quota", changed(three, func(w *api.World) { w.Objects[2].Quota = 0 }), false},
		{"one of another's parts", changed(three, func(w *api.World) { w.Objects[1].Data = count(0, 1) }), false},
		{"the last of a full one not sound", changed(world(steps(1, topCount, 1)...), func(w *api.World) { w.Objects[topCount-1].Quota = 0 }), false},
		{"the first of a full one not sound", changed(world(steps(1, topCount, 1)...), func(w *api.World) { w.Objects[0].Quota = 0 }), false},
	}
	for _, r := range rows {
		if got := Fit(r.w); got != r.want {
			t.Errorf("Fit of %s is %v", r.why, got)
		}
	}
	for _, w := range append(worlds(), larges()...) {
		if !Fit(w) {
			t.Errorf("%v is not fit", ids(w))
		}
	}
}

// P13.1: Fit of all short rows of ids is what the chapter's words say.
func TestFitByWords(t *testing.T) {
	some := []uint64{0, 1, 2, 3, topId, topId + 1}
	rows := [][]uint64{nil}
	for from := 0; len(rows[from]) < 4; from++ {
		for _, id := range some {
			rows = append(rows, append(slices.Clone(rows[from]), id))
		}
	}
	for _, row := range rows {
		if got := Fit(world(row...)); got != isRow(row) {
			t.Errorf("Fit of %v is %v", row, got)
		}
	}
}

// P13.1: SameOne goes by each field, by each number of each list, and by the lists' lengths; an empty list is none.
func TestSameOneFields(t *testing.T) {
	some := []api.Object{{}, all()}
	for _, kind := range kinds() {
		some = append(some, least(kind, 3), most(kind, 3))
	}
	for _, o := range some {
		full := emptied(o)
		for _, b := range []api.Object{o, deep(o), full} {
			if !SameOne(o, b) || !SameOne(b, o) {
				t.Errorf("%+v is not the same as itself", o)
			}
		}
		fields := map[string]int{}
		for _, v := range variants(o) {
			fields[v.field]++
			if SameOne(o, v.is) || SameOne(v.is, o) {
				t.Errorf("kind %d: with another%s it is the same", o.Kind, v.where)
			}
			if !SameOne(v.is, deep(v.is)) {
				t.Errorf("kind %d: with another%s it is not the same as itself", o.Kind, v.where)
			}
		}
		if n := reflect.TypeOf(o).NumField(); len(fields) != n {
			t.Errorf("kind %d: only %v of %d fields were changed", o.Kind, fields, n)
		}
	}
}

// P13.1: SameOne is not fooled by things that change places.
func TestSameOneSwapped(t *testing.T) {
	swaps := []func(o *api.Object){
		func(o *api.Object) { o.In, o.Out = o.Out, o.In },
		func(o *api.Object) { o.Links, o.Data = o.Data, o.Links },
		func(o *api.Object) { o.Gate.Grant, o.Gate.Clear = o.Gate.Clear, o.Gate.Grant },
		func(o *api.Object) { o.Thread.Labs[0], o.Thread.Labs[2] = o.Thread.Labs[2], o.Thread.Labs[0] },
		func(o *api.Object) { o.Thread.Clear, o.Label = o.Label, o.Thread.Clear },
		func(o *api.Object) { o.Thread.Clear, o.Gate.Clear = o.Gate.Clear, o.Thread.Clear },
		func(o *api.Object) { o.Thread.Pc, o.Gate.Pc = o.Gate.Pc, o.Thread.Pc },
		func(o *api.Object) { o.Thread.Space, o.Gate.Space = o.Gate.Space, o.Thread.Space },
		func(o *api.Object) {
			o.Thread.Space.Cont, o.Thread.Space.Id = o.Thread.Space.Id, o.Thread.Space.Cont
		},
		func(o *api.Object) { o.Thread.Span.Lo, o.Thread.Span.Hi = o.Thread.Span.Hi, o.Thread.Span.Lo },
		func(o *api.Object) { o.Thread.Regs[3], o.Thread.Regs[4] = o.Thread.Regs[4], o.Thread.Regs[3] },
		func(o *api.Object) { o.Thread.Alerts[0], o.Thread.Alerts[1] = o.Thread.Alerts[1], o.Thread.Alerts[0] },
		func(o *api.Object) { o.Data[0], o.Data[39] = o.Data[39], o.Data[0] },
		func(o *api.Object) { o.Links[0], o.Links[1] = o.Links[1], o.Links[0] },
		func(o *api.Object) { o.Maps[0], o.Maps[1] = o.Maps[1], o.Maps[0] },
		func(o *api.Object) { o.Label[0], o.Label[1] = o.Label[1], o.Label[0] },
		func(o *api.Object) { o.Kind, o.Quota = o.Quota, o.Kind },
	}
	for i, swap := range swaps {
		if b := changed(all(), swap); SameOne(all(), b) || SameOne(b, all()) {
			t.Errorf("behind swap %d it is the same", i)
		}
	}
}

// P13.1: Same goes by each field of a world, and by each of its objects, fit or not.
func TestSameFields(t *testing.T) {
	odd := api.World{Time: -4, Objects: []api.Object{all(), {}, all()}}
	for _, w := range []api.World{{}, world(2), world(1, 2, 3, 4, 5, 6), odd} {
		full := emptied(w)
		for _, b := range []api.World{w, deep(w), full} {
			if !Same(w, b) || !Same(b, w) {
				t.Errorf("%v is not the same as itself", ids(w))
			}
		}
		for _, v := range variants(w) {
			if Same(w, v.is) || Same(v.is, w) {
				t.Errorf("%v with another%s is the same", ids(w), v.where)
			}
		}
	}
	a, b := world(1, 2, 3), world(1, 2, 3)
	b.Objects[0], b.Objects[1] = b.Objects[1], b.Objects[0]
	if Same(a, b) || Same(a, world(1, 2)) || Same(world(1, 2), a) || Same(a, world(2, 3)) || Same(world(), a) {
		t.Error("worlds of other objects are the same")
	}
	for _, w := range larges() {
		last := changed(w, func(w *api.World) { w.Objects[len(w.Objects)-1].Quota++ })
		if !Same(w, deep(w)) || Same(w, last) {
			t.Error("a large world is not the same, or another one is")
		}
	}
}

// findOf is Find by the chapter's words.
func findOf(w api.World, id uint64) (api.Object, bool) {
	for _, o := range w.Objects {
		if o.Id == id {
			return o, true
		}
	}
	return api.Object{}, false
}

// dropOf is Drop by the chapter's words.
func dropOf(w api.World, id uint64) api.World {
	out := api.World{Time: w.Time, Key: w.Key, Root: w.Root}
	for _, o := range w.Objects {
		if o.Id != id {
			out.Objects = append(out.Objects, o)
		}
	}
	return out
}

// putOf is Put by the chapter's words.
func putOf(w api.World, o api.Object) api.World {
	out := dropOf(w, o.Id)
	out.Objects = append(out.Objects, o)
	slices.SortFunc(out.Objects, func(a, b api.Object) int { return cmp.Compare(a.Id, b.Id) })
	if len(out.Objects) > topCount {
		return w
	}
	return out
}

// near are the ids of a world, those beside them, and those at and beyond all bounds.
func near(w api.World) []uint64 {
	out := []uint64{0, 1, 2, 3, 1 << 31, 1 << 32, 1 << 60, topId - 1, topId, topId + 1, 1 << 63, math.MaxUint64}
	for _, o := range w.Objects {
		out = append(out, o.Id-1, o.Id, o.Id+1)
	}
	slices.Sort(out)
	return slices.Compact(out)
}

// few are some of many: the first, some between, the last.
func few(l []uint64) []uint64 {
	if len(l) < 60 {
		return l
	}
	var out []uint64
	for i := 0; i < len(l); i += 1 + len(l)/20 {
		out = append(out, l[i])
	}
	return append(out, l[1], l[len(l)-2], l[len(l)-1])
}

// P13.2: Find of any id in any world is what the chapter's words say: the object, true, or nothing.
func TestFindByWords(t *testing.T) {
	for _, w := range append(worlds(), larges()...) {
		for _, id := range near(w) {
			want, wantFound := findOf(w, id)
			if got, found := Find(w, id); found != wantFound || !equal(got, want) {
				t.Errorf("Find(%v, %d) is %+v, %v", few(ids(w)), id, got, found)
			}
		}
	}
}

// P13.2: Drop of any id is w without it, or w.
func TestDropByWords(t *testing.T) {
	for _, w := range append(worlds(), larges()...) {
		for _, id := range few(near(w)) {
			if got := Drop(w, id); !equal(got, dropOf(w, id)) || !Fit(got) {
				t.Errorf("Drop(%v, %d) is %v", few(ids(w)), id, few(ids(got)))
			}
		}
	}
}

// P13.2: Put of an object of any kind and id is w with it in its place, also instead of another one of whatever kind; to a full world only that.
func TestPutByWords(t *testing.T) {
	for at, w := range append(worlds(), larges()...) {
		for i, id := range few(near(w)) {
			if id < 1 || id > topId {
				continue
			}
			o := most(kinds()[(i+at)%len(kinds())], id)
			o.Quota = 77
			if got := Put(w, o); !equal(got, putOf(w, o)) || !Fit(got) {
				t.Errorf("Put(%v, %d) is %v", few(ids(w)), id, few(ids(got)))
			}
		}
	}
}

// P13.2: Put, Find and Drop that are written out.
func TestRows(t *testing.T) {
	a, b, c := most(api.KdSegment, 3), most(api.KdThread, 5), most(api.KdGate, 8)
	w := api.World{Time: 1, Key: 2, Root: 3}
	with := func(l ...api.Object) api.World { return api.World{Time: 1, Key: 2, Root: 3, Objects: l} }
	if got := Put(w, b); !equal(got, with(b)) {
		t.Errorf("the first is put as %v", got)
	}
	if got := Put(Put(Put(w, b), c), a); !equal(got, with(a, b, c)) {
		t.Errorf("all are put as %v", ids(got))
	}
	other := least(api.KdDevice, 5)
	if got := Put(with(a, b, c), other); !equal(got, with(a, other, c)) {
		t.Errorf("another one is put as %v", got)
	}
	for id, want := range map[uint64]api.World{3: with(b, c), 5: with(a, c), 8: with(a, b), 4: with(a, b, c), 0: with(a, b, c), 9: with(a, b, c)} {
		if got := Drop(with(a, b, c), id); !equal(got, want) {
			t.Errorf("Drop of %d is %v", id, ids(got))
		}
	}
	for id, want := range map[uint64]api.Object{3: a, 5: b, 8: c} {
		if got, found := Find(with(a, b, c), id); !found || !equal(got, want) {
			t.Errorf("Find of %d is %v, %v", id, got, found)
		}
	}
	for _, id := range []uint64{0, 1, 2, 4, 6, 7, 9, topId, math.MaxUint64} {
		if got, found := Find(with(a, b, c), id); found || !reflect.DeepEqual(got, api.Object{}) {
			t.Errorf("Find of %d is %v, %v", id, got, found)
		}
	}
}

// P13.2: to a world of 1024 objects one that is there is put, one that is not there is not, wherever it would be; with one less it is.
func TestPutFull(t *testing.T) {
	full := world(steps(2, topCount, 2)...)
	for _, id := range []uint64{1, 3, topCount + 1, 2*topCount - 1, 2*topCount + 1, topId} {
		if got := Put(full, least(api.KdSpace, id)); !equal(got, full) {
			t.Errorf("%d is put to a full world, which has %d then", id, len(got.Objects))
		}
		one := Drop(full, 4)
		got := Put(one, least(api.KdSpace, id))
		if o, found := Find(got, id); len(got.Objects) != topCount || !found || !equal(o, least(api.KdSpace, id)) {
			t.Errorf("%d is not put as the last, there are %d", id, len(got.Objects))
		}
	}
	for _, id := range []uint64{2, 4, topCount, 2*topCount - 2, 2 * topCount} {
		got := Put(full, least(api.KdSpace, id))
		if o, _ := Find(got, id); len(got.Objects) != topCount || !equal(o, least(api.KdSpace, id)) || !equal(ids(got), ids(full)) {
			t.Errorf("%d, which is there, is put as %+v", id, o)
		}
	}
}

// P13.3, example 1: a page, and of a segment one for each 16 words begun.
func TestPages(t *testing.T) {
	rows := map[int]int{0: 1, 1: 2, 2: 2, 15: 2, 16: 2, 17: 3, 31: 3, 32: 3, 33: 4, 48: 4, 49: 5, 65519: 4096, 65520: 4096, 65504: 4095, 65505: 4096}
	for n, want := range rows {
		o := least(api.KdSegment, 2)
		o.Quota, o.Data = topQuota, make([]uint64, n)
		if got := Pages(o); got != want || !Sound(o) {
			t.Errorf("Pages of a segment of %d words is %d", n, got)
		}
	}
	begun := 0
	for n := range 1000 {
		if n%words == 1 {
			begun++
		}
		if got := Pages(api.Object{Id: 1, Kind: api.KdSegment, Quota: 100, Data: make([]uint64, n)}); got != 1+begun {
			t.Errorf("Pages of a segment of %d words is %d", n, got)
		}
	}
	for _, kind := range kinds()[1:] {
		for _, o := range []api.Object{least(kind, 2), most(kind, 2)} {
			if got := Pages(o); got != 1 {
				t.Errorf("Pages of kind %d is %d", kind, got)
			}
		}
	}
	full := least(api.KdDevice, 2)
	full.In, full.Out = count(0, topIn), count(0, topOut)
	wide := least(api.KdContainer, 2)
	wide.Links, wide.Quota = count(1, topLinks), topQuota
	if Pages(full) != 1 || Pages(wide) != 1 {
		t.Errorf("Pages of a full device is %d, of a full container %d", Pages(full), Pages(wide))
	}
}

// P13.3: a thread is shown with its label raised, all others with theirs.
func TestShown(t *testing.T) {
	mixed := api.Label{{Cat: 1, Lev: api.Star}, {Cat: 2, Lev: api.Lev0}, {Cat: 4, Lev: api.Lev2}, {Cat: 6, Lev: api.Lev3}, {Cat: 9, Lev: api.Star}}
	raised := api.Label{{Cat: 1, Lev: api.Above}, {Cat: 2, Lev: api.Lev0}, {Cat: 4, Lev: api.Lev2}, {Cat: 6, Lev: api.Lev3}, {Cat: 9, Lev: api.Above}}
	for _, kind := range kinds() {
		rows := []struct{ l, want api.Label }{{nil, nil}, {pair(7, api.Lev0), pair(7, api.Lev0)}, {pair(7, api.Lev3), pair(7, api.Lev3)}, {pairs(16, api.Lev2), pairs(16, api.Lev2)}}
		if kind == api.KdThread {
			rows = append(rows, struct{ l, want api.Label }{pair(7, api.Star), pair(7, api.Above)}, struct{ l, want api.Label }{mixed, raised},
				struct{ l, want api.Label }{pairs(16, api.Star), pairs(16, api.Above)})
		}
		for _, r := range rows {
			o := most(kind, 2)
			o.Label = r.l
			if got := Shown(o); !equal(got, r.want) {
				t.Errorf("kind %d with %v is shown as %v", kind, r.l, got)
			}
		}
	}
	if got := Shown(api.Object{Id: 1, Kind: api.KdGate, Quota: 1, Label: api.Label{}}); got != nil {
		t.Errorf("a label without pairs is shown as %v", got)
	}
}

// P13.3: a head has Id, Kind, Quota, Fixed, and the Label, if it is no thread.
func TestHead(t *testing.T) {
	for _, kind := range kinds() {
		for _, id := range []uint64{1, 99, topId} {
			for _, quota := range []int{9, topQuota} {
				for _, fixed := range []bool{false, true} {
					o := most(kind, id)
					o.Quota = quota
					want := api.Object{Id: id, Kind: kind, Quota: quota}
					if kind != api.KdThread {
						o.Fixed, want.Fixed = fixed, fixed
						want.Label = deep(o.Label)
					}
					if got := Head(o); !reflect.DeepEqual(got, want) {
						t.Errorf("the head of %+v is %+v", o, got)
					}
				}
			}
		}
		if got, want := Head(least(kind, 4)), least(kind, 4); !reflect.DeepEqual(got, want) {
			t.Errorf("the head of the least of kind %d is %+v", kind, got)
		}
	}
}

// P13.3: heads of objects differ just where Id, Kind, Quota, Fixed, or the Label of what is no thread does.
func TestHeadHides(t *testing.T) {
	for _, kind := range kinds() {
		o := most(kind, 6)
		for _, v := range variants(o) {
			if !Sound(v.is) {
				continue
			}
			seen := v.field == "Id" || v.field == "Quota" || v.field == "Fixed" || v.field == "Label" && kind != api.KdThread
			if got := !equal(Head(o), Head(v.is)); got != seen {
				t.Errorf("kind %d: another%s is seen in the head: %v", kind, v.where, got)
			}
		}
	}
}

// P13.4: what was put is found, all others stay; what was dropped is not found, all others stay.
func TestFound(t *testing.T) {
	for _, w := range append(worlds(), larges()[1]) {
		all := few(near(w))
		for i, id := range all {
			o := most(kinds()[i%len(kinds())], id)
			o.Quota = 55
			if Sound(o) {
				holdFound(t, "Put", w, Put(w, o), all, id, o, true)
			}
			holdFound(t, "Drop", w, Drop(w, id), all, id, api.Object{}, false)
		}
	}
}

// holdFound holds what is found in a world behind a call against what was found ahead of it: of one id it is told, of all others it is as it was.
func holdFound(t *testing.T, call string, w, behind api.World, all []uint64, id uint64, o api.Object, found bool) {
	for _, other := range append(all, ids(w)...) {
		want, wantFound := Find(w, other)
		if other == id {
			want, wantFound = o, found
		}
		if got, is := Find(behind, other); is != wantFound || !SameOne(got, want) {
			t.Errorf("%s(%v, %d): %d is found as %+v, %v", call, few(ids(w)), id, other, got, is)
		}
	}
	if behind.Time != w.Time || behind.Key != w.Key || behind.Root != w.Root {
		t.Errorf("%s(%v, %d) changes more than objects", call, few(ids(w)), id)
	}
}

// P13.4: Put of what Find tells changes nothing, also in a full world; Put behind Drop of it does neither; twice is as once.
func TestPutOfFind(t *testing.T) {
	for _, w := range append(worlds(), larges()...) {
		for _, id := range few(ids(w)) {
			o, found := Find(w, id)
			if !found {
				t.Errorf("%d is not found in %v", id, few(ids(w)))
			}
			if got := Put(w, o); !Same(got, w) || !equal(got, w) {
				t.Errorf("Put of %d, as it is found, makes %v", id, few(ids(got)))
			}
			if got := Put(Drop(w, id), o); !equal(got, w) {
				t.Errorf("Put of %d behind Drop makes %v", id, few(ids(got)))
			}
			if got := Drop(Drop(w, id), id); !equal(got, dropOf(w, id)) {
				t.Errorf("Drop of %d, twice, makes %v", id, few(ids(got)))
			}
		}
	}
}

// P13.4: long rows of Put and Drop, held against a map of objects.
func TestRowsOfDeeds(t *testing.T) {
	for _, span := range []int{3, 10, 60} {
		draw := rand.New(rand.NewSource(int64(span)))
		w := api.World{Time: 4, Key: 5, Root: 6}
		kept := map[uint64]api.Object{}
		for step := range 800 {
			id := uint64(1 + draw.Intn(span))
			if draw.Intn(3) > 0 {
				o := most(kinds()[draw.Intn(6)], id)
				o.Quota = 10 + step
				w, kept[id] = Put(w, o), o
			} else {
				w = Drop(w, id)
				delete(kept, id)
			}
			if !Fit(w) || !slices.Equal(ids(w), slices.Sorted(maps.Keys(kept))) {
				t.Fatalf("step %d: there are %v", step, ids(w))
			}
			for id := range uint64(span + 2) {
				want, wantFound := kept[id]
				if got, found := Find(w, id); found != wantFound || !equal(got, want) {
					t.Fatalf("step %d: %d is found as %+v, %v", step, id, got, found)
				}
			}
		}
	}
}

// P13.5: what is sound takes at most its Quota by itself, whatever it is.
func TestPagesWithinQuota(t *testing.T) {
	for _, kind := range kinds() {
		for n := range 70 {
			for quota := 1; quota <= 6; quota++ {
				o := least(kind, 1)
				o.Quota = quota
				if kind == api.KdSegment {
					o.Data = make([]uint64, n)
				}
				if kind == api.KdContainer {
					o.Links = count(1, n)
				}
				if kind == api.KdDevice {
					o.In, o.Out = count(1, n), count(1, 15*n)
				}
				if Sound(o) && Pages(o) > quota {
					t.Errorf("kind %d with Quota %d, and %d words, takes %d", kind, quota, n, Pages(o))
				}
				if kind == api.KdSegment && Sound(o) != (Pages(o) <= quota) {
					t.Errorf("a segment of Quota %d, of %d words, takes %d, is %v", quota, n, Pages(o), Sound(o))
				}
			}
		}
	}
}

// stretch is where a list stands in memory, with all that it has room for.
type stretch struct {
	from, to uintptr
	where    string
}

// stretches are where the lists of a value stand.
func stretches(v reflect.Value, where string) []stretch {
	var out []stretch
	switch v.Kind() {
	case reflect.Struct:
		for i := range v.NumField() {
			out = append(out, stretches(v.Field(i), where+"."+v.Type().Field(i).Name)...)
		}
	case reflect.Slice:
		if v.Cap() > 0 {
			from := v.Pointer()
			out = append(out, stretch{from, from + uintptr(v.Cap())*v.Type().Elem().Size(), where})
		}
		fallthrough
	case reflect.Array:
		if k := v.Type().Elem().Kind(); k != reflect.Uint64 {
			for i := range v.Len() {
				out = append(out, stretches(v.Index(i), fmt.Sprintf("%s[%d]", where, i))...)
			}
		}
	}
	return out
}

// shared tells a list that a call told and that shares memory with another one, "" if there is none. What was given may share with itself.
func shared(given, told []stretch) string {
	type mine struct {
		stretch
		told bool
	}
	var all []mine
	for _, s := range given {
		all = append(all, mine{s, false})
	}
	for _, s := range told {
		all = append(all, mine{s, true})
	}
	slices.SortFunc(all, func(a, b mine) int { return cmp.Compare(a.from, b.from) })
	var endGiven, endTold uintptr
	for _, s := range all {
		if s.from < endTold || s.told && s.from < endGiven {
			return s.where
		}
		if s.told {
			endTold = max(endTold, s.to)
		} else {
			endGiven = max(endGiven, s.to)
		}
	}
	return ""
}

// holdNew holds that a call changes nothing that it is given, and tells new memory, the same each time.
func holdNew[T any](t *testing.T, name string, w api.World, o api.Object, call func(api.World, api.Object) T) {
	wasW, wasO := deep(w), deep(o)
	first := call(w, o)
	if !reflect.DeepEqual(w, wasW) || !reflect.DeepEqual(o, wasO) {
		t.Errorf("%s changes what it is given", name)
	}
	given := append(stretches(reflect.ValueOf(w), "w"), stretches(reflect.ValueOf(o), "o")...)
	told := stretches(reflect.ValueOf(first), "told")
	if s := shared(given, told); s != "" {
		t.Errorf("%s shares %s", name, s)
	}
	if again := call(w, o); !reflect.DeepEqual(first, again) || shared(told, stretches(reflect.ValueOf(again), "again")) != "" {
		t.Errorf("%s tells another thing the second time, or shares with the first", name)
	}
}

// P13.2, P13.3, 0.5: what is told is new memory, also where nothing is put or dropped; no two lists of it share any, even if those that were given do.
func TestNothingShared(t *testing.T) {
	one := pairs(3, api.Lev0)
	linked := world(1, 2, 3, 4, 5, 6)
	for i := range linked.Objects {
		linked.Objects[i].Label = one
	}
	linked.Objects[3].Thread.Clear, linked.Objects[3].Thread.Labs = nil, [4]api.Label{one, one, one[:2], one[1:]}
	linked.Objects[4].Gate.Grant, linked.Objects[4].Gate.Clear = one, one
	linked.Objects[5].Out = linked.Objects[5].In
	odd := api.World{Objects: []api.Object{all(), all(), changed(all(), func(o *api.Object) { o.Id = 9 })}}
	for _, w := range []api.World{{}, world(3), world(1, 2, 3, 4, 5, 6, 8, 9), linked, odd, emptied(world(1, 2, 3, 4, 5, 6))} {
		for _, kind := range kinds() {
			for _, id := range []uint64{1, 2, 3, 4, 5, 6, 7, 8, 9, 10} {
				holdNew(t, "Put", w, most(kind, id), Put)
				holdNew(t, "Drop", w, most(kind, id), func(w api.World, o api.Object) api.World { return Drop(w, o.Id) })
				holdNew(t, "Find", w, most(kind, id), func(w api.World, o api.Object) api.Object { out, _ := Find(w, o.Id); return out })
			}
		}
		for _, o := range append(w.Objects, all()) {
			holdNew(t, "Put", w, o, Put)
			holdNew(t, "Shown", w, o, func(w api.World, o api.Object) api.Label { return Shown(o) })
			holdNew(t, "Head", w, o, func(w api.World, o api.Object) api.Object { return Head(o) })
		}
	}
	full := larges()[0]
	for _, id := range []uint64{1, 2, topCount, topCount + 1, 2 * topCount, 2*topCount + 1} {
		holdNew(t, "Put to a full world", full, least(api.KdGate, id), Put)
	}
}

// P13.2, 0.5: lists that were given with room behind their ends are not written there.
func TestNothingBehindTheEnd(t *testing.T) {
	mark := most(api.KdDevice, 4000)
	for _, id := range []uint64{1, 2, 3, 4, 5, 6, 7} {
		room := append(world(2, 4, 6).Objects, mark, mark, mark)
		was := deep(room)
		w := api.World{Objects: room[:3]}
		Put(w, least(api.KdGate, id))
		Drop(w, id)
		Find(w, id)
		if !equal(room, was) {
			t.Errorf("Put, Drop or Find of %d writes behind the end", id)
		}
	}
}

// 0.5: what only asks changes nothing.
func TestAskingChangesNothing(t *testing.T) {
	odd := api.World{Time: -4, Objects: []api.Object{all(), {}, all()}}
	for _, w := range append(worlds(), odd) {
		was := deep(w)
		Fit(w)
		Same(w, w)
		for _, o := range w.Objects {
			Sound(o)
			Pages(o)
			SameOne(o, o)
		}
		if !reflect.DeepEqual(w, was) {
			t.Errorf("%v was changed by being asked", few(ids(was)))
		}
	}
}

// noLists tells whether a value has no list that is there, but empty.
func noLists(v reflect.Value) bool {
	switch v.Kind() {
	case reflect.Struct:
		for i := range v.NumField() {
			if !noLists(v.Field(i)) {
				return false
			}
		}
	case reflect.Array, reflect.Slice:
		if v.Kind() == reflect.Slice && v.Len() == 0 && !v.IsNil() {
			return false
		}
		for i := range v.Len() {
			if !noLists(v.Index(i)) {
				return false
			}
		}
	}
	return true
}

// 0.7: an empty list is none, whatever came in.
func TestNoneIsNone(t *testing.T) {
	for _, w := range []api.World{{}, world(5), world(1, 2, 3, 4, 5, 6)} {
		w = emptied(w)
		for _, id := range []uint64{1, 2, 3, 4, 5, 6, 7} {
			o, _ := Find(w, id)
			for _, kind := range kinds() {
				full := emptied(least(kind, id))
				for _, got := range []any{o, Put(w, full), Drop(w, id), Head(full), Shown(full)} {
					if !noLists(reflect.ValueOf(got)) {
						t.Errorf("an empty list is told of %v and %d: %+v", ids(w), id, got)
					}
				}
			}
		}
	}
	if got := Drop(world(5), 5); got.Objects != nil {
		t.Errorf("Drop of the only object leaves %v", got.Objects)
	}
}

// 0.1, 0.4: every call ends and none panics, also of worlds that are not fit and objects that are not sound.
func TestUnfitEnds(t *testing.T) {
	long := api.Object{Id: math.MaxUint64, Kind: -1, Label: pairs(1<<16, api.Above), Quota: math.MinInt, Fixed: true}
	some := []api.Object{{}, all(), long, {Kind: api.KdThread, Label: pairs(20, 9)}, {Kind: api.KdSegment, Quota: math.MinInt, Data: make([]uint64, 100)}}
	for _, v := range variants(all()) {
		some = append(some, v.is)
	}
	unfit := []api.World{{Time: -1, Objects: some}, world(3, 3, 3), world(9, 8, 7, 6, 5), world(0, math.MaxUint64, 0), world(steps(1, 3000, 1)...)}
	for _, o := range some {
		Sound(o)
		Pages(o)
		Shown(o)
		Head(o)
		SameOne(o, long)
		SameOne(long, o)
		Find(unfit[0], o.Id)
		for _, w := range unfit[1:4] {
			Put(w, o)
			Drop(w, o.Id)
		}
	}
	for _, w := range unfit {
		Fit(w)
		Same(w, unfit[0])
		for _, id := range []uint64{0, 1, 5, 3000, 3001, math.MaxUint64} {
			Find(w, id)
			Drop(w, id)
			Put(w, least(api.KdGate, id))
		}
	}
}
