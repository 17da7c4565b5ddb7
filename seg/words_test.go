package seg

import (
	"cmp"
	"fmt"
	"math/rand"
	"reflect"
	"slices"

	"curtilage/api"
)

// The document's numbers.
const (
	topId    = 1 << 61
	topQuota = 4096
	topPairs = 16
	pageLen  = 16
	topWords = pageLen * (topQuota - 1)
)

// kinds are all kinds that there are.
func kinds() []int {
	return []int{api.KdSegment, api.KdContainer, api.KdSpace, api.KdThread, api.KdGate, api.KdDevice}
}

// pair is a label of one category.
func pair(cat uint64, lev int) api.Label { return api.Label{{Cat: cat, Lev: lev}} }

// pairs is a label of n categories at a level.
func pairs(n, lev int) api.Label {
	var out api.Label
	for i := range n {
		out = append(out, api.Pair{Cat: uint64(3*i + 1), Lev: lev})
	}
	return out
}

// count are the words from one on, n of them.
func count(from uint64, n int) []uint64 {
	var out []uint64
	for i := range n {
		out = append(out, from+uint64(i))
	}
	return out
}

// segment is one of a quota and of so many words, none of which is 0, with something of all that it can have.
func segment(quota, words int) api.Object {
	l := api.Label{{Cat: 4, Lev: api.Lev0}, {Cat: 6, Lev: api.Lev3}}
	return api.Object{Id: 7, Kind: api.KdSegment, Label: l, Quota: quota, Fixed: words%2 == 1, Data: count(1001, words)}
}

// other is a sound object of a kind with something of all that it can have.
func other(kind int) api.Object {
	o := api.Object{Id: 9, Kind: kind, Label: pair(6, api.Lev3), Quota: 5, Fixed: kind != api.KdThread}
	switch kind {
	case api.KdSegment:
		o.Data = count(1001, 20)
	case api.KdContainer:
		o.Links = []uint64{1, 5, 1 << 40, topId}
	case api.KdSpace:
		o.Maps = []api.Map{{Va: 1, N: 2, Cont: 3, Seg: 4, Off: 5, Write: true}, {Va: 9, N: 1, Cont: 6, Seg: 7}}
	case api.KdThread:
		o.Label = api.Label{{Cat: 3, Lev: api.Star}, {Cat: 9, Lev: api.Lev0}}
		o.Thread = thread()
	case api.KdGate:
		o.Gate = api.Gate{Grant: pair(3, api.Star), Clear: pair(3, api.Lev2), Space: api.Ref{Cont: 41, Id: 42}, Pc: 43, Arg: 44}
	case api.KdDevice:
		o.In, o.Out = count(60, 5), count(70, 7)
	}
	return o
}

// thread is one that has something of all that a thread can have.
func thread() api.Thread {
	t := api.Thread{
		Pc: 21, Clear: pair(3, api.Lev3), Space: api.Ref{Cont: 22, Id: 23}, Handler: 24, Vector: 25,
		State: api.ThWait, Wait: api.Wait{Ref: api.Ref{Cont: 26, Id: 27}, Index: 28, Val: 29, Dev: true},
		Alerts: []uint64{30, 31, 30}, Span: api.Span{Lo: 32, Hi: 40},
		Labs: [4]api.Label{pair(5, api.Star), nil, pair(7, api.Lev2), pair(8, api.Lev3)},
	}
	t.Regs[3] = 8
	return t
}

// sized is an object of other words.
func sized(o api.Object, data []uint64) api.Object {
	o.Data = data
	return o
}

// anyWords are n words that are drawn, some of them 0.
func anyWords(draw *rand.Rand, n int) []uint64 {
	var out []uint64
	for range n {
		out = append(out, draw.Uint64()>>draw.Intn(64)*uint64(draw.Intn(4)))
	}
	return out
}

// resizeOf is Resize by the chapter's words.
func resizeOf(o api.Object, n int) (api.Object, api.Errno) {
	if o.Kind != api.KdSegment {
		return o, api.ErrKind
	}
	if n < 0 {
		return o, api.ErrArg
	}
	if n > pageLen*(o.Quota-1) {
		return o, api.ErrQuota
	}
	var data []uint64
	for at := range n {
		if at < len(o.Data) {
			data = append(data, o.Data[at])
		} else {
			data = append(data, 0)
		}
	}
	return sized(o, data), api.OK
}

// getOf is Get by the chapter's words.
func getOf(o api.Object, at uint64) (uint64, api.Errno) {
	if o.Kind != api.KdSegment {
		return 0, api.ErrKind
	}
	for place, word := range o.Data {
		if uint64(place) == at {
			return word, api.OK
		}
	}
	return 0, api.ErrRange
}

// putOf is Put by the chapter's words.
func putOf(o api.Object, at, v uint64) (api.Object, api.Errno) {
	if _, err := getOf(o, at); err != api.OK {
		return o, err
	}
	data := slices.Clone(o.Data)
	data[at] = v
	return sized(o, data), api.OK
}

// isKept tells whether a label that is fit may be a segment's.
func isKept(l api.Label) bool {
	return len(l) <= topPairs && !slices.ContainsFunc(l, func(p api.Pair) bool { return p.Lev == api.Star || p.Lev == api.Above })
}

// copyOf is Copy by the chapter's words.
func copyOf(o api.Object, id uint64, l api.Label, quota int) (api.Object, api.Errno) {
	if o.Kind != api.KdSegment {
		return api.Object{}, api.ErrKind
	}
	if quota < 1 || (len(o.Data)+pageLen-1)/pageLen > quota-1 {
		return api.Object{}, api.ErrQuota
	}
	if id < 1 || id > topId || quota > topQuota || !isKept(l) {
		return api.Object{}, api.ErrArg
	}
	return api.Object{Id: id, Kind: api.KdSegment, Label: l, Quota: quota, Data: o.Data}, api.OK
}

// pageOf is Page by the chapter's words. Numbers of pages that no segment has are kept from being multiplied.
func pageOf(o api.Object, n int) [pageLen]uint64 {
	var out [pageLen]uint64
	if o.Kind != api.KdSegment || n < 0 || n > topQuota {
		return out
	}
	for at := range out {
		if pageLen*n+at < len(o.Data) {
			out[at] = o.Data[pageLen*n+at]
		}
	}
	return out
}

// changed is an object behind something that is done to it.
func changed(o api.Object, does func(*api.Object)) api.Object {
	out := deep(o)
	does(&out)
	return out
}

// deep is a copy that shares no memory, whatever it is of; a list that is there, but empty, stays so.
func deep[T any](x T) T {
	out := reflect.New(reflect.TypeOf(x)).Elem()
	deepInto(out, reflect.ValueOf(x))
	return out.Interface().(T)
}

// deepInto copies one value into another.
func deepInto(to, from reflect.Value) {
	switch from.Kind() {
	case reflect.Struct:
		for i := range from.NumField() {
			deepInto(to.Field(i), from.Field(i))
		}
	case reflect.Array:
		for i := range from.Len() {
			deepInto(to.Index(i), from.Index(i))
		}
	case reflect.Slice:
		if !from.IsNil() {
			to.Set(reflect.MakeSlice(from.Type(), from.Len(), from.Len()))
		}
		if from.Type().Elem().Kind() == reflect.Uint64 {
			reflect.Copy(to, from)
			return
		}
		for i := range from.Len() {
			deepInto(to.Index(i), from.Index(i))
		}
	default:
		to.Set(from)
	}
}

// stretch is where a list stands in memory, with all that it has room for.
type stretch struct {
	from, to uintptr
	where    string
}

// stretches are where the lists of a value stand.
func stretches(v reflect.Value, where string) []stretch {
	var out []stretch
	switch v.Kind() {
	case reflect.Struct:
		for i := range v.NumField() {
			out = append(out, stretches(v.Field(i), where+"."+v.Type().Field(i).Name)...)
		}
	case reflect.Slice:
		if v.Cap() > 0 {
			from := v.Pointer()
			out = append(out, stretch{from, from + uintptr(v.Cap())*v.Type().Elem().Size(), where})
		}
		fallthrough
	case reflect.Array:
		if k := v.Type().Elem().Kind(); k != reflect.Uint64 {
			for i := range v.Len() {
				out = append(out, stretches(v.Index(i), fmt.Sprintf("%s[%d]", where, i))...)
			}
		}
	}
	return out
}

// shared tells a list that a call told and that shares memory with another one, "" if there is none. What was given may share with itself.
func shared(given, told []stretch) string {
	type mine struct {
		stretch
		told bool
	}
	var all []mine
	for _, s := range given {
		all = append(all, mine{s, false})
	}
	for _, s := range told {
		all = append(all, mine{s, true})
	}
	slices.SortFunc(all, func(a, b mine) int { return cmp.Compare(a.from, b.from) })
	var endGiven, endTold uintptr
	for _, s := range all {
		if s.from < endTold || s.told && s.from < endGiven {
			return s.where
		}
		if s.told {
			endTold = max(endTold, s.to)
		} else {
			endGiven = max(endGiven, s.to)
		}
	}
	return ""
}

// empties makes each list that is none an empty one.
func empties(v reflect.Value) {
	switch v.Kind() {
	case reflect.Struct:
		for i := range v.NumField() {
			empties(v.Field(i))
		}
	case reflect.Array:
		for i := range v.Len() {
			empties(v.Index(i))
		}
	case reflect.Slice:
		if v.Len() == 0 {
			v.Set(reflect.MakeSlice(v.Type(), 0, 3))
		}
		for i := range v.Len() {
			empties(v.Index(i))
		}
	}
}

// noLists tells whether a value has no list that is there, but empty.
func noLists(v reflect.Value) bool {
	switch v.Kind() {
	case reflect.Struct:
		for i := range v.NumField() {
			if !noLists(v.Field(i)) {
				return false
			}
		}
	case reflect.Array, reflect.Slice:
		if v.Kind() == reflect.Slice && v.Len() == 0 && !v.IsNil() {
			return false
		}
		for i := range v.Len() {
			if !noLists(v.Index(i)) {
				return false
			}
		}
	}
	return true
}
