package kobj

import (
	"fmt"
	"math"
	"math/bits"
	"math/rand"
	"reflect"
	"slices"
	"testing"

	"curtilage/api"
	"curtilage/obj"
	"curtilage/perm"
	"curtilage/tree"
)

// The containers of the house, what its rows ask for in them, and its threads.
const (
	open, secretBox, trustedBox, fullBox, spentBox, waryBox = 2, 3, 4, 5, 6, 7

	owner, secret, trusted, poor = 51, 52, 53, 54
)

// house is a small world: containers that all may see and change, that are secret (7 at 3), trusted (7 at 0), full, spent and wary (7 at 2), and threads: one without pairs (self), one that owns 7, one at 3 in it, one at 0, and one that is cleared for nothing more than it has.
func house() api.World {
	links := []uint64{open, secretBox, trustedBox, fullBox, spentBox, waryBox, 10, 11, 12, 13, 14, 15, self, owner, secret, trusted, poor}
	objects := []api.Object{
		box(root, 900, "-", links...),
		box(open, 60, "-", 20, 21, 22, 23, 25), box(23, 20, "-", 24), thing(api.KdSegment, 24, 3, "-"),
		box(secretBox, 60, "7:3", 30, 31, 32), box(trustedBox, 60, "7:0", 40, 41), box(spentBox, 3, "-", 60), box(waryBox, 60, "7:2"),
		thing(api.KdSegment, 10, 5, "-"), thing(api.KdSegment, 11, 5, "7:3"), thing(api.KdSegment, 12, 5, "7:0"),
		fixed(thing(api.KdGate, 13, 2, "-")), thing(api.KdDevice, 14, 2, "-"), thing(api.KdSpace, 15, 2, "-"),
		thing(api.KdSegment, 20, 4, "-"), fixed(thing(api.KdGate, 21, 1, "7:3")), thread(22, "-", "-"), thing(api.KdGate, 25, 1, "-"),
		thing(api.KdSegment, 30, 4, "7:3"), fixed(thing(api.KdSegment, 31, 4, "7:3")), thread(32, "7:*", "7:3"),
		thing(api.KdSegment, 40, 4, "7:0"), thing(api.KdSegment, 41, 4, "-"), thing(api.KdSegment, 60, 2, "-"),
		thread(self, "-", "7:3,8:3", "-", "7:3", "7:0", "8:*"), thread(owner, "7:*", "7:3", "-", "7:3", "7:0", "7:*"),
		thread(secret, "7:3", "7:3", "-", "7:3", "7:0", "7:2"), thread(trusted, "7:0", "7:2", "-", "7:3", "7:0", "7:2"),
		thread(poor, "-", "-", "-", "7:3", "7:0", "8:2"),
	}
	crowd := box(fullBox, 80, "-")
	for n := range topLinks {
		id := uint64(1000 + n)
		crowd.Links = append(crowd.Links, id)
		objects = append(objects, thing(api.KdGate, id, 1, "-"))
	}
	w := world(append(objects, crowd)...)
	for at := range 20 {
		of(w, 20).Data = append(of(w, 20).Data, uint64(at)<<33+7)
	}
	of(w, 14).In, of(w, 14).Out = []uint64{4}, []uint64{5, 6}
	return w
}

// crowded is a Root of the greatest Quota with as many objects as there can be, in containers of 60 gates, and a thread, a device and an empty container in the Root.
func crowded() api.World {
	top := box(root, topRoot, "-", self, 60, 61)
	objects := []api.Object{thread(self, "-", "-"), thing(api.KdDevice, 60, 1, "-"), box(61, 1, "-")}
	next := uint64(100)
	for left := topRoot - 4; left > 0; {
		d := box(next, 0, "-")
		n := min(left-1, 60)
		for at := range uint64(n) {
			d.Links = append(d.Links, next+1+at)
			objects = append(objects, thing(api.KdGate, next+1+at, 1, "-"))
		}
		d.Quota = 1 + n
		top.Links = append(top.Links, d.Id)
		objects = append(objects, d)
		next, left = next+1000, left-d.Quota
	}
	slices.Sort(top.Links)
	return world(append([]api.Object{top}, objects...)...)
}

// The worlds of these tests are whole.
func TestWholes(t *testing.T) {
	if !tree.Fit(house()) {
		t.Error("the house is not whole")
	}
	if w := crowded(); !tree.Fit(w) || len(w.Objects) != topRoot {
		t.Errorf("the crowded world has %d objects", len(w.Objects))
	}
}

// Example 1: a segment of quota 2 lies in the Root; there is no call 99.
func TestExample(t *testing.T) {
	w := world(box(root, 9, "-", self), thread(self, "-", "-", "-"))
	behind, id, err, ok := Do(w, self, api.CaMkSeg, api.Args{root, 0, 2, 3})
	o, found := obj.Find(behind, id)
	if err != api.OK || !ok || !found || o.Quota != 2 || !slices.Equal(o.Data, []uint64{0, 0, 0}) {
		t.Errorf("%v, %v, error %d, %v", o, found, err, ok)
	}
	if !slices.Contains(of(behind, root).Links, id) {
		t.Error("it does not lie there")
	}
	if _, _, _, ok := Do(w, self, 99, api.Args{}); ok {
		t.Error("there is a call 99")
	}
}

// P20.1: the calls are 13 to 24, no others; of others the world is as it was, the value 0, the error none.
func TestNumbers(t *testing.T) {
	w := house()
	numbers := []int{math.MinInt, math.MinInt32, -1000, 99, 100, 1000, 1 << 32, 1<<32 + api.CaMkSeg, math.MaxInt32, math.MaxInt}
	for n := -60; n <= 60; n++ {
		numbers = append(numbers, n)
	}
	for _, n := range numbers {
		for _, a := range []api.Args{{root, 0, 2, 3}, {root, 10, 2}, {2, 1}, {}, {top, top, top, top, top, top, top}} {
			behind, value, err, ok := Do(w, self, n, a)
			if want := n >= 13 && n <= 24; ok != want {
				t.Errorf("call %d: %v", n, ok)
			}
			if !ok && (value != 0 || err != api.OK || !obj.Same(behind, w)) {
				t.Errorf("call %d: value %d, error %d, or another world", n, value, err)
			}
		}
	}
}

// row is a call by a thread, and the error that is written out for it.
type row struct {
	by   uint64
	deed deed
	want api.Errno
}

// holdRows holds rows in a world against what is written out, and against the chapter's words.
func holdRows(t *testing.T, w api.World, rows map[string][]row) {
	t.Helper()
	for name, all := range rows {
		for _, r := range all {
			if _, _, err := hold(t, w, r.by, r.deed); err != r.want {
				t.Errorf("%s: %v by %d: error %d, not %d", name, r.deed, r.by, err, r.want)
			}
		}
	}
}

// The calls, with their arguments.
func mkSeg(d, k, quota, words uint64) deed { return deedOf(api.CaMkSeg, d, k, quota, words) }
func mkCont(d, k, quota uint64) deed       { return deedOf(api.CaMkCont, d, k, quota) }
func mkSpace(d, k uint64) deed             { return deedOf(api.CaMkSpace, d, k) }
func mkThread(d, k, c uint64) deed         { return deedOf(api.CaMkThread, d, k, c, 5, 6, 7, 8) }
func mkGate(d, k, g, c uint64) deed        { return deedOf(api.CaMkGate, d, k, g, c, 5, 6) }
func unref(d, o uint64) deed               { return deedOf(api.CaUnref, d, o) }
func link(d, o, e uint64) deed             { return deedOf(api.CaLink, d, o, e) }
func fix(d, o uint64) deed                 { return deedOf(api.CaFix, d, o) }
func move(d, o uint64, n int) deed         { return deedOf(api.CaMove, d, o, uint64(n)) }
func kind(d, o uint64) deed                { return deedOf(api.CaKind, d, o) }
func list(d, i uint64) deed                { return deedOf(api.CaList, d, i) }
func quota(d, o uint64) deed               { return deedOf(api.CaQuota, d, o) }

// making are calls that make an object of the label of a register in a container.
func making(d, k uint64) []deed {
	return []deed{mkSeg(d, k, 2, 3), mkCont(d, k, 2), mkSpace(d, k), mkThread(d, k, k), mkGate(d, k, k, k)}
}

// P20.1, P20.3: what is made, part by part, and the numbers that are left to the caller; nothing else is another one but the container's links.
func TestMade(t *testing.T) {
	w := house()
	first := perm.Name(w.Key, self<<20)
	regs := func(arg uint64) (out [16]uint64) { out[1] = arg; return out }
	for name, r := range map[string]struct {
		by   uint64
		deed deed
		want api.Object
	}{
		"a segment":             {self, mkSeg(open, 0, 2, 3), api.Object{Kind: 1, Quota: 2, Data: []uint64{0, 0, 0}}},
		"one without words":     {self, mkSeg(open, 0, 1, 0), api.Object{Kind: 1, Quota: 1}},
		"a secret one":          {self, mkSeg(root, 1, 4, 1), api.Object{Kind: 1, Quota: 4, Label: lab("7:3"), Data: []uint64{0}}},
		"a container":           {self, mkCont(open, 0, 7), api.Object{Kind: 2, Quota: 7}},
		"a secret one of these": {self, mkCont(open, 1, 1), api.Object{Kind: 2, Quota: 1, Label: lab("7:3")}},
		"an address space":      {self, mkSpace(open, 1), api.Object{Kind: 3, Quota: 1, Label: lab("7:3")}},
		"a thread": {self, mkThread(open, 0, 1), api.Object{Kind: 4, Quota: 1, Thread: api.Thread{
			Regs: regs(6), Pc: 5, Clear: lab("7:3"), Space: api.Ref{Cont: 7, Id: 8}, Span: api.Span{Lo: self<<20 + 15<<16, Hi: 51 << 20}}}},
		"a gate": {self, mkGate(open, 1, 0, 1), api.Object{Kind: 5, Quota: 1, Label: lab("7:3"),
			Gate: api.Gate{Clear: lab("7:3"), Space: api.Ref{Cont: 71, Id: 72}, Pc: 5, Arg: 6}}},
		"a thread of all words": {self, deedOf(api.CaMkThread, root, 1, 1, top, top-1, top-2, top-3), api.Object{Kind: 4, Quota: 1, Label: lab("7:3"), Thread: api.Thread{
			Regs: regs(top - 1), Pc: top, Clear: lab("7:3"), Space: api.Ref{Cont: top - 2, Id: top - 3}, Span: api.Span{Lo: self<<20 + 15<<16, Hi: 51 << 20}}}},
		"a gate of all words": {self, deedOf(api.CaMkGate, root, 0, 0, 0, top, top-1), api.Object{Kind: 5, Quota: 1,
			Gate: api.Gate{Space: api.Ref{Cont: 71, Id: 72}, Pc: top, Arg: top - 1}}},
	} {
		behind, id, err := hold(t, w, r.by, r.deed)
		r.want.Id = first
		if err != api.OK || id != first || of(behind, id) == nil || !reflect.DeepEqual(*of(behind, id), r.want) {
			t.Errorf("%s: error %d, Id %d: %v, not %v", name, err, id, of(behind, id), r.want)
			continue
		}
		left := api.Span{Lo: self<<20 + 1, Hi: 51 << 20}
		if r.want.Kind == api.KdThread {
			left.Hi = r.want.Thread.Span.Lo
		}
		was := with(behind, self, func(o *api.Object) { o.Thread.Span.Lo--; o.Thread.Span.Hi = 51 << 20 })
		if of(behind, self).Thread.Span != left || !obj.Same(was, linked(with(put(w, r.want), self, func(*api.Object) {}), r.deed.a[0], id)) {
			t.Errorf("%s: %v are left, or something else is another one", name, of(behind, self).Thread.Span)
		}
	}
}

// put is a world with an object more.
func put(w api.World, o api.Object) api.World {
	w = deep(w)
	w.Objects = append(w.Objects, o)
	slices.SortFunc(w.Objects, byId)
	return w
}

// P20.1: who owns may give what it owns to threads and gates.
func TestOwned(t *testing.T) {
	w := house()
	behind, id, err := hold(t, w, owner, mkThread(secretBox, 3, 3))
	if o := of(behind, id); err != api.OK || !reflect.DeepEqual(o.Label, lab("7:*")) || !reflect.DeepEqual(o.Thread.Clear, lab("7:*")) {
		t.Errorf("error %d: %v", err, o)
	}
	behind, id, err = hold(t, w, owner, mkGate(open, 0, 3, 1))
	if o := of(behind, id); err != api.OK || o.Label != nil || !reflect.DeepEqual(o.Gate.Grant, lab("7:*")) || !reflect.DeepEqual(o.Gate.Clear, lab("7:3")) {
		t.Errorf("error %d: %v", err, o)
	}
}

// registers are words above 3.
func registers() []uint64 {
	return []uint64{4, 5, 15, 16, 1 << 32, 1<<32 + 1, 1 << 63, 1<<63 + 1, top - 3, top}
}

// P20.1: a register above 3 is ErrArg, each alone and several at once, ahead of all else that is wrong.
func TestRegisters(t *testing.T) {
	spent := with(house(), self, func(o *api.Object) { o.Thread.Span = api.Span{} })
	for _, w := range []api.World{house(), spent} {
		for _, bad := range registers() {
			for _, d := range []uint64{open, secretBox, trustedBox, fullBox, top} {
				rows := []row{
					{self, mkSeg(d, bad, 2, 3), api.ErrArg}, {self, mkSeg(d, bad, 0, top), api.ErrArg}, {self, mkCont(d, bad, 2), api.ErrArg},
					{self, mkCont(d, bad, top), api.ErrArg}, {self, mkSpace(d, bad), api.ErrArg},
				}
				for _, other := range []uint64{0, 1, 2, 3, bad} {
					rows = append(rows, row{self, mkThread(d, bad, other), api.ErrArg}, row{self, mkThread(d, other, bad), api.ErrArg},
						row{self, mkGate(d, bad, other, other), api.ErrArg}, row{self, mkGate(d, other, bad, other), api.ErrArg},
						row{self, mkGate(d, other, other, bad), api.ErrArg}, row{self, mkGate(d, bad, bad, other), api.ErrArg})
				}
				holdRows(t, w, map[string][]row{"a register": rows})
			}
		}
	}
}

// P20.1, P20.3: each register is the label of what is made.
func TestEachRegister(t *testing.T) {
	w := with(house(), self, func(o *api.Object) {
		o.Thread.Labs = [4]api.Label{lab("7:2"), lab("8:2"), lab("7:2,8:3"), lab("7:3,8:3")}
	})
	for k := range uint64(4) {
		for _, d := range making(open, k) {
			behind, id, err := hold(t, w, self, d)
			if o := of(behind, id); err != api.OK || !reflect.DeepEqual(o.Label, of(w, self).Thread.Labs[k]) {
				t.Errorf("%v: error %d: %v", d, err, o)
			}
		}
		behind, id, err := hold(t, w, self, mkThread(open, 0, k))
		want := []api.Errno{0, api.ErrLabel, 0, 0}[k]
		if err != want || err == api.OK && !reflect.DeepEqual(of(behind, id).Thread.Clear, of(w, self).Thread.Labs[k]) {
			t.Errorf("a thread cleared for register %d: error %d", k, err)
		}
		behind, id, err = hold(t, w, self, mkGate(open, 3, k, 3))
		if err != api.OK || !reflect.DeepEqual(of(behind, id).Gate.Grant, of(w, self).Thread.Labs[k]) {
			t.Errorf("a gate that grants register %d: error %d", k, err)
		}
	}
}

// P20.1: quotas and words at, just above and far above their bounds, and numbers that would be small ones if they were cut.
func TestQuotas(t *testing.T) {
	rows := map[string][]row{"in a Root with much room": {}}
	add := func(d deed, want api.Errno) {
		rows["in a Root with much room"] = append(rows["in a Root with much room"], row{self, d, want})
	}
	for _, q := range []uint64{1, 2, 3, 100, 500} {
		add(mkCont(root, 0, q), api.OK)
		add(mkSeg(root, 0, q, 0), api.OK)
		add(mkSeg(root, 0, q, (q-1)*pageLen), api.OK)
		for _, words := range []uint64{(q-1)*pageLen + 1, q * pageLen, 65519, 65520, 65521, 65535, 65536, 65537, 1 << 31, 1 << 32, 1 << 63, top} {
			add(mkSeg(root, 0, q, words), api.ErrArg)
		}
	}
	for _, q := range []uint64{901, 1024, 4095, topQuota} {
		add(mkCont(root, 0, q), api.ErrQuota)
		add(mkSeg(root, 0, q, 0), api.ErrQuota)
		add(mkSeg(root, 0, q, (q-1)*pageLen), api.ErrQuota)
		add(mkSeg(root, 0, q, (q-1)*pageLen+1), api.ErrArg)
	}
	add(mkSeg(root, 0, topQuota, 65520), api.ErrQuota)
	add(mkSeg(root, 0, topQuota, 65521), api.ErrArg)
	add(mkSeg(root, 0, topQuota, 65536), api.ErrArg)
	add(mkSeg(root, 0, topQuota, 65537), api.ErrArg)
	add(mkSeg(root, 0, topQuota, top), api.ErrArg)
	for _, q := range []uint64{0, topQuota + 1, 5000, 1 << 31, 1 << 32, 1<<32 + 2, 1 << 63, 1<<63 + 2, top - 1, top} {
		add(mkCont(root, 0, q), api.ErrArg)
		for _, words := range []uint64{0, 1, 16, 65536, top} {
			add(mkSeg(root, 0, q, words), api.ErrArg)
		}
	}
	holdRows(t, house(), rows)
}

// P20.1: the Room of a container up to its last page.
func TestRoom(t *testing.T) {
	rows := map[string][]row{
		"room for 32":    {{self, mkCont(open, 0, 32), api.OK}, {self, mkCont(open, 0, 33), api.ErrQuota}},
		"no room":        {{self, mkCont(spentBox, 0, 1), api.ErrQuota}, {self, mkSeg(spentBox, 0, 1, 0), api.ErrQuota}, {self, mkSpace(spentBox, 0), api.ErrQuota}, {self, mkThread(spentBox, 0, 0), api.ErrQuota}, {self, mkGate(spentBox, 0, 0, 0), api.ErrQuota}},
		"the last page":  {{self, mkCont(23, 0, 16), api.OK}, {self, mkCont(23, 0, 17), api.ErrQuota}, {self, mkSeg(23, 0, 16, 240), api.OK}, {self, mkSeg(23, 0, 17, 0), api.ErrQuota}},
		"a list is full": {},
	}
	for _, d := range making(fullBox, 0) {
		rows["a list is full"] = append(rows["a list is full"], row{self, d, api.ErrFull})
	}
	rows["a list is full"] = append(rows["a list is full"], row{self, mkCont(fullBox, 0, 900), api.ErrFull}, row{self, mkCont(fullBox, 0, 4097), api.ErrArg})
	holdRows(t, house(), rows)
	one := with(house(), fullBox, func(d *api.Object) { d.Links = d.Links[:topLinks-1] })
	one.Objects = slices.DeleteFunc(one.Objects, func(o api.Object) bool { return o.Id == 1000+topLinks-1 })
	for _, d := range making(fullBox, 0) {
		behind, _, err := hold(t, one, self, d)
		if err != api.OK || len(of(behind, fullBox).Links) != topLinks {
			t.Errorf("%v, the last link: error %d", d, err)
		}
	}
}

// P20.1: in a world with as many objects as there can be nothing is made, until something goes.
func TestFullWorld(t *testing.T) {
	w := crowded()
	for _, at := range []uint64{root, 61, 100} {
		for _, d := range []deed{mkSeg(at, 0, 1, 0), mkCont(at, 0, 1), mkSpace(at, 0), mkThread(at, 0, 0), mkGate(at, 0, 0, 0)} {
			if _, _, err := hold(t, w, self, d); err != api.ErrQuota {
				t.Errorf("%v: error %d", d, err)
			}
		}
	}
	w, _, err := hold(t, w, self, unref(100, 101))
	if err != api.OK || len(w.Objects) != topRoot-1 {
		t.Fatalf("error %d, %d objects", err, len(w.Objects))
	}
	w, _, err = hold(t, w, self, mkSpace(100, 0))
	if err != api.OK || len(w.Objects) != topRoot {
		t.Errorf("error %d, %d objects", err, len(w.Objects))
	}
	if _, _, err = hold(t, w, self, mkSpace(100, 0)); err != api.ErrQuota {
		t.Errorf("error %d", err)
	}
}

// notThere are ids of no container: of none, of other kinds, and of no object.
func notThere() []uint64 {
	return []uint64{0, 10, 13, 14, 15, self, owner, 20, 999, topId, topId + 1, 1 << 63, top}
}

// P20.1: a container that is none or hidden is ErrName, one that may be seen and not changed ErrLabel where it is to be written.
func TestContainers(t *testing.T) {
	rows := map[string][]row{}
	for _, d := range notThere() {
		for _, call := range append(making(d, 0), unref(d, 10), link(d, 13, open), link(root, 13, d), fix(d, 10), move(d, 10, 1), kind(d, 10), list(d, 0), quota(d, 10)) {
			rows["no container"] = append(rows["no container"], row{self, call, api.ErrName})
		}
	}
	for _, call := range append(making(secretBox, 0), unref(secretBox, 30), unref(secretBox, 10), link(secretBox, 31, open), link(root, 13, secretBox), fix(secretBox, 30), move(secretBox, 30, 1), kind(secretBox, 30), list(secretBox, 0), list(secretBox, 99), quota(secretBox, 30)) {
		rows["hidden"] = append(rows["hidden"], row{self, call, api.ErrName})
	}
	for _, call := range append(making(trustedBox, 0), unref(trustedBox, 40), unref(trustedBox, 41), unref(trustedBox, 10), link(root, 13, trustedBox), fix(trustedBox, 41), fix(trustedBox, 40), move(trustedBox, 41, 1), move(trustedBox, 10, 9999)) {
		rows["to be seen, not to be changed"] = append(rows["to be seen, not to be changed"], row{self, call, api.ErrLabel})
	}
	for _, call := range append(making(open, 1), unref(open, 20), link(root, 13, open), fix(open, 20), move(open, 20, 1), unref(root, 10)) {
		rows["so it is for a secret thread, of all that is open"] = append(rows["so it is for a secret thread, of all that is open"], row{secret, call, api.ErrLabel})
	}
	for _, call := range []deed{kind(trustedBox, 40), list(trustedBox, 1), quota(trustedBox, 41), kind(open, 20), list(open, 0), quota(open, 20)} {
		rows["not to be written"] = append(rows["not to be written"], row{self, call, api.OK}, row{owner, call, api.OK})
	}
	for _, call := range append(making(open, 0), unref(open, 20), unref(secretBox, 30), unref(trustedBox, 40), fix(secretBox, 30), fix(trustedBox, 40), fix(trustedBox, 41), move(secretBox, 30, 1), link(root, 13, open), link(secretBox, 31, waryBox), mkSeg(secretBox, 1, 2, 2), mkSeg(trustedBox, 2, 2, 2), mkSeg(trustedBox, 0, 2, 2)) {
		rows["who owns may"] = append(rows["who owns may"], row{owner, call, api.OK})
	}
	for _, call := range []deed{kind(root, 10), list(open, 0), quota(open, 20), mkSpace(open, 0), unref(root, 10)} {
		rows["who is trusted may not see what is not"] = append(rows["who is trusted may not see what is not"], row{trusted, call, api.ErrName})
	}
	for _, call := range []deed{kind(trustedBox, 41), list(trustedBox, 0), mkSeg(trustedBox, 2, 2, 2), mkSeg(trustedBox, 0, 2, 2), unref(trustedBox, 41), unref(trustedBox, 40), fix(trustedBox, 40)} {
		rows["it may change what is trusted"] = append(rows["it may change what is trusted"], row{trusted, call, api.OK})
	}
	holdRows(t, house(), rows)
}

// P20.1: labels that a thread may make things of, and not.
func TestLabels(t *testing.T) {
	rows := map[string][]row{}
	for name, r := range map[string]struct {
		by, d, k uint64
		want     api.Errno
	}{
		"its own":                       {self, open, 0, api.OK},
		"more":                          {self, open, 1, api.OK},
		"less":                          {self, open, 2, api.ErrLabel},
		"one that owns":                 {self, open, 3, api.ErrLabel},
		"more than its clearance":       {poor, open, 1, api.ErrLabel},
		"so in another category":        {poor, open, 3, api.ErrLabel},
		"of a secret thread":            {secret, secretBox, 1, api.OK},
		"of a secret thread, less":      {secret, secretBox, 0, api.ErrLabel},
		"of a secret thread, 2":         {secret, secretBox, 3, api.ErrLabel},
		"of an owner, at 1":             {owner, open, 0, api.OK},
		"of an owner, at 3":             {owner, open, 1, api.OK},
		"of an owner, at 0":             {owner, open, 2, api.OK},
		"of an owner, what it owns":     {owner, open, 3, api.ErrLabel},
		"of a trusted thread, at 0":     {trusted, trustedBox, 2, api.OK},
		"of a trusted thread, at 1":     {trusted, trustedBox, 0, api.OK},
		"of a trusted thread, at 2":     {trusted, trustedBox, 3, api.OK},
		"of a trusted thread, too much": {trusted, trustedBox, 1, api.ErrLabel},
		"it may not lie there":          {owner, secretBox, 0, api.ErrLabel},
		"it may not lie there at 0":     {owner, secretBox, 2, api.ErrLabel},
		"it may not lie there, 2":       {owner, waryBox, 0, api.ErrLabel},
		"it may lie there":              {owner, waryBox, 1, api.OK},
		"it may lie there, too":         {owner, secretBox, 1, api.OK},
	} {
		for _, d := range []deed{mkSeg(r.d, r.k, 2, 3), mkCont(r.d, r.k, 2), mkSpace(r.d, r.k)} {
			rows[name] = append(rows[name], row{r.by, d, r.want})
		}
	}
	holdRows(t, house(), rows)
}

// P20.1: what a gate grants, and clears for, and the two labels of a thread.
func TestSpawned(t *testing.T) {
	rows := map[string][]row{
		"a gate": {
			{self, mkGate(open, 0, 0, 0), api.OK}, {self, mkGate(open, 0, 0, 1), api.OK}, {self, mkGate(open, 0, 1, 1), api.OK}, {self, mkGate(open, 1, 1, 1), api.OK},
			{owner, mkGate(open, 0, 3, 0), api.OK}, {owner, mkGate(open, 1, 3, 3), api.OK}, {owner, mkGate(open, 2, 2, 0), api.OK}},
		"it grants less than the caller has":    {{self, mkGate(open, 0, 2, 1), api.ErrLabel}, {secret, mkGate(secretBox, 1, 0, 1), api.ErrLabel}},
		"it grants what the caller doesn't own": {{self, mkGate(open, 0, 3, 1), api.ErrLabel}, {self, mkGate(open, 1, 3, 3), api.ErrLabel}},
		"it grants more than it clears for":     {{self, mkGate(open, 0, 1, 0), api.ErrLabel}, {owner, mkGate(open, 0, 1, 0), api.ErrLabel}, {owner, mkGate(open, 0, 0, 3), api.ErrLabel}},
		"it clears for more than the caller is": {{poor, mkGate(open, 0, 0, 1), api.ErrLabel}, {poor, mkGate(open, 0, 0, 3), api.ErrLabel}, {trusted, mkGate(trustedBox, 2, 2, 1), api.ErrLabel}},
		"its own label may not be":              {{self, mkGate(open, 2, 0, 1), api.ErrLabel}, {self, mkGate(open, 3, 0, 0), api.ErrLabel}, {owner, mkGate(open, 3, 0, 0), api.ErrLabel}, {poor, mkGate(open, 1, 0, 0), api.ErrLabel}},
		"neither may be":                        {{self, mkGate(open, 3, 3, 3), api.ErrLabel}, {poor, mkGate(open, 1, 1, 1), api.ErrLabel}},
		"a thread": {
			{self, mkThread(open, 0, 0), api.OK}, {self, mkThread(open, 0, 1), api.OK}, {self, mkThread(open, 1, 1), api.OK},
			{owner, mkThread(open, 3, 1), api.OK}, {owner, mkThread(open, 2, 0), api.OK}, {owner, mkThread(secretBox, 3, 0), api.OK}, {owner, mkThread(waryBox, 3, 3), api.OK}},
		"of less than the caller has":       {{self, mkThread(open, 2, 1), api.ErrLabel}, {secret, mkThread(secretBox, 0, 1), api.ErrLabel}},
		"of what the caller doesn't own":    {{self, mkThread(open, 3, 1), api.ErrLabel}, {self, mkThread(open, 3, 3), api.ErrLabel}},
		"of more than it is cleared for":    {{self, mkThread(open, 1, 0), api.ErrLabel}, {owner, mkThread(open, 1, 0), api.ErrLabel}, {owner, mkThread(open, 0, 3), api.ErrLabel}},
		"cleared for more than the caller":  {{poor, mkThread(open, 0, 1), api.ErrLabel}, {poor, mkThread(open, 1, 1), api.ErrLabel}, {poor, mkThread(open, 0, 3), api.ErrLabel}},
		"it may not lie there":              {{owner, mkThread(secretBox, 0, 1), api.ErrLabel}, {owner, mkThread(waryBox, 0, 0), api.ErrLabel}, {owner, mkThread(secretBox, 2, 2), api.ErrLabel}},
		"a gate that may not lie there":     {{owner, mkGate(secretBox, 0, 3, 1), api.ErrLabel}, {owner, mkGate(secretBox, 1, 3, 1), api.OK}},
		"a thread of its own clearance, 7:": {{trusted, mkThread(trustedBox, 2, 3), api.OK}, {trusted, mkThread(trustedBox, 2, 1), api.ErrLabel}},
	}
	holdRows(t, house(), rows)
}

// P20.1: numbers that are spent, that have one left, and that can't be parted.
func TestSpans(t *testing.T) {
	const base = 200 << 20
	for _, n := range []uint64{0, 1, 2, 14, 15, 16, 17, 31, 32, 33, 255, 256, 1 << 40} {
		w := with(house(), self, func(o *api.Object) { o.Thread.Span = api.Span{Lo: base, Hi: base + n} })
		for _, d := range []deed{mkSeg(open, 0, 2, 3), mkCont(open, 0, 2), mkSpace(open, 0), mkGate(open, 0, 0, 0), mkThread(open, 0, 0)} {
			behind, id, err := hold(t, w, self, d)
			want, kept := api.OK, base+n
			if n == 0 || n < shares && d.n == api.CaMkThread {
				want = api.ErrSerial
			}
			if err != want {
				t.Errorf("%v of %d numbers: error %d, not %d", d, n, err, want)
			}
			if err != api.OK {
				continue
			}
			if d.n == api.CaMkThread {
				kept -= n / shares
				if got := of(behind, id).Thread.Span; got != (api.Span{Lo: kept, Hi: base + n}) {
					t.Errorf("of %d numbers the thread has %v", n, got)
				}
			}
			if got := of(behind, self).Thread.Span; id != perm.Name(w.Key, base) || got != (api.Span{Lo: base + 1, Hi: kept}) {
				t.Errorf("%v of %d numbers: Id %d, %v are left", d, n, id, got)
			}
		}
	}
}

// P20.1: the first and the last number that there are, and names by unlike keys.
func TestNames(t *testing.T) {
	for _, key := range []uint64{0, 5, 1 << 63, top} {
		for _, lo := range []uint64{0, 1, 1 << 60, topId - 1} {
			w := world(box(root, 9, "-", self), thread(self, "-", "-"))
			w.Key = key
			of(w, self).Thread.Span = api.Span{Lo: lo, Hi: lo + 1}
			behind, id, err := hold(t, w, self, mkSpace(root, 0))
			if err != api.OK || id < 1 || id > topId || perm.Number(key, id) != lo || of(behind, id) == nil {
				t.Errorf("of %d by %d: error %d, Id %d", lo, key, err, id)
			}
			if _, _, err := hold(t, behind, self, mkSpace(root, 0)); err != api.ErrSerial {
				t.Errorf("the second of %d: error %d", lo, err)
			}
		}
	}
}

// P20.3: what is made has an Id that nothing had, whoever makes it, also when what was made is gone, and what is refused takes none.
func TestNeverTwice(t *testing.T) {
	w := world(box(root, topRoot, "-", self), thread(self, "-", "-"))
	given := map[uint64]bool{root: true, self: true}
	makers := []uint64{self}
	for round := range 300 {
		by := makers[round%len(makers)]
		d := making(root, 0)[round%5]
		if round%7 == 3 {
			d.a[0] = self
		}
		behind, id, err := hold(t, w, by, d)
		if err != api.OK {
			if id != 0 || !obj.Same(behind, w) {
				t.Errorf("round %d: %v: error %d tells %d", round, d, err, id)
			}
			continue
		}
		if given[id] {
			t.Fatalf("round %d: %d was given twice", round, id)
		}
		given[id] = true
		if d.n == api.CaMkThread && len(makers) < 6 {
			makers = append(makers, id)
		} else {
			behind, _, _ = hold(t, behind, by, unref(root, id))
		}
		w = behind
	}
	if len(makers) < 6 || len(given) < 200 {
		t.Errorf("%d threads, %d names", len(makers), len(given))
	}
}

// flaw is something that can be wrong with a call, and what makes it so.
type flaw struct {
	what  string
	err   api.Errno
	spoil func(*api.World, *api.Args)
}

// scene is a call that goes well, and its flaws, in the chapter's order.
type scene struct {
	world api.World
	deed  deed
	flaws []flaw
}

// relabel sets a category of an object's label.
func relabel(id, cat uint64, lev int) func(*api.World, *api.Args) {
	return func(w *api.World, _ *api.Args) {
		o := of(*w, id)
		o.Label = slices.DeleteFunc(o.Label, func(p api.Pair) bool { return p.Cat == cat })
		o.Label = append(o.Label, api.Pair{Cat: cat, Lev: lev})
		slices.SortFunc(o.Label, func(a, b api.Pair) int { return int(a.Cat) - int(b.Cat) })
	}
}

// arg sets an argument.
func arg(at int, v uint64) func(*api.World, *api.Args) {
	return func(_ *api.World, a *api.Args) { a[at] = v }
}

// change does something to an object.
func change(id uint64, does func(*api.Object)) func(*api.World, *api.Args) {
	return func(w *api.World, _ *api.Args) { does(of(*w, id)) }
}

// stage is the world that flaws are laid in: a thread that owns 9; a container (2) with what is named in it (20), of a label, and one (3) to link it to. What lies in that is at 3 in 7, 8 and 9, so that the container may have any label.
func stage(label string) api.World {
	me := thread(self, "9:*", "7:3,8:3,9:3", "7:3,8:3,9:3", "-", "7:0", "9:*")
	return world(box(root, 900, "-", 2, 3, self), me, box(2, 200, "-", 20), box(3, 200, "-", 30),
		thing(api.KdGate, 20, 2, label), thing(api.KdGate, 30, 1, "7:3,8:3,9:3"))
}

// filled lets a container have as many links as it may, and as much room as it had.
func filled(d uint64) func(*api.World, *api.Args) {
	return func(w *api.World, _ *api.Args) {
		in := of(*w, d)
		var crowd []api.Object
		for n := uint64(500); len(in.Links) < topLinks; n++ {
			in.Links = append(in.Links, n)
			crowd = append(crowd, thing(api.KdGate, n, 1, "7:3,8:3,9:3"))
		}
		in.Quota += len(crowd)
		w.Objects = append(w.Objects, crowd...)
	}
}

// crammed lets a container have no room left: what is laid in it has all.
func crammed(d uint64) func(*api.World, *api.Args) {
	return func(w *api.World, _ *api.Args) { of(*w, d).Quota -= room(*w, *of(*w, d)) }
}

// hidden and kept are a container that the thread of the stage may not see, with all that lies in it, and one that it may not change.
func hidden(d uint64) flaw {
	return flaw{"hidden", api.ErrName, func(w *api.World, a *api.Args) {
		for _, id := range append([]uint64{d}, of(*w, d).Links...) {
			relabel(id, 7, api.Lev3)(w, a)
		}
	}}
}
func kept(d uint64) flaw { return flaw{"to be seen alone", api.ErrLabel, relabel(d, 8, api.Lev0)} }

// makings are scenes of calls that make an object.
func makings() []scene {
	spent := flaw{"spent", api.ErrSerial, change(self, func(o *api.Object) { o.Thread.Span = api.Span{} })}
	unparted := flaw{"not to be parted", api.ErrSerial, change(self, func(o *api.Object) { o.Thread.Span.Hi = o.Thread.Span.Lo + 15 })}
	place := flaw{"place", api.ErrLabel, func(w *api.World, a *api.Args) {
		relabel(2, 9, api.Lev3)(w, a)
		of(*w, self).Thread.Labs[0] = lab("7:3,8:3")
	}}
	behind := []flaw{place, {"full", api.ErrFull, filled(2)}, {"room", api.ErrQuota, crammed(2)}}
	register := func(at int) flaw { return flaw{fmt.Sprint("register ", at), api.ErrArg, arg(at, 4)} }
	label := func(at int, k uint64) flaw { return flaw{fmt.Sprint("label ", at), api.ErrLabel, arg(at, k)} }
	row := func(all ...[]flaw) []flaw { return slices.Concat(all...) }
	dir := []flaw{hidden(2), kept(2)}
	unsound := func(at int, v uint64) []flaw { return []flaw{{"not sound", api.ErrArg, arg(at, v)}} }
	w := stage("7:3,8:3,9:3")
	return []scene{
		{w, mkSeg(2, 0, 2, 3), row([]flaw{register(1)}, dir, []flaw{label(1, 2)}, unsound(2, 0), unsound(3, 99), []flaw{spent}, behind)},
		{w, mkSeg(2, 0, 2, 3), row([]flaw{register(1)}, dir, []flaw{label(1, 3)}, unsound(2, top), unsound(3, top), []flaw{spent}, behind)},
		{w, mkCont(2, 0, 2), row([]flaw{register(1)}, dir, []flaw{label(1, 2)}, unsound(2, 4097), []flaw{spent}, behind)},
		{w, mkCont(2, 0, 2), row([]flaw{register(1)}, dir, []flaw{label(1, 3)}, unsound(2, top), []flaw{spent}, behind)},
		{w, mkSpace(2, 0), row([]flaw{register(1)}, dir, []flaw{label(1, 3)}, []flaw{spent}, behind)},
		{w, mkGate(2, 0, 0, 0), row([]flaw{register(1), register(2), register(3)}, dir, []flaw{label(1, 2), label(2, 2)}, []flaw{spent}, behind)},
		{w, mkGate(2, 0, 0, 0), row([]flaw{register(3), register(2)}, dir, []flaw{label(1, 3), label(3, 1)}, []flaw{spent}, behind)},
		{w, mkThread(2, 0, 0), row([]flaw{register(1), register(2)}, dir, []flaw{label(1, 2)}, []flaw{unparted, spent}, behind)},
		{w, mkThread(2, 0, 0), row([]flaw{register(2), register(1)}, dir, []flaw{label(2, 1)}, []flaw{spent}, behind)},
	}
}

// others are scenes of the other calls.
func others() []scene {
	gone := flaw{"not there", api.ErrName, arg(1, 30)}
	boxed := flaw{"a container", api.ErrKind, func(w *api.World, a *api.Args) {
		*w = linked(put(*w, box(21, 2, "7:3,8:3,9:3")), 2, 21)
		a[1] = 21
	}}
	loose := flaw{"not fixed", api.ErrBusy, change(20, func(o *api.Object) { o.Fixed = false })}
	there := flaw{"there", api.ErrThere, func(w *api.World, _ *api.Args) {
		if of(*w, 20).Fixed {
			*w = linked(*w, 3, 20)
		}
	}}
	place := flaw{"place", api.ErrLabel, func(w *api.World, a *api.Args) {
		relabel(3, 9, api.Lev3)(w, a)
		for _, id := range []uint64{20, 21} {
			if of(*w, id) != nil {
				relabel(id, 9, api.Lev2)(w, a)
			}
		}
	}}
	stuck := flaw{"not to change", api.ErrLabel, relabel(20, 8, api.Lev0)}
	frozen := flaw{"fixed", api.ErrBusy, func(w *api.World, _ *api.Args) { of(*w, 20).Fixed = true }}
	seen, fast := stage("9:3"), with(stage("7:3,8:3,9:3"), 20, func(o *api.Object) { o.Fixed = true })
	return []scene{
		{seen, unref(2, 20), []flaw{hidden(2), kept(2), gone}},
		{fast, link(2, 20, 3), []flaw{hidden(2), gone, hidden(3), kept(3), boxed, loose, there}},
		{fast, link(2, 20, 3), []flaw{hidden(2), gone, hidden(3), kept(3), boxed, loose, place, {"full", api.ErrFull, filled(3)}, {"room", api.ErrQuota, crammed(3)}}},
		{seen, fix(2, 20), []flaw{hidden(2), kept(2), gone, stuck}},
		{seen, fix(2, 20), []flaw{hidden(2), kept(2), gone, {"a thread that may not be changed", api.ErrLabel, shifted(2, thread(22, "7:3,8:0", "7:3,8:3,9:3"))}, {"a thread", api.ErrKind, shifted(2, thread(23, "9:*", "7:3,8:3,9:3"))}}},
		{seen, move(2, 20, 1), []flaw{hidden(2), kept(2), gone, stuck, frozen, {"far", api.ErrArg, arg(2, 4097)}, {"room", api.ErrQuota, crammed(2)}}},
		{seen, move(2, 20, 1), []flaw{hidden(2), kept(2), gone, stuck, frozen, {"far below", api.ErrArg, arg(2, top-4096)}, {"too few", api.ErrQuota, arg(2, top-1)}}},
		{seen, kind(2, 20), []flaw{hidden(2), gone}},
		{seen, quota(2, 20), []flaw{hidden(2), gone}},
		{seen, list(2, 0), []flaw{hidden(2), {"no link", api.ErrEmpty, arg(1, 1)}}},
	}
}

// shifted lets a thing lie in a container, and be what is named.
func shifted(d uint64, o api.Object) func(*api.World, *api.Args) {
	return func(w *api.World, a *api.Args) {
		*w = linked(put(*w, o), d, o.Id)
		a[1] = o.Id
	}
}

// some is whichever flaws of a row a number's bits name.
func some(flaws []flaw, choice int) []flaw {
	var out []flaw
	for at, f := range flaws {
		if choice>>at&1 == 1 {
			out = append(out, f)
		}
	}
	return out
}

// P20.1: which error is told where several could be: of up to three of a call's flaws together the first one is the answer; without any it goes well.
func TestOrder(t *testing.T) {
	for _, s := range append(makings(), others()...) {
		for choice := range 1 << len(s.flaws) {
			if bits.OnesCount(uint(choice)) > 3 {
				continue
			}
			now, a := deep(s.world), s.deed.a
			flaws := some(s.flaws, choice)
			want, names := api.OK, []string{}
			for _, f := range slices.Backward(flaws) {
				f.spoil(&now, &a)
				want, names = f.err, append(names, f.what)
			}
			if slices.Contains(names, "there") && slices.Contains(names, "not fixed") {
				// What is not fixed can't lie in two containers.
				continue
			}
			if !tree.Fit(now) {
				t.Fatalf("%v, %q: the world is not whole", s.deed, names)
			}
			if _, _, err := hold(t, now, self, deed{s.deed.n, a}); err != want {
				t.Errorf("%v, %q: error %d, not %d", deed{s.deed.n, a}, names, err, want)
			}
		}
	}
}

// P20.1, P20.4: Unref of the last link, of one of several, of a container with all in it, of the caller, and of the container that it lies in.
func TestUnref(t *testing.T) {
	several, _, _ := hold(t, house(), self, link(root, 13, open))
	nest := world(box(root, 90, "-", 2), box(2, 60, "-", 3, 4, 20), box(3, 20, "-", self, 20, 30), fixed(thing(api.KdGate, 20, 1, "-")), thing(api.KdSegment, 30, 1, "-"), box(4, 9, "-"), thread(self, "-", "-"))
	for name, r := range map[string]struct {
		world api.World
		by    uint64
		deed  deed
		gone  []uint64
	}{
		"the last link":                     {house(), self, unref(root, 10), []uint64{10}},
		"of what the caller may not see":    {house(), self, unref(root, 11), []uint64{11}},
		"of what it may not change":         {house(), self, unref(root, 12), []uint64{12}},
		"of what is fixed":                  {house(), self, unref(root, 13), []uint64{13}},
		"one of several":                    {several, self, unref(root, 13), nil},
		"the other one":                     {several, self, unref(open, 13), nil},
		"a container, and what is in it":    {house(), self, unref(open, 23), []uint64{23, 24}},
		"one that is hidden":                {house(), self, unref(root, secretBox), []uint64{secretBox, 30, 31, 32}},
		"with one link of several":          {several, self, unref(root, open), []uint64{open, 20, 21, 22, 23, 24, 25}},
		"another thread":                    {house(), self, unref(root, owner), []uint64{owner}},
		"the caller itself":                 {house(), self, unref(root, self), []uint64{self}},
		"the caller itself, deeper":         {nest, self, unref(3, self), []uint64{self}},
		"the container that it lies in":     {nest, self, unref(2, 3), []uint64{3, 30, self}},
		"a container further up":            {nest, self, unref(root, 2), []uint64{2, 3, 4, 20, 30, self}},
		"what lies beside it":               {nest, self, unref(3, 20), nil},
		"an empty container":                {nest, self, unref(2, 4), []uint64{4}},
		"as an owner, in what is secret":    {house(), owner, unref(secretBox, 31), []uint64{31}},
		"as a trusted thread, what is more": {house(), trusted, unref(trustedBox, 41), []uint64{41}},
	} {
		if !tree.Fit(r.world) {
			t.Fatalf("%s: the world is not whole", name)
		}
		behind, value, err := hold(t, r.world, r.by, r.deed)
		left := slices.DeleteFunc(idsOf(r.world), func(id uint64) bool { return slices.Contains(r.gone, id) })
		if err != api.OK || value != 0 || !slices.Equal(idsOf(behind), left) {
			t.Errorf("%s: value %d, error %d: there are %v", name, value, err, idsOf(behind))
		}
	}
	holdRows(t, house(), map[string][]row{
		"what does not lie there": {{self, unref(root, 20), api.ErrName}, {self, unref(open, 10), api.ErrName}, {self, unref(root, root), api.ErrName}, {self, unref(open, open), api.ErrName}, {self, unref(open, root), api.ErrName}, {self, unref(root, 999), api.ErrName}, {self, unref(root, 0), api.ErrName}, {self, unref(root, top), api.ErrName}},
	})
}

// P20.1: Link of what may be seen and not changed, of what is hidden, and to containers that are none, hidden, full and spent.
func TestLink(t *testing.T) {
	holdRows(t, house(), map[string][]row{
		"from the Root":                      {{self, link(root, 13, open), api.OK}, {self, link(root, 13, 23), api.OK}, {owner, link(root, 13, open), api.OK}},
		"what may not be seen":               {{self, link(open, 21, root), api.OK}, {self, link(open, 21, 23), api.OK}},
		"to where all is secret":             {{secret, link(open, 21, secretBox), api.OK}, {secret, link(root, 13, secretBox), api.ErrLabel}},
		"from where the caller may not":      {{secret, link(secretBox, 31, root), api.ErrLabel}, {secret, link(root, 13, open), api.ErrLabel}},
		"from what is secret":                {{owner, link(secretBox, 31, open), api.OK}, {owner, link(secretBox, 31, waryBox), api.OK}, {self, link(secretBox, 31, open), api.ErrName}},
		"to a container that is hidden":      {{self, link(root, 13, secretBox), api.ErrName}, {self, link(root, 13, 999), api.ErrName}, {self, link(root, 13, 13), api.ErrName}, {self, link(root, 13, top), api.ErrName}, {self, link(root, 13, 0), api.ErrName}},
		"to one that may not be changed":     {{self, link(root, 13, trustedBox), api.ErrLabel}, {self, link(open, 21, trustedBox), api.ErrLabel}},
		"a container, or a thread":           {{self, link(root, open, 23), api.ErrKind}, {self, link(root, 23, open), api.ErrName}, {self, link(open, 22, root), api.ErrKind}, {self, link(root, self, open), api.ErrKind}, {self, link(root, secretBox, open), api.ErrKind}},
		"what is not fixed":                  {{self, link(root, 10, open), api.ErrBusy}, {self, link(root, 14, open), api.ErrBusy}, {self, link(root, 15, open), api.ErrBusy}, {self, link(open, 25, root), api.ErrBusy}, {self, link(root, 10, root), api.ErrBusy}},
		"to where it is":                     {{self, link(root, 13, root), api.ErrThere}, {self, link(open, 21, open), api.ErrThere}},
		"it may not lie there":               {{owner, link(root, 13, secretBox), api.ErrLabel}, {owner, link(root, 13, waryBox), api.ErrLabel}},
		"to one that is full":                {{self, link(root, 13, fullBox), api.ErrFull}, {self, link(open, 21, fullBox), api.ErrFull}},
		"to one without room":                {{self, link(root, 13, spentBox), api.ErrQuota}, {self, link(open, 21, spentBox), api.ErrQuota}},
		"of what does not lie there":         {{self, link(root, 21, 23), api.ErrName}, {self, link(open, 13, root), api.ErrName}, {self, link(root, root, open), api.ErrName}, {self, link(root, 999, open), api.ErrName}, {self, link(23, 23, open), api.ErrName}},
		"of what lies there by another name": {{owner, link(trustedBox, 31, open), api.ErrName}, {owner, link(open, 31, secretBox), api.ErrName}},
	})
	w, _, _ := hold(t, house(), self, link(open, 21, 23))
	holdRows(t, w, map[string][]row{
		"by the new name": {{self, link(23, 21, root), api.OK}, {self, link(23, 21, open), api.ErrThere}, {self, unref(open, 21), api.OK}, {self, kind(23, 21), api.OK}},
	})
	// A container that is fixed keeps its Quota, and takes what has room in it.
	w = with(house(), open, func(d *api.Object) { d.Fixed = true })
	holdRows(t, w, map[string][]row{
		"to a container that is fixed": {{self, link(root, 13, open), api.OK}, {self, mkCont(open, 0, 32), api.OK}, {self, mkCont(open, 0, 33), api.ErrQuota}, {self, unref(open, 20), api.OK}},
		"itself":                       {{self, link(root, open, 23), api.ErrKind}, {self, fix(root, open), api.ErrKind}, {self, move(root, open, 1), api.ErrBusy}, {self, unref(root, open), api.OK}},
	})
}

// P20.1: Fix, of each kind, and of what is hidden, or may not be changed.
func TestFix(t *testing.T) {
	holdRows(t, house(), map[string][]row{
		"segments, spaces, gates, devices": {{self, fix(root, 10), api.OK}, {self, fix(root, 15), api.OK}, {self, fix(open, 25), api.OK}, {self, fix(root, 14), api.OK}},
		"what is fixed":                    {{self, fix(root, 13), api.OK}, {owner, fix(secretBox, 31), api.OK}},
		"containers":                       {{self, fix(root, open), api.ErrKind}, {self, fix(open, 23), api.ErrKind}, {owner, fix(root, secretBox), api.ErrKind}},
		"threads":                          {{self, fix(open, 22), api.ErrKind}, {self, fix(root, self), api.ErrKind}, {owner, fix(secretBox, 32), api.ErrKind}},
		"what may not be seen":             {{self, fix(root, 11), api.ErrLabel}, {self, fix(open, 21), api.ErrLabel}, {self, fix(root, secretBox), api.ErrLabel}, {self, fix(root, owner), api.ErrLabel}},
		"what may not be changed":          {{self, fix(root, 12), api.ErrLabel}, {self, fix(root, trustedBox), api.ErrLabel}, {self, fix(root, trusted), api.ErrLabel}},
		"by an owner":                      {{owner, fix(root, 11), api.OK}, {owner, fix(root, 12), api.OK}, {owner, fix(open, 21), api.OK}},
		"what lies elsewhere":              {{self, fix(root, 20), api.ErrName}, {self, fix(open, 10), api.ErrName}, {self, fix(root, root), api.ErrName}, {self, fix(root, 999), api.ErrName}},
	})
}

// P20.1: Move, of each kind, by numbers of either sign, up to what there is and beyond.
func TestMove(t *testing.T) {
	w := house()
	all := room(w, *of(w, root))
	rows := map[string][]row{
		"a segment of 20 words in a Quota of 4": {{self, move(open, 20, -1), api.OK}, {self, move(open, 20, -2), api.ErrQuota}, {self, move(open, 20, 32), api.OK}, {self, move(open, 20, 33), api.ErrQuota}, {self, move(open, 20, 0), api.OK}},
		"an empty one of 5":                     {{self, move(root, 10, -4), api.OK}, {self, move(root, 10, -5), api.ErrQuota}, {self, move(root, 10, -6), api.ErrQuota}, {self, move(root, 10, all), api.OK}, {self, move(root, 10, all+1), api.ErrQuota}},
		"a container, up to what lies in it":    {{self, move(root, spentBox, -1), api.ErrQuota}, {self, move(root, spentBox, 1), api.OK}, {self, move(root, open, -32), api.OK}, {self, move(root, open, -33), api.ErrQuota}, {self, move(open, 23, -16), api.OK}, {self, move(open, 23, -17), api.ErrQuota}},
		"a thread":                              {{self, move(root, self, 4), api.OK}, {self, move(open, 22, 4), api.OK}, {self, move(root, self, -1), api.ErrQuota}},
		"a device, an address space, a gate":    {{self, move(root, 14, -1), api.OK}, {self, move(root, 14, -2), api.ErrQuota}, {self, move(root, 15, -1), api.OK}, {self, move(open, 25, 3), api.OK}, {self, move(open, 25, -1), api.ErrQuota}},
		"what is fixed":                         {{self, move(root, 13, 1), api.ErrBusy}, {self, move(root, 13, -1), api.ErrBusy}, {self, move(root, 13, 0), api.ErrBusy}, {self, move(root, 13, 4097), api.ErrBusy}},
		"what may not be changed":               {{self, move(root, 11, 1), api.ErrLabel}, {self, move(root, 12, 1), api.ErrLabel}, {self, move(open, 21, 1), api.ErrLabel}, {self, move(root, owner, 1), api.ErrLabel}, {self, move(root, secretBox, 0), api.ErrLabel}},
		"by an owner":                           {{owner, move(root, 11, 1), api.OK}, {owner, move(root, 12, -1), api.OK}, {owner, move(root, secretBox, 1), api.OK}, {owner, move(secretBox, 32, 1), api.OK}, {owner, move(open, 21, 1), api.ErrBusy}},
		"what lies elsewhere":                   {{self, move(root, 20, 1), api.ErrName}, {self, move(open, 10, 1), api.ErrName}, {self, move(root, root, 1), api.ErrName}, {self, move(root, 999, 1), api.ErrName}},
		"too far":                               {},
	}
	for _, n := range []int{-topQuota, topQuota, -4000, 4000} {
		rows["too far"] = append(rows["too far"], row{self, move(root, 10, n), api.ErrQuota})
	}
	for _, n := range []int{-topQuota - 1, topQuota + 1, 1 << 32, 1<<32 + 1, -1 << 32, 1 - 1<<32, math.MaxInt, math.MinInt, math.MinInt + 1} {
		rows["too far"] = append(rows["too far"], row{self, move(root, 10, n), api.ErrArg})
	}
	holdRows(t, w, rows)
	behind, _, _ := hold(t, w, self, move(open, 20, -1))
	further, _, _ := hold(t, behind, self, move(open, 20, 30))
	if a, b := of(behind, 20).Quota, of(further, 20).Quota; a != 3 || b != 33 || of(further, open).Quota != 60 {
		t.Errorf("Quotas %d, %d", a, b)
	}
}

// P20.1: the first link of a list is the 0th; behind the last one there is none.
func TestList(t *testing.T) {
	w := house()
	for _, d := range []uint64{root, open, fullBox, trustedBox} {
		links := of(w, d).Links
		for i, id := range links {
			if _, value, err := hold(t, w, self, list(d, uint64(i))); err != api.OK || value != id {
				t.Errorf("link %d of %d: %d, error %d", i, d, value, err)
			}
		}
		n := uint64(len(links))
		for _, i := range []uint64{n, n + 1, 64, 65, 1 << 32, 1<<32 + 1, 1 << 63, 1<<63 + 1, top - 1, top} {
			if _, value, err := hold(t, w, self, list(d, i)); err != api.ErrEmpty || value != 0 {
				t.Errorf("link %d of %d: %d, error %d", i, d, value, err)
			}
		}
	}
	holdRows(t, w, map[string][]row{
		"of an empty container": {{self, list(waryBox, 0), api.ErrName}, {owner, list(waryBox, 0), api.ErrEmpty}, {secret, list(waryBox, 0), api.ErrEmpty}},
		"of a secret one":       {{self, list(secretBox, 0), api.ErrName}, {secret, list(secretBox, 0), api.OK}, {secret, list(secretBox, 3), api.ErrEmpty}},
		"not to be changed":     {{secret, list(root, 0), api.OK}, {secret, list(open, 5), api.ErrEmpty}, {trusted, list(open, 0), api.ErrName}},
	})
}

// P20.1: Kind and Quota of all kinds, of what is hidden itself, and in what is hidden.
func TestKindAndQuota(t *testing.T) {
	w := house()
	for _, r := range []struct{ d, id, kind, quota uint64 }{
		{root, 10, 1, 5}, {root, 11, 1, 5}, {root, 12, 1, 5}, {root, 13, 5, 2}, {root, 14, 6, 2}, {root, 15, 3, 2}, {root, open, 2, 60}, {root, secretBox, 2, 60},
		{root, owner, 4, 1}, {root, self, 4, 1}, {root, trusted, 4, 1}, {open, 21, 5, 1}, {open, 20, 1, 4}, {trustedBox, 40, 1, 4}, {fullBox, 1063, 5, 1},
	} {
		if behind, value, err := hold(t, w, self, kind(r.d, r.id)); value != r.kind || err != api.OK || !obj.Same(behind, w) {
			t.Errorf("the Kind of %d: %d, error %d", r.id, value, err)
		}
		if behind, value, err := hold(t, w, self, quota(r.d, r.id)); value != r.quota || err != api.OK || !obj.Same(behind, w) {
			t.Errorf("the Quota of %d: %d, error %d", r.id, value, err)
		}
	}
	for _, r := range []struct{ d, id uint64 }{{secretBox, 30}, {secretBox, 999}, {root, 30}, {root, root}, {root, 20}, {10, 10}, {999, 10}, {0, 0}, {top, top}, {open, open}, {root, 0}, {root, top}} {
		for _, d := range []deed{kind(r.d, r.id), quota(r.d, r.id)} {
			if _, value, err := hold(t, w, self, d); value != 0 || err != api.ErrName {
				t.Errorf("%v: %d, error %d", d, value, err)
			}
		}
	}
}

// labels are all of two categories, from a level on.
func labels(from int) []api.Label {
	var out []api.Label
	for a := from; a <= api.Lev3; a++ {
		for b := from; b <= api.Lev3; b++ {
			var l api.Label
			for at, lev := range []int{a, b} {
				if lev != api.Lev1 {
					l = append(l, api.Pair{Cat: uint64(7 + 2*at), Lev: lev})
				}
			}
			out = append(out, l)
		}
	}
	return out
}

// pick is one of a list.
func pick[T any](draw *rand.Rand, from ...T) T { return from[draw.Intn(len(from))] }

// atLeast are labels that are not less than one.
func atLeast(l api.Label, from []api.Label) []api.Label {
	return slices.DeleteFunc(slices.Clone(from), func(x api.Label) bool { return !atMost(l, x) })
}

// drawnThread is a thread of a label.
func drawnThread(draw *rand.Rand, id uint64, l api.Label) api.Object {
	o := thread(id, "-", "-")
	o.Label, o.Quota = l, 1+draw.Intn(2)
	o.Thread.Clear = pick(draw, append(atLeast(l, labels(api.Star)), lab("7:3,9:3"), lab("7:3,9:3"), lab("7:3,9:3"))...)
	for at := range o.Thread.Labs {
		o.Thread.Labs[at] = pick(draw, append(labels(api.Star), l, l, l, o.Thread.Clear, o.Thread.Clear, nil)...)
	}
	o.Thread.Span.Hi = o.Thread.Span.Lo + pick[uint64](draw, 0, 0, 1, 2, 15, 16, 17, 40, 1<<10, 1<<20)
	return o
}

// drawnThing is an object of another kind.
func drawnThing(draw *rand.Rand, id uint64, l api.Label) api.Object {
	o := api.Object{Id: id, Kind: pick(draw, 1, 1, 2, 2, 2, 3, 5, 6), Label: l, Quota: 1 + draw.Intn(3)}
	if o.Kind == api.KdContainer {
		o.Quota = 1 + draw.Intn(40)
	} else {
		o.Fixed = draw.Intn(3) == 0
	}
	if o.Kind == api.KdSegment {
		o.Data = make([]uint64, draw.Intn((o.Quota-1)*pageLen+1))
	}
	return o
}

// drawnWorld is a whole world.
func drawnWorld(t *testing.T, draw *rand.Rand) api.World {
	t.Helper()
	w := world(box(root, 30+draw.Intn(150), "-"))
	w.Key = draw.Uint64()
	of(w, root).Label = pick(draw, lab("-"), lab("-"), lab("7:0,9:0"), lab("9:2"))
	for _, id := range []uint64{self, owner, 90, 91, 4, 92, 5, 93, 94, 6, 95, 7, 96, 97, 8, 98, 99, topId} {
		for range 20 {
			d := pick(draw, idsOf(w)...)
			o := drawnThing(draw, id, pick(draw, append(labels(api.Lev0), make([]api.Label, 16)...)...))
			if id < 90 && id >= self || draw.Intn(6) == 0 && id < topId {
				o = drawnThread(draw, id, pick(draw, slices.Concat(labels(api.Star), make([]api.Label, 10), slices.Repeat([]api.Label{lab("7:*,9:*")}, 10))...))
			}
			if next, err := tree.Attach(w, d, o); err == api.OK {
				w = next
				break
			}
		}
	}
	for range 10 {
		if next, err := tree.Link(w, pick(draw, idsOf(w)...), pick(draw, idsOf(w)...)); err == api.OK {
			w = next
		}
	}
	if !tree.Fit(w) {
		t.Fatal("a drawn world is not whole")
	}
	return w
}

// drawnWord is an argument: an Id mostly of what lies in a container, a register, or a number.
func drawnWord(draw *rand.Rand, w api.World, d uint64, what byte) uint64 {
	if draw.Intn(25) == 0 {
		return pick[uint64](draw, 0, 4, 999, 4096, 4097, 65536, 65537, 1<<32, 1<<63, top)
	}
	switch in := of(w, d); {
	case what == 'o' && in != nil && len(in.Links) > 0 && draw.Intn(8) > 0:
		return pick(draw, in.Links...)
	case what == 'o':
		return pick(draw, idsOf(w)...)
	case what == 'd':
		for range 6 {
			if id := pick(draw, idsOf(w)...); of(w, id).Kind == api.KdContainer {
				return id
			}
		}
		return pick(draw, idsOf(w)...)
	case what == 'k':
		return uint64(draw.Intn(4))
	case what == 'w':
		return uint64(draw.Intn(40))
	case what == 'n':
		return uint64(draw.Intn(12)-5) << pick(draw, 0, 0, 0, 12)
	}
	return uint64(draw.Intn(9))
}

// drawnDeed is a call.
func drawnDeed(draw *rand.Rand, w api.World) deed {
	shapes := map[int]string{13: "dkqw", 14: "dkq", 15: "dk", 16: "dkkwwdo", 17: "dkkkww", 18: "do", 19: "dod", 20: "do", 21: "don", 22: "do", 23: "dq", 24: "do"}
	d := deedOf(13 + draw.Intn(12))
	for at, what := range []byte(shapes[d.n]) {
		d.a[at] = drawnWord(draw, w, d.a[0], what)
	}
	return d
}

// within holds P20.4: of containers only those are other ones that the caller may change, and those that go; of the rest, what it may change, itself, and what is new.
func within(t *testing.T, w, behind api.World, id uint64, d deed) {
	t.Helper()
	caller := *of(w, id)
	for _, o := range w.Objects {
		now := of(behind, o.Id)
		if now != nil && !obj.SameOne(o, *now) && o.Id != id && !changes(caller, o) {
			t.Errorf("%v by %d: %d is another one", d, id, o.Id)
		}
		if now == nil && d.n != api.CaUnref {
			t.Errorf("%v by %d: %d is gone", d, id, o.Id)
		}
	}
	for _, o := range behind.Objects {
		if of(w, o.Id) == nil && !slices.Contains(of(behind, d.a[0]).Links, o.Id) {
			t.Errorf("%v by %d: %d does not lie there", d, id, o.Id)
		}
	}
}

// met counts by call what was wrong first; "" is that nothing was.
type met map[string]map[string]int

// P20.1 to P20.4: drawn rows of calls in drawn worlds, by threads of unlike labels, against the chapter's words; all that can be wrong comes about.
func TestDrawn(t *testing.T) {
	all := make([]met, 8)
	t.Run("rows", func(t *testing.T) {
		for seed := range all {
			t.Run(fmt.Sprint(seed), func(t *testing.T) {
				t.Parallel()
				all[seed] = met{}
				draw := rand.New(rand.NewSource(int64(seed)))
				for range 60 {
					drawnRow(t, draw, all[seed])
				}
			})
		}
	})
	found := met{}
	for _, one := range all {
		for call, counts := range one {
			if found[call] == nil {
				found[call] = map[string]int{}
			}
			for what, n := range counts {
				found[call][what] += n
			}
		}
	}
	dir, lay := []string{"", "no container", "hidden", "not to write"}, []string{"place", "room"}
	news := slices.Concat(dir, lay, []string{"register", "label", "spent"})
	for call, wants := range map[string][]string{
		"CaMkSeg": append(news, "not sound"), "CaMkCont": append(news, "not sound"), "CaMkSpace": news, "CaMkGate": news,
		"CaMkThread": slices.Concat(dir, lay, []string{"register", "label", "not to be parted"}),
		"CaUnref":    append(dir, "not there"), "CaLink": slices.Concat(dir, lay, []string{"not there", "kind", "not fixed", "there"}),
		"CaFix": append(dir, "not there", "not to change", "kind"), "CaMove": append(dir, "not there", "not to change", "fixed", "far", "room"),
		"CaKind": append(dir[:3:3], "not there"), "CaQuota": append(dir[:3:3], "not there"), "CaList": append(dir[:3:3], "no link"),
	} {
		for _, what := range wants {
			if found[call][what] < 5 {
				t.Errorf("%s, %q: %d times", call, what, found[call][what])
			}
		}
	}
}

// drawnRow is a row of calls in a drawn world.
func drawnRow(t *testing.T, draw *rand.Rand, count met) {
	t.Helper()
	w := drawnWorld(t, draw)
	for range 60 {
		threads := slices.DeleteFunc(idsOf(w), func(id uint64) bool { return of(w, id).Kind != api.KdThread })
		if len(threads) == 0 {
			return
		}
		by, d := pick(draw, threads...), drawnDeed(draw, w)
		_, _, wrongs := outcome(w, by, d)
		behind, _, err := hold(t, w, by, d)
		within(t, w, behind, by, d)
		name, what := names()[d.n], ""
		if len(wrongs) > 0 {
			what = wrongs[0].what
		}
		if count[name] == nil {
			count[name] = map[string]int{}
		}
		count[name][what]++
		if t.Failed() {
			t.FailNow()
		}
		if err == api.OK && (d.n != api.CaUnref || draw.Intn(4) == 0) {
			w = behind
		}
	}
}

// P20.3: what a thread is given hangs on its own numbers alone: whatever others make, its next name is the same.
func TestNothingOfOthers(t *testing.T) {
	w := house()
	_, want, _ := hold(t, w, self, mkSpace(open, 0))
	for _, d := range []deed{mkSeg(open, 1, 2, 3), mkThread(secretBox, 1, 1), mkCont(secretBox, 1, 9), unref(secretBox, 31)} {
		w, _, _ = hold(t, w, owner, d)
		if _, id, err := hold(t, w, self, mkSpace(open, 0)); id != want || err != api.OK {
			t.Errorf("behind %v: Id %d, not %d; error %d", d, id, want, err)
		}
	}
}

// deeds are calls of all numbers, those that go well and those that don't, and one that is none.
func deeds() []deed {
	out := []deed{unref(root, 10), unref(root, open), unref(root, self), unref(root, 999), link(root, 13, open), link(root, 10, open), fix(root, 10), fix(root, open),
		move(root, 10, 1), move(root, 13, 1), kind(root, 10), kind(root, 999), list(root, 0), list(root, 99), quota(root, 10), quota(secretBox, 30), {n: 99}, {n: 12}}
	for _, d := range []uint64{open, fullBox, 999} {
		out = append(out, slices.Concat(making(d, 0), making(d, 1), making(d, 4))...)
	}
	return append(out, mkSeg(open, 0, 0, top))
}

// 0.5: no call changes what it is given; what it tells is new memory, each time, and has no empty list.
func TestNewMemory(t *testing.T) {
	w := house()
	roomy(&w)
	was := deep(w)
	for _, by := range []uint64{self, owner} {
		for _, d := range deeds() {
			first, value, err, ok := Do(w, by, d.n, d.a)
			again, valueAgain, errAgain, okAgain := Do(w, by, d.n, d.a)
			if !reflect.DeepEqual(w, was) {
				t.Fatalf("%v: what it is given is another one", d)
			}
			if !reflect.DeepEqual(first, again) || value != valueAgain || err != errAgain || ok != okAgain {
				t.Errorf("%v: another thing is told the second time", d)
			}
			if emptyLists(first) > 0 {
				t.Errorf("%v: empty lists are told", d)
			}
			if overlap(slices.Concat(stretches(w, false), stretches(first, true), stretches(again, true))) {
				t.Errorf("%v: what is told shares memory", d)
			}
		}
	}
}

// odd are worlds that are not whole.
func odd() map[string]api.World {
	bad := api.Label{{Cat: 9, Lev: 9}, {Cat: 7, Lev: -3}, {Cat: 7, Lev: api.Above}, {Cat: 7, Lev: api.Lev1}}
	all := func(does func(*api.Object)) api.World {
		w := house()
		for n := range w.Objects {
			does(&w.Objects[n])
		}
		return w
	}
	turned, twice := house(), house()
	slices.Reverse(turned.Objects)
	twice.Objects = slices.Concat(twice.Objects, twice.Objects)
	return map[string]api.World{
		"nothing": {}, "from the end": turned, "all twice": twice, "one object": {Objects: []api.Object{thread(self, "-", "-")}},
		"Id 0":            {Objects: []api.Object{thread(0, "-", "-")}},
		"labels":          all(func(o *api.Object) { o.Label, o.Thread.Clear, o.Thread.Labs = bad, bad, [4]api.Label{bad, nil, bad} }),
		"all are threads": all(func(o *api.Object) { o.Kind = api.KdThread }),
		"containers":      all(func(o *api.Object) { o.Kind = api.KdContainer }),
		"no kinds":        all(func(o *api.Object) { o.Kind = -o.Kind }),
		"all link all":    all(func(o *api.Object) { o.Links = []uint64{root, open, 10, 14, self, top} }),
		"quotas":          all(func(o *api.Object) { o.Quota = math.MinInt }),
		"great quotas":    all(func(o *api.Object) { o.Quota = math.MaxInt }),
		"states":          all(func(o *api.Object) { o.Thread.State = -1 }),
		"one span":        all(func(o *api.Object) { o.Thread.Span = api.Span{Lo: 0, Hi: top} }),
		"turned spans":    all(func(o *api.Object) { o.Thread.Span = api.Span{Lo: top, Hi: 0} }),
	}
}

// 0.1: of worlds that are not whole, and of ids that are no thread's, all calls end, none panics or changes what it is given.
func TestOdd(t *testing.T) {
	worlds := odd()
	worlds["whole"] = house()
	for name, w := range worlds {
		was := deep(w)
		for _, id := range []uint64{0, root, self, owner, 10, 22, 999, top} {
			for _, d := range deeds() {
				if _, _, _, ok := Do(w, id, d.n, d.a); ok != (d.n >= 13 && d.n <= 24) {
					t.Errorf("%s: %v: %v", name, d, ok)
				}
			}
		}
		if !reflect.DeepEqual(w, was) {
			t.Errorf("%s: what was handed in is another one", name)
		}
	}
}
