package call_test

import (
	"reflect"
	"testing"

	"curtilage/api"
	"curtilage/call"
	"curtilage/obj"
	"curtilage/perm"
)

// house is a Root with a thread (2) that has one number left, and a segment (3).
func house() api.World {
	secret := api.Label{{Cat: 7, Lev: api.Lev3}}
	t := api.Thread{Span: api.Span{Lo: 5, Hi: 6}, Labs: [4]api.Label{nil, nil, nil, secret}}
	return api.World{Key: 4, Root: 1, Objects: []api.Object{
		{Id: 1, Kind: api.KdContainer, Quota: 4, Links: []uint64{2, 3}},
		{Id: 2, Kind: api.KdThread, Quota: 1, Thread: t},
		{Id: 3, Kind: api.KdSegment, Quota: 1},
	}}
}

// What a call tells is its value, or the error that it throws; there may be no call.
func TestAnswer(t *testing.T) {
	c := call.New(house(), 2, api.Args{})
	if w, value, err, ok := c.Answer(func() uint64 { return 8 }); value != 8 || err != api.OK || !ok || !obj.Same(w, house()) {
		t.Errorf("value %d, error %d, %v", value, err, ok)
	}
	thrown := func() uint64 { call.Must(api.OK); call.Need(true, api.ErrArg); call.Must(api.ErrFull); return 8 }
	if w, value, err, ok := c.Answer(thrown); value != 0 || err != api.ErrFull || !ok || !obj.Same(w, house()) {
		t.Errorf("thrown: value %d, error %d, %v", value, err, ok)
	}
	if w, value, err, ok := c.Answer(nil); value != 0 || err != api.OK || ok || !obj.Same(w, house()) {
		t.Errorf("none: value %d, error %d, %v", value, err, ok)
	}
}

// A register is 0 to 3; of others that is told.
func TestLab(t *testing.T) {
	c := call.New(house(), 2, api.Args{0, 3, 4, 1 << 32})
	if l := c.Lab(1); c.Lab(0) != nil || !reflect.DeepEqual(l, house().Objects[1].Thread.Labs[3]) {
		t.Errorf("register 3 is %v", l)
	}
	for _, at := range []int{2, 3} {
		if _, _, err, _ := c.Answer(func() uint64 { c.Lab(at); return 0 }); err != api.ErrArg {
			t.Errorf("argument %d: error %d", at, err)
		}
	}
}

// What is put in a register stands there, and in no other one; the world has it once the caller is laid there.
func TestRegister(t *testing.T) {
	c := call.New(house(), 2, api.Args{1})
	*c.Register(0) = api.Label{{Cat: 9, Lev: api.Star}}
	if l := c.Thread.Labs; len(l[0])+len(l[2]) > 0 || !reflect.DeepEqual(c.Lab(0), l[1]) || l[1][0].Cat != 9 || !obj.Same(c.World, house()) {
		t.Errorf("the registers are %v", l)
	}
	w, value, err, ok := c.Answer(func() uint64 { return c.Lays(c.Object, api.OK) })
	if o, _ := obj.Find(w, 2); value != 0 || err != api.OK || !ok || !obj.SameOne(o, c.Object) {
		t.Errorf("value %d, error %d: %v", value, err, o)
	}
}

// Beside an error nothing is laid.
func TestLays(t *testing.T) {
	c := call.New(house(), 2, api.Args{})
	c.Thread.Pc = 5
	w, value, err, ok := c.Answer(func() uint64 { return c.Lays(c.Object, api.ErrRange) })
	if value != 0 || err != api.ErrRange || !ok || !obj.Same(w, house()) {
		t.Errorf("value %d, error %d", value, err)
	}
}

// Names are of the caller's numbers, one after another; the world's are others only with the caller.
func TestName(t *testing.T) {
	c := call.New(house(), 2, api.Args{8, 9})
	if n := c.Name(); perm.Number(4, n) != 5 || c.Thread.Span != (api.Span{Lo: 6, Hi: 6}) || !obj.Same(c.World, house()) {
		t.Errorf("the name is %d, %v are left", n, c.Thread.Span)
	}
	if _, value, err, _ := c.Answer(c.Name); value != 0 || err != api.ErrSerial {
		t.Errorf("one more: %d, error %d", value, err)
	}
	if c.Named() != (api.Ref{Cont: 8, Id: 9}) {
		t.Errorf("named is %v", c.Named())
	}
}

// A name is taken only together with a place: where there is none, the numbers are as they were.
func TestAttach(t *testing.T) {
	c := call.New(house(), 2, api.Args{})
	attach := func(quota int) func() uint64 {
		return func() uint64 { return c.Attach(1, api.Object{Kind: api.KdSegment, Quota: quota}) }
	}
	if w, id, err, _ := c.Answer(attach(2)); id != 0 || err != api.ErrQuota || !obj.Same(w, house()) {
		t.Errorf("without room: Id %d, error %d", id, err)
	}
	c = call.New(house(), 2, api.Args{})
	w, id, err, _ := c.Answer(attach(1))
	if _, found := obj.Find(w, id); err != api.OK || !found {
		t.Errorf("Id %d, error %d", id, err)
	}
	c = call.New(w, 2, api.Args{})
	if _, id, err, _ := c.Answer(attach(1)); id != 0 || err != api.ErrSerial {
		t.Errorf("without numbers: Id %d, error %d", id, err)
	}
}
