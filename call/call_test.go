package call_test

import (
	"reflect"
	"testing"

	"curtilage/api"
	"curtilage/call"
	"curtilage/obj"
)

// house is a Root with a thread (2) that has one number left, and a segment (3).
func house() api.World {
	secret := api.Label{{Cat: 7, Lev: api.Lev3}}
	t := api.Thread{Span: api.Span{Lo: 5, Hi: 6}, Labs: [4]api.Label{nil, nil, nil, secret}}
	return api.World{Key: 4, Root: 1, Objects: []api.Object{
		{Id: 1, Kind: api.KdContainer, Quota: 4, Links: []uint64{2, 3}},
		{Id: 2, Kind: api.KdThread, Quota: 1, Thread: t},
		{Id: 3, Kind: api.KdSegment, Quota: 1},
	}}
}

// What a call tells is its value, or the error that it throws; there may be no call.
func TestAnswer(t *testing.T) {
	c := call.New(house(), 2, api.Args{})
	if w, value, err, ok := c.Answer(func() uint64 { return 8 }); value != 8 || err != api.OK || !ok || !obj.Same(w, house()) {
		t.Errorf("value %d, error %d, %v", value, err, ok)
	}
	thrown := func() uint64 { call.Must(api.OK); call.Need(true, api.ErrArg); call.Must(api.ErrFull); return 8 }
	if w, value, err, ok := c.Answer(thrown); value != 0 || err != api.ErrFull || !ok || !obj.Same(w, house()) {
		t.Errorf("thrown: value %d, error %d, %v", value, err, ok)
	}
	if w, value, err, ok := c.Answer(nil); value != 0 || err != api.OK || ok || !obj.Same(w, house()) {
		t.Errorf("none: value %d, error %d, %v", value, err, ok)
	}
}

// A register is 0 to 3; of others that is told.
func TestLab(t *testing.T) {
	c := call.New(house(), 2, api.Args{0, 3, 4, 1 << 32})
	if l := c.Lab(1); c.Lab(0) != nil || !reflect.DeepEqual(l, house().Objects[1].Thread.Labs[3]) {
		t.Errorf("register 3 is %v", l)
	}
	for _, at := range []int{2, 3} {
		if _, _, err, _ := c.Answer(func() uint64 { c.Lab(at); return 0 }); err != api.ErrArg {
			t.Errorf("argument %d: error %d", at, err)
		}
	}
}

// A name is taken only together with a place: where there is none, the numbers are as they were.
func TestAttach(t *testing.T) {
	c := call.New(house(), 2, api.Args{})
	attach := func(quota int) func() uint64 {
		return func() uint64 { return c.Attach(1, api.Object{Kind: api.KdSegment, Quota: quota}) }
	}
	if w, id, err, _ := c.Answer(attach(2)); id != 0 || err != api.ErrQuota || !obj.Same(w, house()) {
		t.Errorf("without room: Id %d, error %d", id, err)
	}
	c = call.New(house(), 2, api.Args{})
	w, id, err, _ := c.Answer(attach(1))
	if _, found := obj.Find(w, id); err != api.OK || !found {
		t.Errorf("Id %d, error %d", id, err)
	}
	c = call.New(w, 2, api.Args{})
	if _, id, err, _ := c.Answer(attach(1)); id != 0 || err != api.ErrSerial {
		t.Errorf("without numbers: Id %d, error %d", id, err)
	}
}
