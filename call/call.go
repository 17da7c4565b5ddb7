// Package call is what the kernel's calls have in common: the words of shared/doc/20-kobj.md, on which the layers above it lean, too.
package call

import (
	"curtilage/api"
	"curtilage/check"
	"curtilage/obj"
	"curtilage/perm"
	"curtilage/reach"
	"curtilage/serial"
	"curtilage/tree"
)

// Caller is a thread that makes a call, and its arguments. The World is another one only when nothing is left that could be wrong, so that beside an error it is as it was.
type Caller struct {
	api.Object
	World api.World
	Args  api.Args
}

// New is a thread of a world that makes a call.
func New(w api.World, id uint64, a api.Args) Caller {
	t, _ := obj.Find(w, id)
	// No object has the id 0: Drop of it only copies.
	return Caller{t, obj.Drop(w, 0), a}
}

// Need throws an error unless something holds.
func Need(holds bool, err api.Errno) {
	if !holds {
		panic(err)
	}
}

// Must throws an error, if there is one.
func Must(err api.Errno) { Need(err == api.OK, err) }

// caught is a call's value, or the error that it throws.
func caught(made func() uint64) (value uint64, err api.Errno) {
	defer func() {
		if thrown, ok := recover().(api.Errno); ok {
			err = thrown
		}
	}()
	return made(), api.OK
}

// Answer is the world behind a call of the caller, and what the call answers; false: there is none.
func (c *Caller) Answer(made func() uint64) (api.World, uint64, api.Errno, bool) {
	if made == nil {
		return c.World, 0, api.OK, false
	}
	value, err := caught(made)
	return c.World, value, err, true
}

// Register is the label register that an argument names.
func (c *Caller) Register(at int) *api.Label {
	k := c.Args[at]
	Need(k < uint64(len(c.Thread.Labs)), api.ErrArg)
	return &c.Thread.Labs[k]
}

// Lab is the label that stands there.
func (c *Caller) Lab(at int) api.Label { return *c.Register(at) }

// Dir is the container of an Id.
func (c *Caller) Dir(id uint64, write bool) api.Object {
	d, err := reach.Dir(c.World, c.Object, id, write)
	Must(err)
	return d
}

// Named is the name that the first two arguments are, whatever it names.
func (c *Caller) Named() api.Ref { return api.Ref{Cont: c.Args[0], Id: c.Args[1]} }

// Look is what the first two arguments name.
func (c *Caller) Look() api.Object {
	o, err := reach.Look(c.World, c.Object, c.Named())
	Must(err)
	return o
}

// See is what they name, of a kind (0: of any), if the caller may see it.
func (c *Caller) See(kind int) api.Object {
	o, err := reach.See(c.World, c.Object, c.Named(), kind)
	Must(err)
	return o
}

// Change is what they name, of a kind (0: of any), if the caller may change it.
func (c *Caller) Change(kind int) api.Object {
	o, err := reach.Change(c.World, c.Object, c.Named(), kind)
	Must(err)
	return o
}

// Becomes lets the world be another one, unless there is an error. No value is told of that.
func (c *Caller) Becomes(w api.World, err api.Errno) uint64 {
	Must(err)
	c.World = w
	return 0
}

// Lays puts an object in the place of what it was, unless there is an error.
func (c *Caller) Lays(o api.Object, err api.Errno) uint64 {
	Must(err)
	return c.Becomes(obj.Put(c.World, o), api.OK)
}

// Creates tells whether the caller may make a thing of a label.
func (c *Caller) Creates(l api.Label) bool { return check.Create(c.Label, c.Thread.Clear, l) }

// Name is taken of the caller's numbers. It tells nothing of what others took: each has numbers of its own.
func (c *Caller) Name() uint64 {
	n, left, err := serial.Take(c.Thread.Span)
	Must(err)
	c.Thread.Span = left
	return perm.Name(c.World.Key, n)
}

// Attach gives a new object its name, and a place in a container. The caller's numbers are others only together with that.
func (c *Caller) Attach(d uint64, o api.Object) uint64 {
	o.Id = c.Name()
	c.Becomes(tree.Attach(obj.Put(c.World, c.Object), d, o))
	return o.Id
}
