package cpu

import (
	"maps"
	"math"
	"math/rand"
	"reflect"
	"slices"
	"strconv"
	"strings"
	"testing"

	"curtilage/api"
	"curtilage/obj"
	"curtilage/tree"
)

// Where a house's threads find what, as page by page the chart says.
const (
	codeAt   = 0
	codeRead = 64
	dataAt   = 128
	dataRead = 192
	secretAt = 256
	trustAt  = 320
	lastAt   = topAddr - pageLen
)

// chart is the maps of a house's address space.
func chart() []api.Map {
	return []api.Map{
		open(mapOf(0, 3, root, 10, 0)), mapOf(4, 3, root, 10, 0),
		open(mapOf(8, 2, root, 14, 0)), mapOf(12, 2, root, 14, 0),
		open(mapOf(16, 1, root, 11, 0)), open(mapOf(20, 1, 3, 12, 0)), open(mapOf(24, 1, root, 13, 0)),
		open(mapOf(26, 1, root, 999, 0)), open(mapOf(28, 1, root, 40, 0)), open(mapOf(30, 1, 2, 16, 0)),
		open(mapOf(32, 2, root, 14, 1)), open(mapOf(34, 1, root, 17, 0)),
		open(mapOf(topVa-1, 1, root, 10, 1)),
	}
}

// house is a small world: a secret container (2) and a trusted one (3); segments (10 to 18), of which 10 is the code's and 14 the data's; address spaces (30 to 35); a gate (40), a device (41); threads (50 to 63), of which 50, 51 and 53 run by the chart, and 62 and 63 by one of their own.
func house() api.World {
	waits, halts := thread(54, plain(), ref(root, 30)), thread(55, plain(), ref(root, 30))
	waits.Thread.State, waits.Thread.Wait = api.ThWait, api.Wait{Ref: ref(root, 14), Index: 3, Val: 5}
	halts.Thread.State = api.ThHalt
	inner := []api.Map{open(mapOf(0, 1, 3, 12, 0)), open(mapOf(1, 1, 3, 18, 0)), open(mapOf(2, 1, root, 14, 0))}
	return world(
		box(root, 400, plain(), 2, 3, 10, 11, 13, 14, 15, 17, 30, 31, 33, 34, 40, 41, 50, 51, 52, 53, 54, 55, 56, 57, 58, 59, 60, 61, 62, 63), box(2, 60, secret(), 16, 32), box(3, 60, trusted(), 12, 18, 35),
		segment(10, plain(), 48), segment(11, secret(), 16), segment(12, trusted(), 16), segment(13, plain(), 0), segment(14, plain(), 32), segment(15, two(api.Lev1, api.Lev3), 9), segment(16, secret(), 16), segment(17, plain(), 5), segment(18, plain(), 3),
		space(30, plain(), chart()...), space(31, secret(), chart()...), space(32, secret(), chart()...), space(33, plain()), space(34, trusted(), inner...), space(35, trusted(), inner...),
		api.Object{Id: 40, Kind: api.KdGate, Quota: 1, Gate: api.Gate{Grant: owner(), Clear: secret(), Space: ref(root, 30), Pc: 5, Arg: 6}},
		api.Object{Id: 41, Kind: api.KdDevice, Quota: 1, In: []uint64{5, 6}, Out: []uint64{7}},
		thread(50, plain(), ref(root, 30)), thread(51, secret(), ref(root, 30)), thread(52, trusted(), ref(root, 34)), thread(53, owner(), ref(root, 30)), waits, halts,
		thread(56, plain(), ref(root, 31)), thread(57, plain(), ref(2, 32)), thread(58, plain(), ref(0, 0)), thread(59, plain(), ref(root, 10)), thread(60, plain(), ref(root, 33)), thread(61, plain(), ref(root, 999)), thread(62, secret(), ref(2, 32)), thread(63, trusted(), ref(3, 35)))
}

// cell is a world of a thread, its code, and its data, that may be written from page 1 on, and not from page 3 on.
func cell() api.World {
	return world(box(root, 100, plain(), 10, 14, 30, self), segment(10, plain(), 16), segment(14, plain(), 32),
		space(30, plain(), open(mapOf(0, 1, root, 10, 0)), open(mapOf(1, 2, root, 14, 0)), mapOf(3, 2, root, 14, 0)), thread(self, plain(), ref(root, 30)))
}

// great is a world of a segment that uses up all that is left of the Root, with the thread at its last word.
func great() api.World {
	var maps []api.Map
	for at := range 16 {
		maps = append(maps, open(mapOf(at*topVa/16, topVa/16, root, topId, 0)))
	}
	last := thread(self, plain(), ref(root, 30))
	last.Quota, last.Thread.Pc = 1, 1020*pageLen-1
	return world(box(root, 1024, plain(), 30, self, topId), space(30, plain(), maps...), segment(topId, plain(), 1020*pageLen), last)
}

// many is a world of as many objects as there may be beside a page of words: containers full of segments, and a thread with its code.
func many() api.World {
	all := []api.Object{box(root, 1024, nil, 30, self, topId), space(30, nil, open(mapOf(0, 1, root, topId, 0))), thread(self, nil, ref(root, 30)), segment(topId, nil, 5)}
	all[2].Quota = 1
	for d := range uint64(17) {
		in := box(100+d, 60, nil)
		for n := range uint64(59 - d/16) {
			o := segment(1000*(d+1)+n, nil, 0)
			in.Links, all = append(in.Links, o.Id), append(all, o)
		}
		in.Quota = 1 + len(in.Links)
		all[0].Links, all = append(all[0].Links, in.Id), append(all, in)
	}
	slices.Sort(all[0].Links)
	return world(all...)
}

// wholes are worlds that are whole.
func wholes() map[string]api.World {
	return map[string]api.World{"a Root alone": world(box(root, 3, nil)), "a house": house(), "a cell": cell(), "a great segment": great(), "many objects": many()}
}

// The worlds of these tests are whole.
func TestWholes(t *testing.T) {
	for name, w := range wholes() {
		if !tree.Fit(w) {
			t.Errorf("%s is not whole", name)
		}
	}
}

// Example 1: a step of no thread, and a fault without a handler.
func TestExample(t *testing.T) {
	w := world(box(root, 3, nil))
	if behind, call := Step(w, 5); !obj.Same(behind, w) || call != -1 {
		t.Errorf("Step of no thread: call %d, as it was: %v", call, obj.Same(behind, w))
	}
	if now := Fault(api.Thread{}, 1); !reflect.DeepEqual(now, api.Thread{State: api.ThHalt}) {
		t.Errorf("Fault without a Handler: %v", now)
	}
}

// still holds that a step of an id does nothing, and makes no call.
func still(t *testing.T, name string, w api.World, id uint64) {
	t.Helper()
	behind, call := Step(w, id)
	if call != -1 || !obj.Same(behind, w) {
		t.Errorf("%s: Step of %d: call %d, as it was: %v", name, id, call, obj.Same(behind, w))
	}
}

// P19.1: an id of nothing, of another kind, and of a thread that waits or has halted, whatever it has beside.
func TestNoThread(t *testing.T) {
	for name, w := range wholes() {
		for _, id := range []uint64{0, 5, 999, 1 << 32, 1<<32 + self, 1<<61 + self, 1<<63 + self, topId - 1, topId + 1, math.MaxUint64} {
			if of(w, id) == nil {
				still(t, name, w, id)
			}
		}
		for _, o := range w.Objects[:min(len(w.Objects), 20)] {
			if o.Kind != api.KdThread {
				still(t, name, w, o.Id)
			}
		}
	}
	w := laid(house(), 10, 0, words(t, "movi r1 7; trap 5")...)
	for _, id := range []uint64{54, 55} {
		for _, pc := range []uint64{0, 1, 5, topAddr, math.MaxUint64} {
			for _, to := range []uint64{0, 1} {
				still(t, "it does not run", with(w, id, func(th *api.Thread) {
					th.Pc, th.Handler, th.Vector, th.Alerts = pc, to, to, []uint64{8, 9}[2-2*to:]
				}), id)
			}
		}
		behind, call := Step(with(w, id, func(th *api.Thread) { th.State, th.Wait = api.ThRun, api.Wait{} }), id)
		if now := of(behind, id).Thread; call != -1 || now.Regs[1] != 7 || now.Pc != 1 {
			t.Errorf("%d, as soon as it runs: call %d, Pc %d, register 1 %d", id, call, now.Pc, now.Regs[1])
		}
	}
}

// P19.1: a thread is found by whatever id it has.
func TestAnyId(t *testing.T) {
	for _, id := range []uint64{2, 11, 1 << 32, 1<<32 + 10, topId - 1, topId} {
		one := thread(id, plain(), ref(root, 30))
		one.Thread.Span = api.Span{}
		w := world(box(root, 100, plain(), 10, 30, id), laid(world(segment(10, plain(), 5)), 10, 0, words(t, "trap 5")...).Objects[0], space(30, plain(), mapOf(0, 1, root, 10, 0)), one)
		if !tree.Fit(w) {
			t.Fatalf("with a thread %d the world is not whole", id)
		}
		does(t, "trap", w, id, nil, 1, 5)
	}
}

// regs are registers, and what stands in them.
type regs map[int]uint64

// in is a thread with such registers.
func (r regs) in(th *api.Thread) {
	for n, v := range r {
		th.Regs[n] = v
	}
}

// codeOf is the segment that a house's thread has its code in.
func codeOf(id uint64) uint64 {
	if id == 63 {
		return 12
	}
	return 10
}

// at is a house in which a program stands in a thread's code from a place on, and the thread is there.
func at(t *testing.T, id uint64, place int, program string, ahead regs) api.World {
	t.Helper()
	return with(laid(house(), codeOf(id), place, words(t, program)...), id, func(th *api.Thread) {
		th.Pc = uint64(place)
		ahead.in(th)
	})
}

// does holds that a step makes such registers of the thread's, goes on at a place, makes a call, and that nothing else is another one.
func does(t *testing.T, name string, w api.World, id uint64, want regs, to uint64, wantCall int) api.World {
	t.Helper()
	behind, call := Step(w, id)
	now := of(behind, id).Thread
	if call != wantCall || now.Pc != to {
		t.Errorf("%s by %d: call %d, then at %d, not %d, %d", name, id, call, now.Pc, wantCall, to)
	}
	if should := with(w, id, func(th *api.Thread) { want.in(th); th.Pc = to }); !obj.Same(behind, should) {
		t.Errorf("%s by %d: registers %x, not %x, or something else is another one", name, id, now.Regs, of(should, id).Thread.Regs)
	}
	hold(t, w, id)
	return behind
}

// P19.1: what sets a register, written out: numbers below 0, the least and the greatest, registers that are the same and unlike ones, 14 and 15 among them.
func TestSetRows(t *testing.T) {
	low := regOf(1) & 0xffffffff
	for _, r := range []struct {
		program string
		ahead   regs
		want    regs
	}{
		{"movi r1 7", nil, regs{1: 7}}, {"movi r1 0", nil, regs{1: 0}}, {"movi r0 1", nil, regs{0: 1}}, {"movi r15 -1", nil, regs{15: top}}, {"movi r14 -2", nil, regs{14: top - 1}},
		{"movi r1 2147483647", nil, regs{1: 1<<31 - 1}}, {"movi r1 -2147483648", nil, regs{1: 0xffffffff_80000000}},
		{"movh r1 7", nil, regs{1: low + 7<<32}}, {"movh r1 0", nil, regs{1: low}}, {"movh r1 -1", nil, regs{1: low + 0xffffffff<<32}}, {"movh r15 5", regs{15: top}, regs{15: 0x5_ffffffff}},
		{"movh r1 2147483647", regs{1: 3}, regs{1: 0x7fffffff_00000003}}, {"movh r1 -2147483648", regs{1: top}, regs{1: 0x80000000_ffffffff}},
		{"mov r1 r2", nil, regs{1: regOf(2)}}, {"mov r2 r1", nil, regs{2: regOf(1)}}, {"mov r3 r3", nil, nil}, {"mov r15 r14", nil, regs{15: regOf(14)}}, {"mov r14 r0", nil, regs{14: regOf(0)}},
		{"addi r1 r2 7", regs{2: 5}, regs{1: 12}}, {"addi r1 r1 -6", regs{1: 5}, regs{1: top}}, {"addi r1 r2 1", regs{2: top}, regs{1: 0}}, {"addi r1 r2 0", nil, regs{1: regOf(2)}}, {"addi r14 r15 -2147483648", regs{15: 1 << 31}, regs{14: 0}}, {"addi r1 r2 2147483647", regs{2: 1}, regs{1: 1 << 31}},
		{"add r1 r2 r3", regs{2: 5, 3: 7}, regs{1: 12}}, {"add r1 r2 r3", regs{2: top, 3: 7}, regs{1: 6}}, {"add r1 r1 r1", regs{1: 1<<63 + 4}, regs{1: 8}}, {"add r15 r14 r15", regs{14: 3, 15: 4}, regs{15: 7}},
		{"sub r1 r2 r3", regs{2: 5, 3: 7}, regs{1: top - 1}}, {"sub r1 r3 r2", regs{2: 5, 3: 7}, regs{1: 2}}, {"sub r4 r4 r4", nil, regs{4: 0}}, {"sub r2 r1 r2", regs{1: 9, 2: 4}, regs{2: 5}},
		{"mul r1 r2 r3", regs{2: 5, 3: 7}, regs{1: 35}}, {"mul r1 r2 r2", regs{2: 1 << 32}, regs{1: 0}}, {"mul r1 r2 r3", regs{2: top, 3: top}, regs{1: 1}},
		{"div r1 r2 r3", regs{2: 35, 3: 4}, regs{1: 8}}, {"div r1 r2 r3", regs{2: 35, 3: 0}, regs{1: top}}, {"div r3 r2 r3", regs{2: top, 3: 2}, regs{3: 1<<63 - 1}},
		{"rem r1 r2 r3", regs{2: 35, 3: 4}, regs{1: 3}}, {"rem r1 r2 r3", regs{2: 35, 3: 0}, regs{1: 35}}, {"rem r2 r2 r3", regs{2: top, 3: 10}, regs{2: 5}},
		{"and r1 r2 r3", regs{2: 12, 3: 10}, regs{1: 8}}, {"or r1 r2 r3", regs{2: 12, 3: 10}, regs{1: 14}}, {"xor r1 r2 r3", regs{2: 12, 3: 10}, regs{1: 6}}, {"xor r5 r5 r5", nil, regs{5: 0}},
		{"shl r1 r2 r3", regs{2: 3, 3: 62}, regs{1: 3 << 62}}, {"shl r1 r2 r3", regs{2: 3, 3: 64}, regs{1: 3}}, {"shl r1 r2 r3", regs{2: 3, 3: top}, regs{1: 1 << 63}},
		{"shr r1 r2 r3", regs{2: 1 << 63, 3: 63}, regs{1: 1}}, {"shr r1 r2 r3", regs{2: top, 3: 65}, regs{1: top >> 1}},
		{"eq r1 r2 r3", regs{2: 5, 3: 5}, regs{1: 1}}, {"eq r1 r2 r3", regs{2: 5, 3: 5 + 1<<32}, regs{1: 0}}, {"eq r1 r1 r1", nil, regs{1: 1}},
		{"ltu r1 r2 r3", regs{2: 5, 3: top}, regs{1: 1}}, {"ltu r1 r3 r2", regs{2: 5, 3: top}, regs{1: 0}}, {"ltu r1 r2 r2", nil, regs{1: 0}},
		{"lts r1 r2 r3", regs{2: 5, 3: top}, regs{1: 0}}, {"lts r1 r3 r2", regs{2: 5, 3: top}, regs{1: 1}}, {"lts r1 r2 r3", regs{2: 1 << 63, 3: 1<<63 - 1}, regs{1: 1}},
	} {
		for _, place := range []int{0, 5, 47} {
			does(t, r.program, at(t, self, place, r.program, r.ahead), self, r.want, uint64(place)+1, -1)
		}
	}
}

// jump is an instruction at a place, and where it goes on.
type jump struct {
	place   int
	program string
	ahead   regs
	want    regs
	to      uint64
}

// holdJumps holds rows of jumps.
func holdJumps(t *testing.T, rows []jump) {
	t.Helper()
	for _, r := range rows {
		does(t, r.program+" at "+strconv.Itoa(r.place), at(t, self, r.place, r.program, r.ahead), self, r.want, r.to, -1)
	}
}

// P19.1: jumps forward, back, to itself, and past both ends of the words.
func TestJumpRows(t *testing.T) {
	holdJumps(t, []jump{
		{5, "jmp 0", nil, nil, 6}, {5, "jmp 3", nil, nil, 9}, {5, "jmp -1", nil, nil, 5}, {5, "jmp -6", nil, nil, 0}, {0, "jmp 1000000", nil, nil, 1000001},
		{5, "jmp -7", nil, nil, top}, {0, "jmp -1", nil, nil, 0}, {0, "jmp -2", nil, nil, top}, {0, "jmp -2147483648", nil, nil, 1<<64 - 1<<31 + 1}, {0, "jmp 2147483647", nil, nil, 1 << 31}, {47, "jmp 2147483647", nil, nil, 1<<31 + 47}, {47, "jmp -2147483648", nil, nil, 1<<64 - 1<<31 + 48},
	})
}

// P19.1: jumps by a register that is 0, and by such as are not, though half of their bits may be.
func TestBranchRows(t *testing.T) {
	holdJumps(t, []jump{
		{5, "jz r1 3", regs{1: 0}, nil, 9}, {5, "jz r1 -6", regs{1: 0}, nil, 0}, {5, "jz r1 -1", regs{1: 0}, nil, 5}, {5, "jz r15 -7", regs{15: 0}, nil, top}, {5, "jz r1 0", regs{1: 0}, nil, 6}, {5, "jz r14 2147483647", regs{14: 0}, nil, 1<<31 + 5}, {5, "jz r0 -2147483648", regs{0: 0}, nil, 1<<64 - 1<<31 + 6},
		{5, "jz r1 3", regs{1: 1}, nil, 6}, {5, "jz r1 -6", regs{1: top}, nil, 6}, {5, "jz r1 3", regs{1: 1 << 32}, nil, 6}, {5, "jz r1 3", regs{1: 1 << 63}, nil, 6}, {5, "jz r15 -2147483648", nil, nil, 6}, {5, "jz r1 3", regs{1: 1, 0: 0}, nil, 6},
		{5, "jnz r1 3", regs{1: 0}, nil, 6}, {5, "jnz r1 -6", regs{1: 0}, nil, 6}, {5, "jnz r15 2147483647", regs{15: 0}, nil, 6}, {5, "jnz r1 3", regs{1: 0, 0: 1}, nil, 6},
		{5, "jnz r1 3", regs{1: 1}, nil, 9}, {5, "jnz r1 -6", regs{1: top}, nil, 0}, {5, "jnz r1 -1", regs{1: 1 << 32}, nil, 5}, {5, "jnz r1 -7", regs{1: 1 << 63}, nil, top}, {5, "jnz r14 0", nil, nil, 6}, {5, "jnz r1 -2147483648", nil, nil, 1<<64 - 1<<31 + 6},
	})
}

// P19.1: call keeps where to come back to, jr comes there, or wherever a register says.
func TestCallRows(t *testing.T) {
	holdJumps(t, []jump{
		{5, "call r15 3", nil, regs{15: 6}, 9}, {5, "call r1 0", nil, regs{1: 6}, 6}, {5, "call r14 -1", nil, regs{14: 6}, 5}, {5, "call r0 -6", nil, regs{0: 6}, 0}, {5, "call r1 -7", nil, regs{1: 6}, top}, {0, "call r1 2147483647", nil, regs{1: 1}, 1 << 31}, {47, "call r1 -2147483648", nil, regs{1: 48}, 1<<64 - 1<<31 + 48},
		{5, "jr r1", regs{1: 0}, nil, 0}, {5, "jr r1", regs{1: 5}, nil, 5}, {5, "jr r15", regs{15: 9}, nil, 9}, {5, "jr r14", regs{14: top}, nil, top}, {5, "jr r0", nil, nil, regOf(0)}, {5, "jr r1", regs{1: topAddr}, nil, topAddr},
	})
	w := at(t, self, 5, "call r15 3", nil)
	w = laid(w, 10, 9, words(t, "movi r1 7; jr r15")...)
	w = does(t, "call", w, self, regs{15: 6}, 9, -1)
	w = does(t, "movi", w, self, regs{1: 7}, 10, -1)
	does(t, "jr", w, self, nil, 6, -1)
}

// P19.1: behind the last address there is nothing; a program can stand up to it, and jump away.
func TestLastAddress(t *testing.T) {
	for program, to := range map[string]uint64{"movi r1 7": topAddr, "jmp -16777216": 0, "jmp -1": topAddr - 1, "jmp 5": topAddr + 5, "trap 3": topAddr, "jr r1": regOf(1)} {
		w := with(laid(house(), 10, 31, words(t, program)...), self, func(th *api.Thread) { th.Pc = topAddr - 1 })
		behind, _ := hold(t, w, self)
		if now := of(behind, self).Thread; now.Pc != to {
			t.Errorf("%s at the last address: then at %d, not %d", program, now.Pc, to)
		}
		if to == topAddr {
			faults(t, program, behind, self, api.FaultFetch)
		}
	}
}

// P19.1: halt ends it all, where it stands.
func TestHaltRow(t *testing.T) {
	for _, place := range []int{0, 5, 47} {
		w := at(t, self, place, "halt", nil)
		behind, call := Step(w, self)
		should := with(w, self, func(th *api.Thread) { th.State = api.ThHalt })
		if call != -1 || !obj.Same(behind, should) {
			t.Errorf("halt at %d: call %d, then %v", place, call, of(behind, self).Thread)
		}
		hold(t, w, self)
	}
}

// P19.1: a trap does nothing, and its number is the call, 0 too; a number below 0 is a fault.
func TestTrapRows(t *testing.T) {
	for _, n := range []int{0, 1, 2, 43, 44, 99, 1 << 16, math.MaxInt32 - 1, math.MaxInt32} {
		does(t, "trap", at(t, self, 5, "trap "+strconv.Itoa(n), nil), self, nil, 6, n)
	}
	for _, n := range []int{-1, -2, -43, math.MinInt32 + 1, math.MinInt32} {
		faults(t, "trap below 0", at(t, self, 5, "trap "+strconv.Itoa(n), nil), self, uint64(api.FaultCode))
	}
}

// faults holds that a step is a fault, and nothing else: without a handler the thread halts as it is, with one it goes on there.
func faults(t *testing.T, name string, w api.World, id uint64, why uint64) {
	t.Helper()
	pc := of(w, id).Thread.Pc
	for _, handler := range []uint64{0, 1, 77, pc, pc + 1, top} {
		ahead := with(w, id, func(th *api.Thread) { th.Handler = handler })
		should := with(ahead, id, func(th *api.Thread) {
			if handler == 0 {
				th.State = api.ThHalt
				return
			}
			regs{14: pc, 15: why}.in(th)
			th.Pc, th.Handler = handler, 0
		})
		behind, call := Step(ahead, id)
		if call != -1 || !obj.Same(behind, should) {
			now := of(behind, id).Thread
			t.Errorf("%s at %d, Handler %d: call %d, State %d, registers 14, 15: %d, %d, then at %d, not by fault %d", name, pc, handler, call, now.State, now.Regs[14], now.Regs[15], now.Pc, why)
		}
		hold(t, ahead, id)
	}
}

// P19.1: the word at Pc can't be loaded: by a Space that is none, or hidden, where no map is, where a map has nothing, or what may not be seen, and where there are no addresses.
func TestFetchRows(t *testing.T) {
	w := house()
	for name, pcs := range map[string][]uint64{
		"no map":             {48, 63, 112, 127, 160, 224, lastAt - 1},
		"behind the words":   {page(24, 0), page(33, 0), page(34, 5), page(34, 15)},
		"a map of nothing":   {page(26, 0)},
		"no segment":         {page(28, 0), page(28, 15)},
		"a hidden container": {page(30, 0), page(30, 15)},
		"a hidden segment":   {secretAt, secretAt + 15},
		"no address":         {topAddr, topAddr + 5, 1 << 32, 1<<32 + 5, 1 << 63, top - 1, top},
	} {
		for _, pc := range pcs {
			faults(t, name, with(w, self, func(th *api.Thread) { th.Pc = pc }), self, api.FaultFetch)
		}
	}
	w = laid(w, 10, 0, words(t, "movi r1 7")...)
	for name, ids := range map[string][]uint64{"a hidden Space": {56}, "a Space in a hidden container": {52}, "both are hidden": {57}, "no Space": {58, 61}, "a Space of another kind": {59}, "a Space without maps": {60}} {
		for _, id := range ids {
			for _, pc := range []uint64{0, 5, top} {
				faults(t, name, with(w, id, func(th *api.Thread) { th.Pc = pc }), id, api.FaultFetch)
			}
		}
	}
	w = laid(w, 12, 0, words(t, "movi r1 7")...)
	for _, id := range []uint64{50, 51, 53, 62, 63} {
		does(t, "movi by those who see it", with(w, id, func(th *api.Thread) { th.Pc = 0 }), id, regs{1: 7}, 1, -1)
	}
}

// P19.1: code is fetched as any word is: by a map that may not be written, from what may be seen and not changed, and, by who may see it, from what others may not.
func TestFetchedFrom(t *testing.T) {
	movi := words(t, "movi r1 7")
	for _, r := range []struct {
		by, seg uint64
		place   int
		pc      uint64
	}{
		{50, 10, 3, codeRead + 3}, {50, 12, 3, trustAt + 3}, {50, 14, 31, dataAt + 31}, {50, 14, 31, dataRead + 31}, {50, 10, 31, topAddr - 1}, {50, 17, 4, page(34, 4)}, {50, 14, 16, page(32, 0)},
		{51, 10, 3, 3}, {51, 11, 3, secretAt + 3}, {51, 12, 3, trustAt + 3}, {51, 16, 3, page(30, 3)},
		{53, 11, 3, secretAt + 3}, {53, 12, 3, trustAt + 3}, {53, 16, 3, page(30, 3)}, {62, 16, 3, page(30, 3)}, {63, 12, 3, 3},
	} {
		w := with(laid(house(), r.seg, r.place, movi...), r.by, func(th *api.Thread) { th.Pc = r.pc })
		does(t, "movi", w, r.by, regs{1: 7}, r.pc+1, -1)
	}
}

// fits are words of an Op, with all registers that are told where it uses them, and such numbers.
func fits(op int, registers []int, numbers []uint64) []uint64 {
	_, shape, _ := strings.Cut(strings.Fields(opRow)[op], ":")
	out := []uint64{uint64(op)}
	for _, letter := range shape {
		var more []uint64
		for _, w := range out {
			if letter == 'i' {
				for _, n := range numbers {
					more = append(more, w|n<<32)
				}
				continue
			}
			for _, r := range registers {
				more = append(more, w|uint64(r)<<map[rune]int{'a': 8, 'b': 12, 'c': 16}[letter])
			}
		}
		out = more
	}
	return out
}

// allRegisters are all that there are.
func allRegisters() []int {
	var out []int
	for r := range numRegs {
		out = append(out, r)
	}
	return out
}

// P19.1: words that are no instructions: of no Op, and with a bit that the Op has no part for.
func TestCodeRows(t *testing.T) {
	var bad []uint64
	for op := uint64(len(strings.Fields(opRow))); op < 256; op++ {
		bad = append(bad, op)
	}
	for op, kind := range strings.Fields(opRow) {
		_, shape, _ := strings.Cut(kind, ":")
		unused := uint64(0xfff00000)
		for letter, mask := range masks() {
			if !strings.ContainsRune(shape, letter) {
				unused |= mask
			}
		}
		for bit := range 64 {
			if unused>>bit&1 == 1 {
				bad = append(bad, uint64(op)|1<<bit)
			}
		}
		bad = append(bad, uint64(op)|unused)
	}
	bad = append(bad, top, 1<<63|26, 0x700000101|1<<20, wordOf(10, 3))
	if len(bad) < 700 {
		t.Fatalf("%d words", len(bad))
	}
	w := with(cell(), self, func(th *api.Thread) { th.Pc = 5 })
	for _, word := range bad {
		faults(t, "the word "+strconv.FormatUint(word, 16), laid(w, 10, 5, word), self, api.FaultCode)
	}
}

// memory is a thread, and an address of it.
type memory struct {
	by   uint64
	addr uint64
}

// P19.1: load, written out: what is there, what is not, and what may not be seen.
func TestLoadRows(t *testing.T) {
	for _, r := range []struct {
		memory
		seg uint64
		at  int
	}{
		{memory{50, 1}, 10, 1}, {memory{50, 47}, 10, 47}, {memory{50, codeRead + 47}, 10, 47}, {memory{50, dataAt}, 14, 0}, {memory{50, dataAt + 31}, 14, 31}, {memory{50, dataRead + 16}, 14, 16}, {memory{50, trustAt + 3}, 12, 3}, {memory{50, topAddr - 1}, 10, 31}, {memory{50, page(34, 4)}, 17, 4},
		{memory{51, dataAt}, 14, 0}, {memory{51, secretAt + 15}, 11, 15}, {memory{51, page(30, 3)}, 16, 3}, {memory{51, trustAt}, 12, 0}, {memory{53, secretAt}, 11, 0}, {memory{53, trustAt}, 12, 0}, {memory{53, page(30, 0)}, 16, 0}, {memory{63, 1}, 12, 1}, {memory{63, 15}, 12, 15},
	} {
		v := wordOf(r.seg, r.at)
		does(t, "load", at(t, r.by, 5, "load r1 r2 0", regs{2: r.addr}), r.by, regs{1: v}, 6, -1)
		does(t, "load", at(t, r.by, 5, "load r2 r2 -3", regs{2: r.addr + 3}), r.by, regs{2: v}, 6, -1)
		does(t, "load", at(t, r.by, 5, "load r15 r14 2147483647", regs{14: r.addr - (1<<31 - 1)}), r.by, regs{15: v}, 6, -1)
		does(t, "load", at(t, r.by, 5, "load r14 r15 -2147483648", regs{15: r.addr + 1<<31}), r.by, regs{14: v}, 6, -1)
		does(t, "load", at(t, r.by, 5, "load r0 r2 7", regs{2: r.addr - 7}), r.by, regs{0: v}, 6, -1)
	}
	for _, r := range []memory{
		{50, 48}, {50, 63}, {50, 127}, {50, 160}, {50, secretAt}, {50, page(24, 0)}, {50, page(26, 0)}, {50, page(28, 0)}, {50, page(30, 0)}, {50, page(33, 0)}, {50, page(34, 5)},
		{50, topAddr}, {50, 1 << 32}, {50, 1 << 63}, {50, top}, {51, 48}, {51, page(26, 0)}, {51, page(28, 0)}, {53, page(24, 0)}, {53, topAddr}, {63, 16}, {63, 32}, {63, dataAt},
	} {
		faults(t, "load", at(t, r.by, 5, "load r1 r2 0", regs{2: r.addr}), r.by, api.FaultLoad)
		faults(t, "load", at(t, r.by, 5, "load r2 r2 -3", regs{2: r.addr + 3}), r.by, api.FaultLoad)
		faults(t, "load", at(t, r.by, 5, "load r15 r14 5", regs{14: r.addr - 5}), r.by, api.FaultLoad)
	}
}

// P19.1, P19.3: store, written out: what may be changed; what is not there, may not be seen, may be seen and not changed, or is of a map that may not be written.
func TestStoreRows(t *testing.T) {
	for _, r := range []struct {
		memory
		seg uint64
		at  int
	}{
		{memory{50, 1}, 10, 1}, {memory{50, 47}, 10, 47}, {memory{50, dataAt}, 14, 0}, {memory{50, dataAt + 31}, 14, 31}, {memory{50, topAddr - 1}, 10, 31}, {memory{50, page(34, 4)}, 17, 4}, {memory{50, page(32, 0)}, 14, 16},
		{memory{51, secretAt + 15}, 11, 15}, {memory{51, page(30, 3)}, 16, 3}, {memory{53, secretAt}, 11, 0}, {memory{53, trustAt}, 12, 0}, {memory{53, page(30, 0)}, 16, 0}, {memory{53, dataAt}, 14, 0}, {memory{63, 15}, 12, 15},
	} {
		for program, ahead := range map[string]regs{
			"store r3 r2 0": {2: r.addr, 3: 77}, "store r3 r2 -3": {2: r.addr + 3, 3: 0}, "store r15 r14 2147483647": {14: r.addr - (1<<31 - 1), 15: top}, "store r2 r2 0": {2: r.addr}, "store r14 r0 -2147483648": {0: r.addr + 1<<31, 14: 1 << 63},
		} {
			w := at(t, r.by, 5, program, ahead)
			d, _ := deedOf(of(w, codeOf(r.by)).Data[5])
			v := of(w, r.by).Thread.Regs[d.a]
			behind, call := Step(w, r.by)
			should := with(laid(w, r.seg, r.at, v), r.by, func(th *api.Thread) { th.Pc = 6 })
			if call != -1 || !obj.Same(behind, should) {
				t.Errorf("%s to %d by %d: call %d, then at %d, the word %d, not %d, or something else is another one", program, r.addr, r.by, call, of(behind, r.by).Thread.Pc, of(behind, r.seg).Data[r.at], v)
			}
			hold(t, w, r.by)
		}
	}
	for _, r := range []memory{
		{50, 48}, {50, 63}, {50, 160}, {50, page(24, 0)}, {50, page(26, 0)}, {50, page(28, 0)}, {50, page(30, 0)}, {50, page(33, 0)}, {50, page(34, 5)}, {50, topAddr}, {50, 1 << 32}, {50, top},
		{50, secretAt}, {50, trustAt}, {51, dataAt}, {51, 1}, {51, trustAt}, {50, codeRead}, {50, dataRead}, {51, dataRead}, {53, dataRead}, {53, codeRead + 5}, {63, 16}, {63, 32},
	} {
		faults(t, "store", at(t, r.by, 5, "store r3 r2 0", regs{2: r.addr, 3: 77}), r.by, api.FaultStore)
		faults(t, "store", at(t, r.by, 5, "store r2 r2 -3", regs{2: r.addr + 3}), r.by, api.FaultStore)
		faults(t, "store", at(t, r.by, 5, "store r15 r14 5", regs{14: r.addr - 5}), r.by, api.FaultStore)
	}
}

// P19.1: a store to the thread's own code, and the step behind it: to the next instruction, to its own place, to one behind, by another address of the same word.
func TestOwnCode(t *testing.T) {
	movi := words(t, "movi r1 7")[0]
	for _, r := range []struct {
		program string
		addr    uint64
		seg     int
	}{{"store r3 r2 0", 6, 6}, {"store r3 r2 0", topAddr - pageLen, 16}, {"store r3 r2 0", 5, 5}, {"store r3 r2 0; jmp 2; halt; halt; halt", 9, 9}} {
		w := at(t, self, 5, r.program, regs{2: r.addr, 3: movi})
		behind, _ := hold(t, w, self)
		if word := of(behind, 10).Data[r.seg]; word != movi {
			t.Fatalf("%s to %d: there is %x", r.program, r.addr, word)
		}
		if of(behind, self).Thread.Pc != 6 {
			t.Errorf("%s to %d: then at %d", r.program, r.addr, of(behind, self).Thread.Pc)
		}
		for _, pc := range []uint64{uint64(r.seg), codeRead + uint64(r.seg)} {
			does(t, "what was stored", with(behind, self, func(th *api.Thread) { th.Pc = pc }), self, regs{1: 7}, pc+1, -1)
		}
	}
	w := at(t, self, 5, "store r3 r2 0; halt", regs{2: 6, 3: movi})
	w, _ = hold(t, w, self)
	does(t, "the next instruction is another one", w, self, regs{1: 7}, 7, -1)
	w = at(t, self, 5, "store r3 r2 0; halt", regs{2: 6, 3: top})
	w, _ = hold(t, w, self)
	faults(t, "the next instruction is none any more", w, self, api.FaultCode)
}

// fillings are what may stand in registers: unlike words, addresses, and the edges of words.
func fillings() map[string][numRegs]uint64 {
	edges := [numRegs]uint64{0, 1, 63, 64, 17, 1<<31 - 1, 1 << 31, 1<<32 - 1, 1 << 32, 1<<63 - 1, 1 << 63, 1<<63 + 1, top - 1, top, 2, 47}
	out := map[string][numRegs]uint64{"edges": edges}
	var unlike, addrs, turned [numRegs]uint64
	for n := range numRegs {
		unlike[n], addrs[n], turned[n] = regOf(n), uint64(5*n), edges[15-n]
	}
	out["unlike"], out["addresses"], out["edges turned"] = unlike, addrs, turned
	return out
}

// P19.1: each Op with all registers, whatever stands in them, and with numbers of all sorts.
func TestEveryRegister(t *testing.T) {
	numbers := []uint64{0, 1, 17, 40, 1<<31 - 1, 1 << 31, 1<<31 + 1, 1<<32 - 1, 1<<32 - 17}
	for name, filling := range fillings() {
		t.Run(name, func(t *testing.T) {
			t.Parallel()
			w := with(cell(), self, func(th *api.Thread) { th.Regs, th.Pc, th.Handler = filling, 5, 9 })
			was := deep(w)
			met := map[event]int{}
			for op := range strings.Fields(opRow) {
				for _, word := range fits(op, allRegisters(), numbers) {
					_, what := hold(t, laid(w, 10, 5, word), self)
					met[what]++
				}
				if t.Failed() {
					t.FailNow()
				}
			}
			if name == "addresses" && (met[event{"load", 0}] < 100 || met[event{"load", 3}] < 100 || met[event{"store", 0}] < 100 || met[event{"store", 4}] < 100) {
				t.Errorf("met with are %v", met)
			}
			if !reflect.DeepEqual(w, was) {
				t.Error("what was handed in is another one")
			}
		})
	}
}

// threadsOf are threads of all sorts, sound or not.
func threadsOf() []api.Thread {
	full := thread(self, owner(), ref(root, 30)).Thread
	bad := full
	bad.Clear, bad.Labs[0] = api.Label{{Cat: 9, Lev: 9}, {Cat: 7, Lev: -3}}, api.Label{{Cat: 1, Lev: api.Above}}
	bad.Span, bad.Wait = api.Span{Lo: 9, Hi: 3}, api.Wait{Ref: ref(3, 4), Index: 5, Val: 6, Dev: true}
	return []api.Thread{{}, full, bad}
}

// P19.2: Fault, of threads of all sorts: with Handler 0 the State is another one alone, else registers 14 and 15, Pc and Handler.
func TestFault(t *testing.T) {
	for _, th := range threadsOf() {
		for _, state := range []int{api.ThRun, api.ThWait, api.ThHalt, 77, -1} {
			for _, why := range []uint64{0, 1, 2, 3, 4, 5, 1 << 40, top} {
				for _, pc := range []uint64{0, 5, top} {
					th.State, th.Pc, th.Vector, th.Alerts = state, pc, 33, []uint64{8, 9}
					th.Handler = 0
					should := th
					should.State = api.ThHalt
					if now := Fault(th, why); !reflect.DeepEqual(now, should) {
						t.Errorf("Fault %d of State %d at %d, no Handler: %v, not %v", why, state, pc, now, should)
					}
					for _, handler := range []uint64{1, 5, 1 << 40, top} {
						th.Handler = handler
						should = th
						should.Regs[14], should.Regs[15], should.Pc, should.Handler = pc, why, handler, 0
						if now := Fault(th, why); !reflect.DeepEqual(now, should) {
							t.Errorf("Fault %d of State %d at %d, Handler %d: %v, not %v", why, state, pc, handler, now, should)
						}
					}
				}
			}
		}
	}
}

// P19.2: Alert, of threads of all sorts: one without alerts, or with Vector 0, takes none; else the first one is taken, and the others are left in their order.
func TestAlert(t *testing.T) {
	rows := [][]uint64{nil, {0}, {8}, {top}, {8, 9}, {9, 8}, {8, 8}, {0, 8}, {1, 2, 3, 4, 5, 6, 7, 8}, slices.Repeat([]uint64{5, 6, 7}, 40)}
	for _, th := range threadsOf() {
		for _, alerts := range rows {
			for _, state := range []int{api.ThRun, api.ThWait, api.ThHalt, 77, -1} {
				for _, pc := range []uint64{0, 5, top} {
					for _, vector := range []uint64{0, 1, 5, 1 << 40, top} {
						th.State, th.Pc, th.Vector, th.Handler, th.Alerts = state, pc, vector, 33, alerts
						should, takes := th, len(alerts) > 0 && vector != 0
						if takes {
							should.Regs[14], should.Regs[15], should.Pc, should.Vector = pc, alerts[0], vector, 0
							should.Alerts = append([]uint64(nil), alerts[1:]...)
						}
						if now, ok := Alert(th); ok != takes || !reflect.DeepEqual(now, should) {
							t.Errorf("Alert of %v, State %d at %d, Vector %d: %v, %v, not %v, %v", alerts, state, pc, vector, now, ok, should, takes)
						}
					}
				}
			}
		}
	}
}

// alerted is a world in which a thread has alerts, and a vector.
func alerted(w api.World, id, vector uint64, alerts ...uint64) api.World {
	return with(w, id, func(th *api.Thread) { th.Vector, th.Alerts = vector, alerts })
}

// P19.1: an alert by itself comes ahead of the instruction, whatever that is, or if it is none; it is all, and the next one waits till there is a Vector again.
func TestAlertAhead(t *testing.T) {
	for _, program := range []string{"movi r1 7", "halt", "trap 5", "trap -1", "jmp 9", "load r1 r2 0", "store r1 r2 0", "jr r1"} {
		for _, handler := range []uint64{0, 33} {
			for _, alerts := range [][]uint64{{8}, {0}, {8, 9}, {1, 2, 3, 4, 5, 6, 7, 8}} {
				w := with(at(t, self, 5, program, nil), self, func(th *api.Thread) { th.Handler = handler })
				behind, call := Step(alerted(w, self, 20, alerts...), self)
				should := with(alerted(w, self, 0, alerts[1:]...), self, func(th *api.Thread) {
					regs{14: 5, 15: alerts[0]}.in(th)
					th.Pc = 20
				})
				if call != -1 || !obj.Same(behind, should) {
					t.Errorf("%s, alerts %v: call %d, then %v", program, alerts, call, of(behind, self).Thread)
				}
				hold(t, behind, self)
			}
		}
	}
	for _, pc := range []uint64{48, secretAt, topAddr, top, 9} {
		w := alerted(with(house(), self, func(th *api.Thread) { th.Pc = pc }), self, 20, 8)
		behind, what := hold(t, w, self)
		if now := of(behind, self).Thread; what.what != "alert" || now.State != api.ThRun || now.Regs[14] != pc || now.Regs[15] != 8 || now.Pc != 20 {
			t.Errorf("an alert at %d: %v, then %v", pc, what, now)
		}
	}
}

// P19.1: with Vector 0 alerts stay, and the instruction is done; without alerts a Vector stays.
func TestNoAlert(t *testing.T) {
	w := at(t, self, 5, "movi r1 7", nil)
	does(t, "alerts, Vector 0", alerted(w, self, 0, 8, 9), self, regs{1: 7}, 6, -1)
	does(t, "Vector, no alerts", alerted(w, self, 20), self, regs{1: 7}, 6, -1)
	w = laid(w, 10, 20, words(t, "movi r2 8; movi r3 9")...)
	w, _ = hold(t, alerted(w, self, 20, 6, 7), self)
	if now := of(w, self).Thread; now.Regs[14] != 5 || now.Regs[15] != 6 || now.Pc != 20 || now.Vector != 0 || !slices.Equal(now.Alerts, []uint64{7}) {
		t.Errorf("behind the first alert: %v", now)
	}
	w = does(t, "the second alert stays", w, self, regs{2: 8}, 21, -1)
	does(t, "the second alert stays", w, self, regs{3: 9}, 22, -1)
}

// P19.1: an alert's code goes on while others wait; with a Vector again the next one comes, and all is as the alerts came.
func TestAlertsInOrder(t *testing.T) {
	w := laid(at(t, self, 5, "movi r1 7; halt", nil), 10, 20, words(t, "mov r2 r15; jr r14")...)
	w = alerted(w, self, 20, 5, 6, 7)
	for n, alert := range []uint64{5, 6, 7} {
		w = with(w, self, func(th *api.Thread) { th.Vector = 20 })
		var what event
		for _, should := range []event{{"alert", 0}, {"mov", 0}, {"jr", 0}} {
			if w, what = hold(t, w, self); what != should {
				t.Fatalf("alert %d: %v, not %v", n, what, should)
			}
		}
		if now := of(w, self).Thread; now.Regs[2] != alert || now.Pc != 5 || len(now.Alerts) != 2-n {
			t.Errorf("behind alert %d: register 2 %d, at %d, alerts %v", n, now.Regs[2], now.Pc, now.Alerts)
		}
	}
	w, _ = hold(t, with(w, self, func(th *api.Thread) { th.Vector = 20 }), self)
	if now := of(w, self).Thread; now.Regs[1] != 7 || now.Pc != 6 || now.Vector != 20 {
		t.Errorf("behind all alerts: register 1 %d, at %d, Vector %d", now.Regs[1], now.Pc, now.Vector)
	}
}

// P19.1: a fault within an alert's own code goes to the handler, or halts; registers 14 and 15 are the fault's then.
func TestFaultInAlert(t *testing.T) {
	for program, why := range map[string]uint64{"trap -1": api.FaultCode, "load r1 r2 0": api.FaultLoad, "store r1 r2 0": api.FaultStore} {
		w := laid(alerted(at(t, self, 5, "movi r1 7", nil), self, 20, 8, 9), 10, 20, words(t, program)...)
		behind, what := hold(t, w, self)
		if what.what != "alert" {
			t.Fatalf("%s: %v", program, what)
		}
		faults(t, program+" in an alert's code", behind, self, why)
	}
	w := alerted(at(t, self, 5, "movi r1 7", nil), self, 48, 8)
	w, _ = hold(t, w, self)
	faults(t, "an alert's code that is nowhere", w, self, api.FaultFetch)
}

// P19.1: a second fault behind the first one halts, if the Handler is not set again: the second one's registers are not told.
func TestSecondFault(t *testing.T) {
	w := at(t, self, 5, "trap -1", nil)
	w = laid(w, 10, 20, words(t, "load r1 r2 0")...)
	w = with(w, self, func(th *api.Thread) { th.Handler = 20 })
	w, _ = hold(t, w, self)
	if now := of(w, self).Thread; now.Regs[14] != 5 || now.Regs[15] != api.FaultCode || now.Pc != 20 || now.Handler != 0 || now.State != api.ThRun {
		t.Errorf("behind the first fault: %v", now)
	}
	faults(t, "the second fault", w, self, api.FaultLoad)
	w, _ = hold(t, w, self)
	if now := of(w, self).Thread; now.Regs[14] != 5 || now.Regs[15] != api.FaultCode || now.Pc != 20 || now.State != api.ThHalt {
		t.Errorf("behind the second fault: %v", now)
	}
}

// P19.1: an alert behind a fault, and a fault's code that the alert interrupts.
func TestAlertBehindFault(t *testing.T) {
	w := at(t, self, 5, "trap -1", nil)
	w = with(w, self, func(th *api.Thread) { th.Handler = 20 })
	w, _ = hold(t, w, self)
	w, _ = hold(t, alerted(w, self, 30, 8), self)
	if now := of(w, self).Thread; now.Regs[14] != 20 || now.Regs[15] != 8 || now.Pc != 30 || now.Handler != 0 || now.Vector != 0 {
		t.Errorf("an alert behind a fault: %v", now)
	}
}

// P19.4: a thread that has halted, in whichever way, makes no step any more, whatever it has beside.
func TestHalted(t *testing.T) {
	for name, program := range map[string]string{"halt": "halt", "a fault of code": "trap -1", "a fault of load": "load r1 r2 0", "a fault of store": "store r1 r2 0", "a fault of fetch": "jmp 1000"} {
		w := at(t, self, 5, program, nil)
		for range 2 {
			w, _ = hold(t, w, self)
		}
		if of(w, self).Thread.State != api.ThHalt {
			t.Fatalf("%s: it has not halted", name)
		}
		for _, to := range []uint64{0, 20} {
			for _, alerts := range [][]uint64{nil, {8}, {8, 9}} {
				for _, pc := range []uint64{of(w, self).Thread.Pc, 0, 20, top} {
					x := with(alerted(laid(w, 10, 20, words(t, "movi r1 7")...), self, to, alerts...), self, func(th *api.Thread) { th.Handler, th.Pc = to, pc })
					still(t, name, x, self)
				}
			}
		}
	}
}

// P19.3, P19.4: steps of others, too, leave a thread that has halted as it is.
func TestHaltedForGood(t *testing.T) {
	w := at(t, self, 5, "halt", nil)
	w, _ = hold(t, w, self)
	w = with(laid(w, 10, 0, words(t, "addi r1 r1 1; jmp -2")...), 53, func(th *api.Thread) { th.Pc = 0 })
	was := *of(w, self)
	for range 20 {
		w, _ = hold(t, w, 53)
		w, _ = hold(t, w, self)
	}
	if !obj.SameOne(*of(w, self), was) {
		t.Errorf("it has gone on: %v", of(w, self).Thread)
	}
}

// differing are the ids of the objects in which two worlds differ; of a segment it counts the words, too.
func differing(t *testing.T, a, b api.World) map[uint64]int {
	t.Helper()
	out := map[uint64]int{}
	if a.Time != b.Time || a.Key != b.Key || a.Root != b.Root || len(a.Objects) != len(b.Objects) {
		t.Fatal("the worlds differ in more than objects")
	}
	for at, o := range a.Objects {
		now := b.Objects[at]
		if obj.SameOne(o, now) {
			continue
		}
		out[o.Id] = 1
		if o.Kind == api.KdSegment && len(o.Data) == len(now.Data) {
			out[o.Id] = 0
			for i, word := range o.Data {
				if word != now.Data[i] {
					out[o.Id]++
				}
			}
			now.Data = o.Data
		}
		if o.Kind == api.KdThread {
			now.Thread = o.Thread
		}
		if !obj.SameOne(o, now) {
			t.Errorf("more than words, or a thread, is another one in %d", o.Id)
		}
	}
	return out
}

// untouched holds that of a thread all is as it was, but what an instruction, a fault or an alert has to do with.
func untouched(t *testing.T, a, b api.Thread) {
	t.Helper()
	b.Regs, b.Pc, b.State, b.Handler, b.Vector, b.Alerts = a.Regs, a.Pc, a.State, a.Handler, a.Vector, a.Alerts
	if !obj.SameOne(api.Object{Thread: a}, api.Object{Thread: b}) {
		t.Errorf("of the thread more is another one: %v, not %v", b, a)
	}
}

// drawnNumber is a number of an instruction: a small one, or any.
func drawnNumber(draw *rand.Rand) uint64 {
	if draw.Intn(12) == 0 {
		return uint64(draw.Uint32())
	}
	return uint64(uint32(int32(draw.Intn(21) - 10)))
}

// drawnWord is an instruction, mostly, or near to one.
func drawnWord(draw *rand.Rand) uint64 {
	if draw.Intn(40) == 0 {
		return draw.Uint64()
	}
	all := fits(draw.Intn(26), []int{draw.Intn(numRegs), draw.Intn(numRegs), draw.Intn(numRegs)}, []uint64{drawnNumber(draw)})
	word := all[draw.Intn(len(all))]
	if draw.Intn(40) == 0 {
		word ^= 1 << draw.Intn(64)
	}
	return word
}

// drawnAddr is an address that a house's thread may have something to do with.
func drawnAddr(draw *rand.Rand) uint64 {
	all := []uint64{codeAt, codeRead, dataAt, dataRead, secretAt, trustAt, page(26, 0), page(28, 0), page(30, 0), page(34, 0), lastAt, 40, topAddr, top - 9}
	return all[draw.Intn(len(all))] + uint64(draw.Intn(20))
}

// livened is a world in which a thread has something drawn to go on with: it runs, at some place, with registers that are addresses, and perhaps a handler, a vector and alerts.
func livened(draw *rand.Rand, w api.World, id uint64) api.World {
	return with(w, id, func(th *api.Thread) {
		th.State, th.Wait = api.ThRun, api.Wait{}
		th.Pc = uint64(draw.Intn(48))
		for n := range numRegs {
			switch draw.Intn(4) {
			case 0:
				th.Regs[n] = draw.Uint64() >> draw.Intn(64)
			case 1, 2:
				th.Regs[n] = drawnAddr(draw)
			}
		}
		th.Handler, th.Vector, th.Alerts = 0, 0, nil
		if draw.Intn(3) > 0 {
			th.Handler = uint64(draw.Intn(60))
		}
		for range draw.Intn(4) {
			th.Alerts = append(th.Alerts, draw.Uint64()>>draw.Intn(64))
		}
		if draw.Intn(3) == 0 {
			th.Vector = uint64(draw.Intn(60))
		}
	})
}

// P19.1, P19.3: rows of steps of drawn code by threads of unlike labels, with all that can come between: nothing but the thread, and by a store one word, is another one, and the world stays whole.
func TestDrawnRows(t *testing.T) {
	var all [8]map[event]int
	t.Run("rows", func(t *testing.T) {
		for seed := range all {
			t.Run(strconv.Itoa(seed), func(t *testing.T) {
				t.Parallel()
				all[seed] = map[event]int{}
				drawnRow(t, rand.New(rand.NewSource(int64(seed))), all[seed])
			})
		}
	})
	met := map[event]int{}
	for _, one := range all {
		for what, n := range one {
			met[what] += n
		}
	}
	for op, kind := range strings.Fields(opRow) {
		name, _, _ := strings.Cut(kind, ":")
		if met[event{name, 0}] < 50 {
			t.Errorf("Op %d, %s, was done %d times", op, name, met[event{name, 0}])
		}
	}
	for _, what := range []event{{"none", 0}, {"alert", 0}, {"fetch", 1}, {"code", 2}, {"trap", 2}, {"load", 3}, {"store", 4}} {
		if met[what] < 50 {
			t.Errorf("%v was met with %d times", what, met[what])
		}
	}
}

// drawnRow is one row of steps, that counts what they are.
func drawnRow(t *testing.T, draw *rand.Rand, met map[event]int) {
	threads := []uint64{50, 50, 51, 53, 62, 63, 54, 55, 41}
	w := house()
	for step := range 6000 {
		id := threads[draw.Intn(len(threads))]
		if step%200 == 0 {
			for place := range 48 {
				w = laid(w, 10, place, drawnWord(draw))
				w = laid(w, 12, place%pageLen, drawnWord(draw))
			}
		}
		if o := of(w, id); o.Kind == api.KdThread && (o.Thread.Pc > 200 || draw.Intn(30) == 0) || o.Thread.State == api.ThHalt && draw.Intn(3) > 0 {
			w = livened(draw, w, id)
		}
		behind, what := hold(t, w, id)
		met[what]++
		others := differing(t, w, behind)
		for other, n := range others {
			if other != id && (what != event{"store", 0} || of(w, other).Kind != api.KdSegment || n != 1) || len(others) > 2 {
				t.Errorf("%v of %d: %d is another one, in %d words", what, id, other, n)
			}
		}
		if o := of(w, id); o.Kind == api.KdThread {
			untouched(t, o.Thread, of(behind, id).Thread)
		}
		if step%20 == 0 && !tree.Fit(behind) {
			t.Error("the world is not whole any more")
		}
		if t.Failed() {
			t.Fatalf("step %d of %d", step, id)
		}
		w = behind
	}
}

// run makes a thread's steps up to the first that is a call, or that leaves it halted, and tells how many they were.
func run(t *testing.T, w api.World, id uint64) (api.World, int, int) {
	t.Helper()
	for n := 1; n <= 5000; n++ {
		behind, call := Step(w, id)
		w = behind
		if call >= 0 || of(w, id).Thread.State != api.ThRun {
			return w, call, n
		}
	}
	t.Fatal("it does not end")
	return w, 0, 0
}

// P19.1: whole programs: sums, what goes into two numbers, words that are copied, functions that call themselves.
func TestPrograms(t *testing.T) {
	for name, r := range map[string]struct {
		program string
		want    regs
		call    int
		steps   int
	}{
		"a sum":            {"movi r1 10; again:; add r2 r2 r1; addi r1 r1 -1; jnz r1 @again; halt", regs{1: 0, 2: 55}, -1, 32},
		"the greatest":     {"movi r1 84; movi r2 36; again:; jz r2 @end; rem r3 r1 r2; mov r1 r2; mov r2 r3; jmp @again; end:; trap 9", regs{1: 12, 2: 0}, 9, 14},
		"words are copied": {"movi r1 16; movi r2 0; movi r4 128; again:; load r3 r2 0; store r3 r4 0; addi r2 r2 1; addi r4 r4 1; addi r1 r1 -1; jnz r1 @again; load r5 r4 -16; halt", regs{1: 0, 2: 16, 4: 144}, -1, 101},
		"it calls itself": {"movi r1 6; movi r5 128; movi r2 1; call r15 @fact; trap 0; fact:; jz r1 @end; store r15 r5 0; addi r5 r5 1; mul r2 r2 r1; addi r1 r1 -1; call r15 @fact; addi r5 r5 -1; load r15 r5 0; end:; jr r15",
			regs{1: 0, 2: 720, 5: 128, 15: 4}, 0, 0},
		"a word of two halves": {"movi r1 -1; movh r1 305419896; movi r2 32; shr r3 r1 r2; eq r4 r3 r1; ltu r6 r3 r1; lts r7 r1 r3; halt", regs{1: 0x12345678_ffffffff, 3: 0x12345678, 4: 0, 6: 1, 7: 0}, -1, 8},
	} {
		w := with(at(t, self, 0, r.program, nil), self, func(th *api.Thread) { th.Regs = [numRegs]uint64{} })
		code := of(w, 10).Data[0]
		w, call, steps := run(t, w, self)
		now := of(w, self).Thread
		for n, v := range r.want {
			if now.Regs[n] != v {
				t.Errorf("%s: register %d: %d, not %d", name, n, now.Regs[n], v)
			}
		}
		if call != r.call || r.steps > 0 && steps != r.steps {
			t.Errorf("%s: call %d behind %d steps, not %d behind %d", name, call, steps, r.call, r.steps)
		}
		if name == "words are copied" && (now.Regs[5] != code || !slices.Equal(of(w, 14).Data[:16], of(w, 10).Data[:16])) {
			t.Errorf("%s: the first is %x, not %x", name, now.Regs[5], code)
		}
	}
}

// P19.1: two threads at work in one memory: what the one stores the other loads, and does as its code.
func TestTwoThreads(t *testing.T) {
	w := at(t, self, 5, "store r3 r2 0; store r4 r5 0", regs{2: dataAt + 3, 3: 77, 5: 20, 4: words(t, "movi r6 9")[0]})
	w = laid(w, 10, 18, words(t, "load r1 r2 0; jmp 0")...)
	w = with(w, 51, func(th *api.Thread) { th.Pc = 18; th.Regs[2] = dataRead + 3 })
	w, _ = hold(t, w, self)
	w = does(t, "the other one loads", w, 51, regs{1: 77}, 19, -1)
	w, _ = hold(t, w, self)
	w = does(t, "the other one jumps", w, 51, nil, 20, -1)
	does(t, "the other one does it", w, 51, regs{6: 9}, 21, -1)
}

// P19.1, P19.3: the greatest worlds: a segment that uses up the Root, at its last word, and as many objects as there may be.
func TestGreat(t *testing.T) {
	store := words(t, "store r3 r2 0")[0]
	w := laid(great(), topId, 1020*pageLen-1, store)
	w = with(w, self, regs{2: topAddr/16 + 5, 3: 77}.in)
	behind, what := hold(t, w, self)
	if what != (event{"store", 0}) || of(behind, topId).Data[5] != 77 || !tree.Fit(behind) {
		t.Errorf("%v: there is %d, whole %v", what, of(behind, topId).Data[5], tree.Fit(behind))
	}
	faults(t, "behind the last word", behind, self, api.FaultFetch)
	w = many()
	if len(w.Objects) != 1023 {
		t.Fatalf("%d objects", len(w.Objects))
	}
	w = with(laid(w, topId, 0, store, words(t, "load r1 r2 0")[0], 0), self, regs{2: 4, 3: 78}.in)
	for _, should := range []event{{"store", 0}, {"load", 0}, {"halt", 0}, {"none", 0}} {
		if w, what = hold(t, w, self); what != should {
			t.Errorf("%v, not %v", what, should)
		}
	}
	if of(w, self).Thread.Regs[1] != 78 || of(w, topId).Data[4] != 78 || !tree.Fit(w) {
		t.Errorf("there is %d, loaded %d, whole %v", of(w, topId).Data[4], of(w, self).Thread.Regs[1], tree.Fit(w))
	}
}

// unlike are worlds that each have another kind of step, by their names.
func unlike(t *testing.T) map[string]api.World {
	t.Helper()
	out := map[string]api.World{"nowhere": with(house(), self, func(th *api.Thread) { th.Pc = top }), "no code": house()}
	for _, program := range []string{"movi r1 7", "halt", "jmp -1", "jr r1", "trap 5", "trap -1", "load r1 r2 0", "store r1 r2 0"} {
		out[program] = at(t, self, 5, program, regs{2: dataAt + 3})
		out[program+" of nothing"] = at(t, self, 5, program, nil)
	}
	handled := maps.Clone(out)
	for name, w := range handled {
		out[name+", handled"] = with(w, self, func(th *api.Thread) { th.Handler = 20 })
		out[name+", an alert"] = alerted(w, self, 20, 8)
		out[name+", alerts"] = alerted(w, self, 20, 8, 9)
		out[name+", alerts that stay"] = alerted(w, self, 0, 8, 9)
		out[name+", it waits"] = with(w, self, func(th *api.Thread) { th.State = api.ThWait })
	}
	return out
}

// apart holds that what was told shares no memory with what was given, or with itself, and has no empty list.
func apart(t *testing.T, name string, given any, told ...any) {
	t.Helper()
	all := stretches(given, false)
	for _, one := range told {
		all = append(all, stretches(one, true)...)
		if n := emptyLists(one); n > 0 {
			t.Errorf("%s: %d empty lists are told", name, n)
		}
	}
	if shares(all) {
		t.Errorf("%s: what is told shares memory", name)
	}
}

// 0.5: no step changes what it is given; what it tells is new memory, each time, and has no empty list.
func TestNewMemory(t *testing.T) {
	for name, w := range unlike(t) {
		w = deep(w)
		roomy(&w)
		was := deep(w)
		for _, id := range []uint64{self, 54, 55, 41, 999} {
			first, call := Step(w, id)
			again, callAgain := Step(w, id)
			if !reflect.DeepEqual(w, was) {
				t.Fatalf("%s: what it is given is another one", name)
			}
			if !reflect.DeepEqual(first, again) || call != callAgain {
				t.Errorf("%s: another thing is told the second time", name)
			}
			apart(t, name, w, first, again)
		}
	}
}

// 0.5: so it is with Fault and Alert.
func TestNewMemoryOfThreads(t *testing.T) {
	for name, w := range unlike(t) {
		th := deep(of(w, self).Thread)
		roomy(&th)
		was := deep(th)
		fault, alert := Fault(th, 3), first(Alert(th))
		if !reflect.DeepEqual(th, was) {
			t.Fatalf("%s: what it is given is another one", name)
		}
		if !reflect.DeepEqual(fault, Fault(th, 3)) || !reflect.DeepEqual(alert, first(Alert(th))) {
			t.Errorf("%s: another thing is told the second time", name)
		}
		apart(t, name, th, fault, alert, Fault(th, 3), first(Alert(th)))
	}
}

// first is the thread that Alert tells.
func first(th api.Thread, _ bool) api.Thread { return th }

// odd are worlds that are not whole.
func odd(t *testing.T) map[string]api.World {
	t.Helper()
	bad := api.Label{{Cat: 9, Lev: 9}, {Cat: 7, Lev: -3}, {Cat: 7, Lev: api.Above}, {Cat: 7, Lev: api.Lev1}}
	all := func(does func(*api.Object)) api.World {
		w := deep(at(t, self, 5, "store r1 r2 0; load r1 r2 0; halt", regs{2: dataAt}))
		for n := range w.Objects {
			does(&w.Objects[n])
		}
		return w
	}
	turned, twice := all(func(*api.Object) {}), all(func(*api.Object) {})
	slices.Reverse(turned.Objects)
	twice.Objects = slices.Concat(twice.Objects, twice.Objects)
	return map[string]api.World{
		"nothing": {}, "from the end": turned, "all twice": twice, "one object": {Objects: []api.Object{thread(self, nil, ref(self, self))}},
		"Id 0":             {Objects: []api.Object{thread(0, nil, ref(0, 0))}},
		"labels":           all(func(o *api.Object) { o.Label = bad }),
		"all are threads":  all(func(o *api.Object) { o.Kind = api.KdThread }),
		"all are spaces":   all(func(o *api.Object) { o.Kind = api.KdSpace }),
		"no kinds":         all(func(o *api.Object) { o.Kind = -o.Kind }),
		"all link all":     all(func(o *api.Object) { o.Links = []uint64{root, 2, 10, 14, 30, math.MaxUint64} }),
		"quotas":           all(func(o *api.Object) { o.Quota = math.MinInt }),
		"states":           all(func(o *api.Object) { o.Thread.State = -1 }),
		"maps":             all(func(o *api.Object) { o.Maps = []api.Map{mapOf(-5, math.MaxInt, root, 10, math.MinInt)} }),
		"maps upon maps":   all(func(o *api.Object) { o.Maps = slices.Repeat([]api.Map{open(mapOf(0, topVa, root, 10, 0))}, 99) }),
		"all have alerts":  all(func(o *api.Object) { o.Thread.Alerts, o.Thread.Vector = make([]uint64, 5000), 5 }),
		"all have no data": all(func(o *api.Object) { o.Data = nil }),
	}
}

// 0.1: of worlds that are not whole all steps end, none panics or changes what it is given.
func TestOdd(t *testing.T) {
	for name, w := range odd(t) {
		was := deep(w)
		for _, id := range []uint64{0, 1, self, 30, 54, 999, math.MaxUint64} {
			behind := w
			for range 4 {
				var call int
				if behind, call = Step(behind, id); call < -1 {
					t.Errorf("%s: call %d", name, call)
				}
			}
		}
		if !reflect.DeepEqual(w, was) {
			t.Errorf("%s: what was handed in is another one", name)
		}
	}
}
