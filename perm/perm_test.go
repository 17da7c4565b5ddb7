package perm

import (
	"math"
	"math/big"
	"slices"
	"testing"
)

// end is the first number that has no name of its own, and the greatest name.
const end = 1 << 61

// top is the greatest word.
const top = math.MaxUint64

// keys are any: the edges, such as a round's factors, and a few between.
func keys() []uint64 {
	return []uint64{0, 1, 2, 3, 1 << 31, end - 1, end, 1 << 63, top - 1, top, 0x9e3779b97f4a7c15, 0xd1b54a32d192ed03, 1<<64 - 0xd1b54a32d192ed03, 0x0123456789abcdef}
}

// bases are numbers below 2^61: the edges of both halves, each bit alone, all bits but one, and a few between.
func bases() []uint64 {
	out := []uint64{0, 2, 3, 5, 1000, 1<<30 - 1, 1<<30 + 1, 1<<31 - 1, 1<<31 + 1, 1<<52 - 1, 1<<52 + 1, 1<<60 - 1, 1<<60 + 1, end - 2, end - 1, 0x0123456789abcdef}
	for bit := range 61 {
		out = append(out, 1<<bit, (end-1)^(1<<bit))
	}
	slices.Sort(out)
	return slices.Compact(out)
}

// words are bases, the edges above them, and some more up to the greatest.
func words() []uint64 {
	out := append(bases(), end, end+1, end+5, 2*end-1, 2*end, 2*end+1, 7*end, 7*end+5, 1<<63-1, 1<<63, top-1, top, 0xfedcba9876543210)
	x := uint64(1)
	for range 200 {
		x = x*6364136223846793005 + 1442695040888963407
		out = append(out, x)
	}
	return out
}

// The chapter's factors.
const (
	factorX = "bf58476d1ce4e5b9"
	factorY = "94d049bb133111eb"
	factorV = "9e3779b97f4a7c15"
	factorR = "d1b54a32d192ed03"
)

// of is a word as a number without bounds, hex one from its digits, and two a power of 2.
func of(word uint64) *big.Int { return new(big.Int).SetUint64(word) }

func hex(digits string) *big.Int {
	x, ok := new(big.Int).SetString(digits, 16)
	if !ok {
		panic(digits)
	}
	return x
}

func two(n int64) *big.Int { return new(big.Int).Exp(big.NewInt(2), big.NewInt(n), nil) }

// Arithmetic without bounds, each in memory of its own.
func sum(a, b *big.Int) *big.Int   { return new(big.Int).Add(a, b) }
func times(a, b *big.Int) *big.Int { return new(big.Int).Mul(a, b) }
func rest(a, b *big.Int) *big.Int  { return new(big.Int).Mod(a, b) }
func by(a, b *big.Int) *big.Int    { return new(big.Int).Div(a, b) }
func xor(a, b *big.Int) *big.Int   { return new(big.Int).Xor(a, b) }

// mixed is Mix by the chapter's words, on numbers without bounds.
func mixed(x *big.Int) *big.Int {
	x = rest(x, two(64))
	x = rest(times(xor(x, by(x, two(30))), hex(factorX)), two(64))
	x = rest(times(xor(x, by(x, two(27))), hex(factorY)), two(64))
	return xor(x, by(x, two(31)))
}

// roundOf is a round by the chapter's words.
func roundOf(key uint64, r int64, v *big.Int) *big.Int {
	return by(mixed(sum(of(key), sum(times(v, hex(factorV)), times(big.NewInt(r), hex(factorR))))), two(20))
}

// named is Name by the chapter's words.
func named(key, n uint64) uint64 {
	low := rest(of(n), two(61))
	a, b := by(low, two(30)), rest(low, two(30))
	for r := range int64(8) {
		if r%2 == 0 {
			a = xor(a, rest(roundOf(key, r, b), two(31)))
		} else {
			b = xor(b, rest(roundOf(key, r, a), two(30)))
		}
	}
	return sum(sum(times(a, two(30)), b), big.NewInt(1)).Uint64()
}

// P6.1: Mix of words whose mixed ones are written out; 0 stays.
func TestMixRows(t *testing.T) {
	rows := []struct{ x, want uint64 }{
		{0, 0},
		{1, 0x5692161d100b05e5},
		{2, 0xdbd238973a2b148a},
		{5, 0xb6bf613dbebb45dc},
		{1 << 29, 0x3db7d279284b03be},
		{1 << 30, 0x2ba0091cc9e3ceff},
		{1 << 31, 0xec105bf588587c9f},
		{1 << 63, 0x25c26ea579cea98a},
		{0x9e3779b97f4a7c15, 0xe220a8397b1dcdaf},
		{top, 0xb4d055fcf2cbbd7b},
	}
	for _, r := range rows {
		if got := Mix(r.x); got != r.want {
			t.Errorf("Mix(%#x) is %#x, not %#x", r.x, got, r.want)
		}
	}
}

// P6.1: Mix of any word is what the chapter's words say.
func TestMixByWords(t *testing.T) {
	for _, x := range append(words(), keys()...) {
		if got, want := Mix(x), mixed(of(x)).Uint64(); got != want {
			t.Errorf("Mix(%#x) is %#x, not %#x", x, got, want)
		}
	}
}

// nameRows are numbers with their names by a key, written out.
func nameRows() []struct{ key, n, name uint64 } {
	return []struct{ key, n, name uint64 }{
		{0, 0, 0x01585137d2aa18f9},
		{0, 1, 0x08637c728345aeea},
		{0, 5, 0x137c2438e52dd1d9},
		{0, 1<<30 - 1, 0x04b8b55fb8debd29},
		{0, 1 << 30, 0x117a112cfe405244},
		{0, 1 << 52, 0x0937f5c54a4cb3c3},
		{0, 1 << 60, 0x176df138bf67e828},
		{0, end - 1, 0x0201490913da6c7f},
		{0, 0x078d95b728b40a45, 1},
		{0, 0x02814d843ad7e057, 2},
		{0, 0x109c1da27074e5e3, end},
		{1, 0, 0x1ca481c243f0de06},
		{3, 0, 0x005c11751c5a7559},
		{3, 5, 0x07008cf9b1bc3b3c},
		{3, end - 1, 0x031645471d9c06b3},
		{3, 0x00d0147c9efc1b69, 1},
		{3, 0x0e7407adcd835821, end},
		{0xd1b54a32d192ed03, 5, 0x122171068c25ca97},
		{1 << 63, 0, 0x1a2102e7d46ff270},
		{1 << 63, 1 << 60, 0x1ba457bd5b942153},
		{top, 0, 0x0db85cb0254269b8},
		{top, 1 << 52, 0x04153c57db1b3d92},
		{top, end - 1, 0x0d2d53d13116dd6f},
		{top, 0x140b8d2d60ca60b9, 1},
		{top, 0x03e76e7698244028, end},
	}
}

// P6.1, P6.2: names and numbers that are written out, the least and the greatest name among them.
func TestNameAndNumberRows(t *testing.T) {
	for _, r := range nameRows() {
		if got := Name(r.key, r.n); got != r.name {
			t.Errorf("Name(%#x, %#x) is %#x, not %#x", r.key, r.n, got, r.name)
		}
		if got := Number(r.key, r.name); got != r.n {
			t.Errorf("Number(%#x, %#x) is %#x, not %#x", r.key, r.name, got, r.n)
		}
	}
}

// P6.1: Name of any number by any key is what the chapter's words say, and from 1 to 2^61.
func TestNameByWords(t *testing.T) {
	for _, key := range append(keys(), words()[150:200]...) {
		for _, n := range words() {
			got, want := Name(key, n), named(key, n)
			if got != want {
				t.Errorf("Name(%#x, %#x) is %#x, not %#x", key, n, got, want)
			}
			if got < 1 || got > end {
				t.Errorf("Name(%#x, %#x) is %#x, which is no name", key, n, got)
			}
		}
	}
}

// P6.1: of a number the lower 61 bits count.
func TestNameOfLowerBits(t *testing.T) {
	for _, key := range keys() {
		for _, n := range bases() {
			want := Name(key, n)
			for upper := range uint64(8) {
				if got := Name(key, upper*end+n); got != want {
					t.Errorf("Name(%#x, %d times 2^61 and %#x) is %#x, not %#x", key, upper, n, got, want)
				}
			}
		}
		if Name(key, end) != Name(key, 0) || Name(key, top) != Name(key, end-1) {
			t.Errorf("by %#x, 2^61 is not named as 0, or 2^64 - 1 not as 2^61 - 1", key)
		}
	}
}

// P6.2: of a name less 1 the lower 61 bits count: 0 is as 2^61, and 2^61 + 1 as 1.
func TestNumberOfLowerBits(t *testing.T) {
	for _, key := range keys() {
		for _, less := range bases() {
			want := Number(key, less+1)
			if want >= end {
				t.Errorf("Number(%#x, %#x) is %#x, which no name has", key, less+1, want)
			}
			for upper := range uint64(8) {
				if got := Number(key, upper*end+less+1); got != want {
					t.Errorf("Number(%#x, %d times 2^61 and %#x and 1) is %#x, not %#x", key, upper, less, got, want)
				}
			}
		}
		if Number(key, 0) != Number(key, end) || Number(key, end+1) != Number(key, 1) || Number(key, top) != Number(key, end-1) {
			t.Errorf("by %#x, the names 0, 2^61 + 1 and 2^64 - 1 are not as 2^61, 1 and 2^61 - 1", key)
		}
	}
}

// P6.2: the number that Number tells is the one whose name it is, by the chapter's words.
func TestNumberByWords(t *testing.T) {
	for _, key := range append(keys(), words()[150:200]...) {
		for _, less := range words() {
			n := Number(key, less+1)
			if got := named(key, n); got != less%end+1 || n >= end {
				t.Errorf("Number(%#x, %#x) is %#x, whose name is %#x", key, less+1, n, got)
			}
		}
	}
}

// P6.3: Number of Name is the number, Name of Number the name.
func TestThereAndBack(t *testing.T) {
	for _, key := range append(keys(), words()...) {
		for _, n := range words() {
			if got := Number(key, Name(key, n)); got != n%end {
				t.Errorf("by %#x, Number of Name of %#x is %#x", key, n, got)
			}
			if got := Name(key, Number(key, n+1)); got != n%end+1 {
				t.Errorf("by %#x, Name of Number of %#x is %#x", key, n+1, got)
			}
		}
	}
}

// P6.3: unlike numbers have unlike names, and unlike names unlike numbers: neighbours at the edges, and all bases.
func TestUnlike(t *testing.T) {
	var ns []uint64
	for _, first := range []uint64{0, 1<<30 - 2048, 1<<31 - 2048, 1<<52 - 2048, 1<<60 - 2048, end - 4096} {
		for i := range uint64(4096) {
			ns = append(ns, first+i)
		}
	}
	ns = append(ns, bases()...)
	slices.Sort(ns)
	ns = slices.Compact(ns)
	for _, key := range keys() {
		var names, numbers []uint64
		for _, n := range ns {
			names = append(names, Name(key, n))
			numbers = append(numbers, Number(key, n+1))
		}
		for _, told := range [][]uint64{names, numbers} {
			slices.Sort(told)
			if got := len(slices.Compact(told)); got != len(ns) {
				t.Errorf("by %#x, %d unlike ones became %d", key, len(ns), got)
			}
		}
	}
}

// P6.1: a name hangs on its key: unlike keys name one number unlike, here.
func TestKeysTell(t *testing.T) {
	for _, n := range []uint64{0, 5, end - 1} {
		seen := map[uint64]uint64{}
		for _, key := range keys() {
			name := Name(key, n)
			if other, ok := seen[name]; ok {
				t.Errorf("the keys %#x and %#x name %#x alike", other, key, n)
			}
			seen[name] = key
		}
	}
}

// P6.1, P6.2: rounds come in order, either way, and may be left.
func TestRounds(t *testing.T) {
	onward := []uint64{0, 1, 2, 3, 4, 5, 6, 7}
	backward := []uint64{7, 6, 5, 4, 3, 2, 1, 0}
	if got := slices.Collect(rounds(false)); !slices.Equal(got, onward) {
		t.Errorf("rounds onward are %v", got)
	}
	if got := slices.Collect(rounds(true)); !slices.Equal(got, backward) {
		t.Errorf("rounds back are %v", got)
	}
	for _, back := range []bool{false, true} {
		count := 0
		for range rounds(back) {
			count++
			if count == 3 {
				break
			}
		}
		if count != 3 {
			t.Errorf("rounds that were left behind the third are %d", count)
		}
	}
}

// P6.1, P6.2: each turn changes one half within its bits, and the same turn once more undoes it; the halves that were handed to it stay.
func TestTurn(t *testing.T) {
	for _, key := range keys() {
		for _, n := range words() {
			was := part(n)
			for r := range rounds(false) {
				h := was
				got := turn(key, r, h)
				if h != was || got[1-r%2] != was[1-r%2] || got[0] >= 1<<31 || got[1] >= 1<<30 {
					t.Errorf("round %d of %v by %#x is %v", r, was, key, got)
				}
				if again := turn(key, r, got); again != was {
					t.Errorf("round %d of %v by %#x, done twice, is %v", r, was, key, again)
				}
			}
		}
	}
}

// P6.1: halves are the upper 31 and the lower 30 of the lower 61 bits, and together the number.
func TestHalves(t *testing.T) {
	rows := []struct {
		n    uint64
		want halves
	}{
		{0, halves{0, 0}},
		{1, halves{0, 1}},
		{1<<30 - 1, halves{0, 1<<30 - 1}},
		{1 << 30, halves{1, 0}},
		{1 << 60, halves{1 << 30, 0}},
		{end - 1, halves{1<<31 - 1, 1<<30 - 1}},
		{end, halves{0, 0}},
		{end + 1, halves{0, 1}},
		{top, halves{1<<31 - 1, 1<<30 - 1}},
	}
	for _, r := range rows {
		got := part(r.n)
		if got != r.want || got.whole() != r.n%end {
			t.Errorf("the halves of %#x are %v, together %#x", r.n, got, got.whole())
		}
	}
}
