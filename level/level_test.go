package level

import (
	"math"
	"testing"

	"curtilage/api"
)

// levels are all there are, in their order.
var levels = []int{api.Star, api.Lev0, api.Lev1, api.Lev2, api.Lev3, api.Above}

// others are numbers that are no level: just beside them, far off, and such as are a level's number in fewer bits.
var others = []int{-1, 6, 7, -2, -5, 100, 255, 256, 260, 1 << 16, 1 << 32, 1<<32 + 5, -1 << 32, math.MaxInt, math.MinInt, math.MinInt + 5}

// numbers are levels and others.
func numbers() []int { return append(append([]int{}, levels...), others...) }

// stands is the level that a number stands for, told without the package's own functions.
func stands(n int) int {
	for _, lev := range levels {
		if n == lev {
			return n
		}
	}
	return api.Lev1
}

// eachTwo calls f for all pairs of numbers.
func eachTwo(f func(a, b int)) {
	for _, a := range numbers() {
		for _, b := range numbers() {
			f(a, b)
		}
	}
}

// P1.1: Fit tells levels from all other numbers.
func TestFit(t *testing.T) {
	for _, n := range levels {
		if !Fit(n) {
			t.Errorf("Fit(%d) is false", n)
		}
	}
	for _, n := range others {
		if Fit(n) {
			t.Errorf("Fit(%d) is true", n)
		}
	}
}

// P1.1: Leq, Join and Meet go by the numbers' order, and a number that is no level stands for Lev1.
func TestOrderOfNumbers(t *testing.T) {
	eachTwo(func(a, b int) {
		x, y := stands(a), stands(b)
		if got := Leq(a, b); got != (x <= y) {
			t.Errorf("Leq(%d, %d) is %v", a, b, got)
		}
		if got := Join(a, b); got != max(x, y) {
			t.Errorf("Join(%d, %d) is %d, not %d", a, b, got, max(x, y))
		}
		if got := Meet(a, b); got != min(x, y) {
			t.Errorf("Meet(%d, %d) is %d, not %d", a, b, got, min(x, y))
		}
	})
}

// P1.1: rows written out, with the edges: ownership, above all, and numbers that are no level.
func TestJoinAndMeetRows(t *testing.T) {
	rows := []struct{ a, b, join, meet int }{
		{api.Star, api.Lev3, api.Lev3, api.Star},
		{api.Star, api.Above, api.Above, api.Star},
		{api.Above, api.Lev3, api.Above, api.Lev3},
		{api.Star, api.Lev0, api.Lev0, api.Star},
		{api.Lev2, api.Lev2, api.Lev2, api.Lev2},
		{-1, api.Lev0, api.Lev1, api.Lev0},
		{6, api.Lev2, api.Lev2, api.Lev1},
		{6, api.Above, api.Above, api.Lev1},
		{-1, api.Star, api.Lev1, api.Star},
		{math.MinInt, math.MaxInt, api.Lev1, api.Lev1},
	}
	for _, r := range rows {
		if got := Join(r.a, r.b); got != r.join {
			t.Errorf("Join(%d, %d) is %d, not %d", r.a, r.b, got, r.join)
		}
		if got := Meet(r.a, r.b); got != r.meet {
			t.Errorf("Meet(%d, %d) is %d, not %d", r.a, r.b, got, r.meet)
		}
	}
}

// P1.1: the greatest of any number of levels, none of them and many among them.
func TestGreatest(t *testing.T) {
	rows := []struct {
		in   []int
		want int
	}{
		{nil, api.Star},
		{[]int{api.Star}, api.Star},
		{[]int{9}, api.Lev1},
		{[]int{api.Lev0, api.Lev3, api.Lev2}, api.Lev3},
		{[]int{api.Above, api.Lev3, api.Star, 77}, api.Above},
		{[]int{api.Lev0, -4, api.Star}, api.Lev1},
	}
	for _, r := range rows {
		if got := greatest(r.in...); got != r.want {
			t.Errorf("greatest of %v is %d, not %d", r.in, got, r.want)
		}
	}
}

// P1.2: Raise and Lower.
func TestRaiseAndLower(t *testing.T) {
	rows := []struct{ n, raised, lowered int }{
		{api.Star, api.Above, api.Star},
		{api.Lev0, api.Lev0, api.Lev0},
		{api.Lev1, api.Lev1, api.Lev1},
		{api.Lev2, api.Lev2, api.Lev2},
		{api.Lev3, api.Lev3, api.Lev3},
		{api.Above, api.Above, api.Star},
	}
	for _, n := range others {
		rows = append(rows, struct{ n, raised, lowered int }{n, api.Lev1, api.Lev1})
	}
	for _, r := range rows {
		if got := Raise(r.n); got != r.raised {
			t.Errorf("Raise(%d) is %d, not %d", r.n, got, r.raised)
		}
		if got := Lower(r.n); got != r.lowered {
			t.Errorf("Lower(%d) is %d, not %d", r.n, got, r.lowered)
		}
	}
}

// P1.3: each level's sign, there and back.
func TestTextAndRead(t *testing.T) {
	for n, want := range []string{"*", "0", "1", "2", "3", "J"} {
		if got := Text(n); got != want {
			t.Errorf("Text(%d) is %q, not %q", n, got, want)
		}
		if got, err := Read(want); got != n || err != api.OK {
			t.Errorf("Read(%q) is %d, %v, not %d", want, got, err, n)
		}
	}
	for _, n := range others {
		if got := Text(n); got != "1" {
			t.Errorf("Text(%d) is %q, not 1", n, got)
		}
	}
}

// P1.3: texts that are no level's; beside the error the level is zero.
func TestReadRefuses(t *testing.T) {
	texts := []string{"", "4", "5", "j", "-1", "-", "00", "01", "12", "**", "*0", "0*", "JJ", "3J", "*0123J", " ", " 1", "1 ", "1\n", "\x00", "1\x00", "+1", "K", "I", "\xff", "１", "²", "∗"}
	for _, s := range texts {
		if got, err := Read(s); got != 0 || err != api.ErrForm {
			t.Errorf("Read(%q) is %d, %v, not 0, %v", s, got, err, api.ErrForm)
		}
	}
}

// P1.3: of all texts of one byte, six alone are levels'.
func TestReadOfEachByte(t *testing.T) {
	found := 0
	for b := range 256 {
		if n, err := Read(string([]byte{byte(b)})); err == api.OK {
			found++
			if Text(n) != string([]byte{byte(b)}) {
				t.Errorf("byte %d is read as %d, whose sign is %q", b, n, Text(n))
			}
		}
	}
	if found != len(levels) {
		t.Errorf("%d bytes are levels' signs, not %d", found, len(levels))
	}
}

// P1.4: Leq goes over from one to the next, each two stand in it, and two that are at most each other are the same level.
func TestLeqIsAnOrder(t *testing.T) {
	eachTwo(func(a, b int) {
		if !Leq(a, a) {
			t.Errorf("%d is not at most itself", a)
		}
		if !Leq(a, b) && !Leq(b, a) {
			t.Errorf("%d and %d don't stand in the order", a, b)
		}
		if Leq(a, b) && Leq(b, a) && stands(a) != stands(b) {
			t.Errorf("%d and %d are at most each other", a, b)
		}
		for _, c := range numbers() {
			if Leq(a, b) && Leq(b, c) && !Leq(a, c) {
				t.Errorf("%d, %d, %d: the order does not go over", a, b, c)
			}
		}
	})
}

// P1.4: Join is the least that is not less than both, Meet the greatest that is not more.
func TestJoinIsLeastAndMeetGreatest(t *testing.T) {
	eachTwo(func(a, b int) {
		join, meet := Join(a, b), Meet(a, b)
		if !Fit(join) || !Leq(a, join) || !Leq(b, join) {
			t.Errorf("Join(%d, %d) = %d is less than one", a, b, join)
		}
		if !Fit(meet) || !Leq(meet, a) || !Leq(meet, b) {
			t.Errorf("Meet(%d, %d) = %d is more than one", a, b, meet)
		}
		for _, c := range levels {
			if Leq(a, c) && Leq(b, c) && !Leq(join, c) {
				t.Errorf("Join(%d, %d) = %d, but %d is enough", a, b, join, c)
			}
			if Leq(c, a) && Leq(c, b) && !Leq(c, meet) {
				t.Errorf("Meet(%d, %d) = %d, but %d is not more", a, b, meet, c)
			}
		}
	})
}

// P1.5: Raise and Lower undo each other, but at the one level that each of them can't tell from another.
func TestRaiseAndLowerUndo(t *testing.T) {
	for _, n := range levels {
		if got := Lower(Raise(n)); n != api.Above && got != n {
			t.Errorf("Lower(Raise(%d)) is %d", n, got)
		}
		if got := Raise(Lower(n)); n != api.Star && got != n {
			t.Errorf("Raise(Lower(%d)) is %d", n, got)
		}
	}
	if got := Lower(Raise(api.Above)); got != api.Star {
		t.Errorf("Lower(Raise(Above)) is %d, not Star", got)
	}
	if got := Raise(Lower(api.Star)); got != api.Above {
		t.Errorf("Raise(Lower(Star)) is %d, not Above", got)
	}
}

// P1.5: Read of Text is the level, of others the one that they stand for.
func TestReadOfText(t *testing.T) {
	for _, n := range numbers() {
		if got, err := Read(Text(n)); got != stands(n) || err != api.OK {
			t.Errorf("Read(Text(%d)) is %d, %v, not %d", n, got, err, stands(n))
		}
	}
}
