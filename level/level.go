// Package level is layer 1: see shared/doc/01-level.md.
package level

import "curtilage/api"

// signs has each level's sign at the place of its number, so that Text and Read can't fall apart.
const signs = "*0123J"

// Fit tells whether a number is a level.
func Fit(n int) bool { return api.Star <= n && n <= api.Above }

// meant is the level that a number stands for, so that no other function meets one that is none.
func meant(n int) int {
	if Fit(n) {
		return n
	}
	return api.Lev1
}

// greatest is the greatest of levels; of none it is Star, which changes no other level that it is held against.
func greatest(levels ...int) int {
	top := api.Star
	for i := range len(levels) {
		if lev := meant(levels[i]); lev > top {
			top = lev
		}
	}
	return top
}

// mirror turns the order of levels round, so that the least of some is the mirror of the greatest of their mirrors.
func mirror(n int) int { return api.Above - meant(n) }

// Leq tells whether one level is at most another.
func Leq(a, b int) bool { return meant(a) <= meant(b) }

// Join is the greater level.
func Join(a, b int) int { return greatest(a, b) }

// Meet is the lesser level.
func Meet(a, b int) int { return mirror(greatest(mirror(a), mirror(b))) }

// Raise is a level with ownership above all.
func Raise(n int) int {
	if n == api.Star {
		return api.Above
	}
	return meant(n)
}

// Lower is a level with what is above all as ownership.
func Lower(n int) int {
	if n == api.Above {
		return api.Star
	}
	return meant(n)
}

// Text is a level's sign.
func Text(n int) string {
	at := meant(n)
	return signs[at : at+1]
}

// Read is the level of a sign.
func Read(s string) (int, api.Errno) {
	for n := range len(signs) {
		if Text(n) == s {
			return n, api.OK
		}
	}
	return 0, api.ErrForm
}
