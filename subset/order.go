package subset

import (
	"iter"

	"recoup/api"
)

// Next is the set of n behind s, of those of its size.
func Next(n int, s api.Set) (api.Set, bool) {
	if !isSetOf(n, s) {
		return 0, false
	}
	// Going back, moved counts the numbers met: the first that has room above
	// it, for all of these, is where the next list differs.
	moved := 0
	number := n
	for number > 0 {
		number--
		if !Has(s, number) {
			continue
		}
		moved++
		if number+moved < n {
			goto room
		}
	}
	return 0, false
room:
	// The least numbers above it are the ones that stand ahead.
	return s&first(number) | first(moved)<<(number+1), true
}

// All goes over the sets of n of the size k.
func All(n, k int) iter.Seq[api.Set] {
	return func(yield func(api.Set) bool) {
		s, e := At(n, k, 0)
		for ok := e == api.OK; ok && yield(s); {
			s, ok = Next(n, s)
		}
	}
}

// Place is how many sets of n, of the size of s, stand ahead of s.
func Place(n int, s api.Set) (int, api.Errno) {
	if !isSetOf(n, s) {
		return 0, api.ErrArg
	}
	missing := Count(s)
	alike, _ := Choose(n, missing)
	place := 0
	for number := range n {
		with := having(alike, missing, n-number)
		if Has(s, number) {
			alike = with
			missing--
		} else {
			place += with
			alike -= with
		}
	}
	return place, api.OK
}

// At is the set of n, of the size k, that has this place.
func At(n, k, place int) (api.Set, api.Errno) {
	alike, e := Choose(n, k)
	if e != api.OK || place < 0 || place >= alike {
		return 0, api.ErrArg
	}
	var made api.Set
	missing := k
	for number := range n {
		with := having(alike, missing, n-number)
		if place < with {
			made |= 1 << number
			alike = with
			missing--
		} else {
			place -= with
			alike -= with
		}
	}
	return made, api.OK
}

// having is how many of the sets that are alike so far, and differ in which of
// the left numbers are the missing ones, have the least of those: each is in
// equally many. They are the ones that stand ahead.
func having(alike, missing, left int) int {
	return portion(alike, missing, left)
}
