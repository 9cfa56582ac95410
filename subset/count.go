package subset

import "recoup/api"

// most is what Upto may tell.
const most = 1 << 62

// Choose is how many sets of n have the size k.
func Choose(n, k int) (int, api.Errno) {
	switch {
	case !isBound(n):
		return 0, api.ErrArg
	case k < 0 || k > n:
		return 0, api.OK
	}
	found := 1
	// There are as many of the size n - k: the numbers that are left out.
	for size := range min(k, n-k) {
		found = oneLarger(found, n, size)
	}
	return found, api.OK
}

// Upto is how many sets of n have at most t numbers.
func Upto(n, t int) (int, api.Errno) {
	if !isBound(n) {
		return 0, api.ErrArg
	}
	total, found := 0, 1
	for size := 0; size <= min(t, n); size++ {
		total += found
		if total > most {
			return 0, api.ErrLimit
		}
		found = oneLarger(found, n, size)
	}
	return total, api.OK
}

// oneLarger is how many sets of n have one number more than size, found being
// how many have the size: each gets one of the n - size others, and comes out
// once for each of its numbers.
func oneLarger(found, n, size int) int {
	return portion(found, n-size, size+1)
}

// portion is whole times part, divided by parts, where that comes out even.
// It divides ahead of the product, which could leave its bounds.
func portion(whole, part, parts int) int {
	return whole/parts*part + whole%parts*part/parts
}
