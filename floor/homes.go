package floor

import "recoup/api"

// Homes is the home of each block, as the kind of placement says.
func Homes(p api.PlaceKind, blocks, domains, step int, list []int) ([]int, api.Errno) {
	if !isSide(blocks) || !isSide(domains) || !fitsStep(p, step) || !fitsList(p, blocks, domains, list) {
		return nil, api.ErrArg
	}
	homes := make([]int, blocks)
	for b := range homes {
		switch p {
		case api.PRow:
			homes[b] = b % domains
		case api.PSpread:
			homes[b] = b * domains / blocks
		case api.PSpiral:
			// A great step would lead out of a small int; its rest goes as far.
			homes[b] = b * (step % domains) % domains
		case api.PList:
			homes[b] = list[b]
		default:
			return nil, api.ErrArg
		}
	}
	return homes, api.OK
}

// isSide asks whether there may be n blocks, or n domains.
func isSide(n int) bool {
	return 1 <= n && n <= api.MaxSide
}

// fitsStep asks whether step is one of placements of this kind.
func fitsStep(p api.PlaceKind, step int) bool {
	if p != api.PSpiral {
		return step == 0
	}
	return 1 <= step && step <= api.MaxNumber
}

// fitsList asks whether list is one of placements of this kind.
func fitsList(p api.PlaceKind, blocks, domains int, list []int) bool {
	if p != api.PList {
		return len(list) == 0
	}
	if len(list) != blocks {
		return false
	}
	for _, home := range list {
		if home < 0 || home >= domains {
			return false
		}
	}
	return true
}

// Blocks is the set of the blocks whose home is d.
func Blocks(homes []int, d int) (api.Set, api.Errno) {
	if len(homes) > api.MaxSide {
		return 0, api.ErrArg
	}
	var made api.Set
	for b, home := range homes {
		if home == d {
			made |= 1 << b
		}
	}
	return made, api.OK
}
