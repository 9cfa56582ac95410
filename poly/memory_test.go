package poly_test

import (
	"testing"

	"recoup/api"
	"recoup/poly"
)

// calls are all of the package, each over two lists, telling the lists that it
// answers.
func calls() map[string]func(p, q []byte) [][]byte {
	one := func(f func(p, q []byte) ([]byte, api.Errno)) func(p, q []byte) [][]byte {
		return func(p, q []byte) [][]byte {
			answer, _ := f(p, q)
			return [][]byte{answer}
		}
	}
	return map[string]func(p, q []byte) [][]byte{
		"Trim":        func(p, _ []byte) [][]byte { return [][]byte{poly.Trim(p)} },
		"Degree":      func(p, _ []byte) [][]byte { poly.Degree(p); return nil },
		"Eval":        func(p, _ []byte) [][]byte { poly.Eval(p, 3); return nil },
		"Roots":       func(p, _ []byte) [][]byte { return [][]byte{poly.Roots(p)} },
		"Add":         one(poly.Add),
		"Mul":         one(poly.Mul),
		"Interpolate": one(poly.Interpolate),
		"GCD":         one(poly.GCD),
		"DivMod": func(p, q []byte) [][]byte {
			quo, rem, _ := poly.DivMod(p, q)
			return [][]byte{quo, rem}
		},
		"FromRoots": func(p, _ []byte) [][]byte {
			answer, _ := poly.FromRoots(p...)
			return [][]byte{answer}
		},
	}
}

// pairs are arguments of all kinds: also one that is 0, one that is 1, one that
// divides the other, some that calls refuse.
func pairs() [][2][]byte {
	return [][2][]byte{
		{list(0, 1), list(0, 2)},
		{list(5, 1), list(0, 2)},
		{list(0, 1), list(5, 2)},
		{withNoughts(nil, 3), withNoughts(list(4, 2), 5)},
		{withNoughts(list(4, 2), 5), withNoughts(nil, 3)},
		{list(20, 1), withNoughts([]byte{1}, 4)},
		{withNoughts([]byte{1}, 4), list(20, 1)},
		{list(20, 1), list(20, 1)},
		{list(20, 1), list(20, 2)},
		{list(20, 1), list(7, 2)},
		{list(7, 1), list(20, 2)},
		{withNoughts(list(20, 1), 3), withNoughts(list(7, 2), 9)},
		{append(slowFromRoots([]byte{1, 2, 2, 3}), 0), append(slowFromRoots([]byte{2, 2}), 0)},
		{withNoughts(elements(), 0), list(256, 2)},
		{list(400, 1), list(300, 2)},
		{list(api.MaxPoly+1, 1), list(api.MaxPoly+1, 1)},
		{list(2000, 1), list(3, 2)},
	}
}

// Rule 5: what is handed in stays as it is, also where a call fails.
func TestWhatIsHandedInStays(t *testing.T) {
	for name, call := range calls() {
		for i, pair := range pairs() {
			first, second := hold(pair[0]), hold(pair[1])
			call(pair[0], pair[1])
			if !first.same() || !second.same() {
				t.Errorf("%s of pair %d changed what it was handed", name, i)
			}
		}
	}
}

// Rule 5: one list may be handed in twice.
func TestOneListHandedInTwice(t *testing.T) {
	for name, call := range calls() {
		for i, pair := range pairs() {
			twice, alike := pair[0], withNoughts(pair[0], 0)
			before := hold(twice)
			got, want := call(twice, twice), call(twice, alike)
			if !before.same() {
				t.Errorf("%s of list %d twice changed it", name, i)
			}
			for k := range want {
				if string(got[k]) != string(want[k]) {
					t.Errorf("%s of list %d twice = %d, want %d", name, i, got, want)
				}
			}
		}
	}
}

// Rule 5: what is answered is new memory, with its room behind the end; no two
// lists of one answer share any.
func TestAnswersAreNewMemory(t *testing.T) {
	for name, call := range calls() {
		for i, pair := range pairs() {
			first, second := hold(pair[0]), hold(pair[1])
			answers, others := call(pair[0], pair[1]), call(pair[0], pair[1])
			all := append(answers, others...)
			for k, answer := range all {
				kept := holdAllBut(all, k)
				spoil(answer)
				if !first.same() || !second.same() {
					t.Errorf("%s of pair %d shares memory with what it was handed", name, i)
				}
				if !allSame(kept) {
					t.Errorf("%s of pair %d: two answers share memory", name, i)
				}
			}
			kept := holdAllBut(all, -1)
			spoil(pair[0])
			spoil(pair[1])
			if !allSame(kept) {
				t.Errorf("%s of pair %d hangs on what becomes of its arguments", name, i)
			}
		}
	}
}

func holdAllBut(lists [][]byte, left int) []held {
	var kept []held
	for i, one := range lists {
		if i != left {
			kept = append(kept, hold(one))
		}
	}
	return kept
}

func allSame(kept []held) bool {
	for _, one := range kept {
		if !one.same() {
			return false
		}
	}
	return true
}
