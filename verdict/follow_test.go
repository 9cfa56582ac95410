package verdict_test

import (
	"bytes"
	"math/bits"
	"slices"
	"testing"

	"recoup/api"
	"recoup/verdict"
)

// P18.4

// dataOf are lists of data for so many columns: noughts, each alone, any ones.
func dataOf(cols, seed int) [][]byte {
	from := seeded(seed)
	alone := make([]byte, cols)
	alone[from.below(cols)] = from.notZero()
	return [][]byte{make([]byte, cols), alone, from.list(cols), bytes.Repeat([]byte{255}, cols)}
}

// spoilt are blocks with something else in the place of the lost ones.
func spoilt(blocks []byte, lost []int, seed int) []byte {
	from := seeded(seed)
	made := bytes.Clone(blocks)
	for _, number := range lost {
		made[number] = from.element()
	}
	return made
}

func TestDataAndLostBlocksAreMade(t *testing.T) {
	everyLost(func(k generator, lost []int) {
		d, ok, _ := verdict.Decode(k.g, set(lost...))
		m, also, _ := verdict.Rebuild(k.g, set(lost...))
		if !ok || !also {
			return
		}
		for seed, data := range dataOf(k.g.Cols, len(lost)) {
			blocks := slowApply(k.g, data)
			var gone []byte
			for _, number := range lost {
				gone = append(gone, blocks[number])
			}
			left := spoilt(blocks, lost, seed)
			if got := slowApply(d, left); !bytes.Equal(got, data) {
				t.Errorf("%s, %v lost: the data %v are made %v", k.name, lost, data, got)
			}
			if got := slowApply(m, left); !bytes.Equal(got, gone) {
				t.Errorf("%s: the lost blocks %v, %v, are made %v", k.name, lost, gone, got)
			}
		}
	})
}

// Neither matrix reads a lost block at all.
func TestLostBlocksAreNotRead(t *testing.T) {
	everyLost(func(k generator, lost []int) {
		left := others(k.g.Rows, lost)
		d, _, _ := verdict.Decode(k.g, set(lost...))
		m, _, _ := verdict.Rebuild(k.g, set(lost...))
		if !readsOnly(d, left) || !readsOnly(m, left) {
			t.Errorf("%s: of %v lost blocks are read", k.name, lost)
		}
	})
}

func TestRecoveredWithFewerLost(t *testing.T) {
	everyLost(func(k generator, lost []int) {
		if ok, _ := verdict.Recovers(k.g, set(lost...)); !ok {
			return
		}
		for place := range lost {
			fewer := slices.Delete(slices.Clone(lost), place, place+1)
			if ok, e := verdict.Recovers(k.g, set(fewer...)); !ok || e != api.OK {
				t.Errorf("%s: %v are recovered, %v are %v, %v", k.name, lost, fewer, ok, e)
			}
		}
	})
}

func TestAsManySourcesAsColumns(t *testing.T) {
	everyLost(func(k generator, lost []int) {
		s, ok, _ := verdict.Sources(k.g, set(lost...))
		if ok && bits.OnesCount64(uint64(s)) != k.g.Cols {
			t.Errorf("%s, %d columns: the sources of %v are %v", k.name, k.g.Cols, lost, numbersOf(s))
		}
		if s&set(lost...) != 0 || s>>(k.g.Rows-1)>>1 != 0 {
			t.Errorf("%s: of the sources %v of %v one is lost or no row", k.name, numbersOf(s), lost)
		}
	})
}

// The sources alone are enough: with all others lost they are the same ones,
// and so are the matrices.
func TestSourcesAloneAreEnough(t *testing.T) {
	everyLost(func(k generator, lost []int) {
		s, ok, _ := verdict.Sources(k.g, set(lost...))
		if !ok {
			return
		}
		rest := set(others(k.g.Rows, numbersOf(s))...)
		if again, ok, e := verdict.Sources(k.g, rest); again != s || !ok || e != api.OK {
			t.Errorf("%s: of the sources %v alone they are %v, %v, %v", k.name, numbersOf(s), numbersOf(again), ok, e)
		}
		one, _, _ := verdict.Decode(k.g, set(lost...))
		other, _, _ := verdict.Decode(k.g, rest)
		if !alike(one, other) {
			t.Errorf("%s: Decode of %v and of all but the sources differ", k.name, lost)
		}
	})
}

// With columns mixed the same blocks are recovered, from the same sources.
func TestMixedColumnsChangeNoVerdict(t *testing.T) {
	for _, k := range append(small(), great()...) {
		other := mixed(k.g, k.g.Rows)
		for place, lost := range lostOf(k.g) {
			if place%3 > 0 {
				continue
			}
			s, ok, _ := verdict.Sources(k.g, set(lost...))
			judged(t, k.name+", mixed", other, lost, numbersOf(s), ok)
			one, _, _ := verdict.Rebuild(k.g, set(lost...))
			if m, _, _ := verdict.Rebuild(other, set(lost...)); !alike(m, one) {
				t.Errorf("%s: Rebuild of %v hangs on how the data are mixed", k.name, lost)
			}
		}
	}
}

// P18.5

// Data and others, made of them by what the left rows make nothing of, have the
// same blocks left. Where lost blocks are recovered there are none such.
func TestNotRecoveredAreTwoListsOfData(t *testing.T) {
	everyLost(func(k generator, lost []int) {
		ok, e := verdict.Recovers(k.g, set(lost...))
		left := picked(k.g, others(k.g.Rows, lost))
		more, found := slowNothing(left)
		if ok == found || e != api.OK {
			t.Fatalf("%s: Recovers of %v = %v, %v; data that can't be told apart: %v", k.name, lost, ok, e, found)
		}
		if ok {
			return
		}
		one := seeded(len(lost)).list(k.g.Cols)
		other := bytes.Clone(one)
		takenOut(other, more, 1)
		if bytes.Equal(one, other) || !bytes.Equal(slowApply(left, one), slowApply(left, other)) {
			t.Errorf("%s: %v are not recovered, but of the data %v and %v the left blocks differ", k.name, lost, one, other)
		}
	})
}

// With one or two columns all data may be gone through.
func TestLeftBlocksTellAllData(t *testing.T) {
	for _, k := range small() {
		if k.g.Cols > 2 || k.g.Cols*k.g.Rows > 8 {
			continue
		}
		for _, lost := range lostOf(k.g) {
			left := picked(k.g, others(k.g.Rows, lost))
			seen := map[string]int{}
			count := 1
			for range k.g.Cols {
				count *= 256
			}
			for number := range count {
				data := []byte{byte(number), byte(number / 256)}[:k.g.Cols]
				blocks := make([]byte, left.Rows)
				for i := range blocks {
					for j, element := range data {
						blocks[i] ^= products[entry(left, i, j)][element]
					}
				}
				seen[string(blocks)]++
			}
			if ok, e := verdict.Recovers(k.g, set(lost...)); ok != (len(seen) == count) || e != api.OK {
				t.Errorf("%s: Recovers of %v = %v, %v; of %d data there are %d lists of left blocks", k.name, lost, ok, e, count, len(seen))
			}
		}
	}
}
