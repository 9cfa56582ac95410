package survey_test

import (
	"math/bits"
	"slices"
	"testing"

	"recoup/api"
	"recoup/floor"
	"recoup/survey"
)

// P20.4

// A pattern that has a fatal one in it is fatal; it has one in it just if it has
// one with a block less, or is the least itself.
func TestWhatHasAFatalOneInItIsFatal(t *testing.T) {
	met := 0
	everyLayout(func(k code, l api.Layout) {
		fatal := map[api.Set]bool{}
		for lost, ok := range survey.Patterns(l) {
			for _, block := range numbersOf(lost) {
				if fatal[lost&^set(block)] {
					met++
					if ok {
						t.Errorf("%v: %v are fatal, %v are not", k, numbersOf(lost&^set(block)), numbersOf(lost))
					}
				}
			}
			fatal[lost] = !ok
		}
	})
	if met < 10000 {
		t.Errorf("%d patterns have a fatal one in them", met)
	}
}

// The same of what Look tells, asked of each two of the patterns.
func TestWhatLookTellsToBeFatalIsSoWithMore(t *testing.T) {
	for _, k := range codes() {
		l := alone(k, k.c.G.Rows)
		if l.Tolerate > 7 {
			continue
		}
		r, _ := survey.Look(l)
		told := map[api.Set]bool{}
		for _, lost := range r.Fatal {
			told[lost] = true
		}
		for _, lost := range r.Fatal {
			for more := range api.Set(1) << l.Tolerate {
				if !told[lost|more] {
					t.Errorf("%v: %v are fatal, %v are not", k, numbersOf(lost), numbersOf(lost|more))
				}
			}
		}
	}
}

func TestWhatIsWithinTheToleranceIsRecovered(t *testing.T) {
	less, more := 0, 0
	everyLayout(func(k code, l api.Layout) {
		r, _ := survey.Look(l)
		if r.Tolerance < 0 || r.Tolerance > l.Tolerate {
			t.Errorf("%v, tolerate %d: the tolerance %d", k, l.Tolerate, r.Tolerance)
		}
		found := false
		for lost, ok := range survey.Patterns(l) {
			size := bits.OnesCount64(uint64(lost))
			if size <= r.Tolerance && (!ok || slices.Contains(r.Fatal, lost)) {
				t.Errorf("%v: the tolerance %d, but %v are fatal", k, r.Tolerance, numbersOf(lost))
			}
			found = found || size == r.Tolerance+1 && !ok
		}
		if found != (r.Tolerance < l.Tolerate) {
			t.Errorf("%v, tolerate %d: the tolerance %d, but of one more some are fatal: %v", k, l.Tolerate, r.Tolerance, found)
		}
		if found {
			less++
		} else {
			more++
		}
	})
	if less < 100 || more < 100 {
		t.Errorf("%d layouts bear less than they are asked for, %d do not", less, more)
	}
}

// Each block is lost with its home, and with no other domain.
func TestNoTwoDomainsShareBlocks(t *testing.T) {
	everyLayout(func(k code, l api.Layout) {
		var met api.Set
		for d := range l.Domains {
			blocks, e := floor.Blocks(l.Homes, d)
			if e != api.OK || met&blocks != 0 {
				t.Errorf("%v: the domain %d has %v, others %v", k, d, numbersOf(blocks), numbersOf(met))
			}
			met |= blocks
		}
		if met != set(rising(0, k.c.G.Rows)...) {
			t.Errorf("%v: the domains have %v", k, numbersOf(met))
		}
	})
}

// Where each block is needed, a set of domains survives just if it has none: the
// domains that have some are as many as homes that differ.
func TestDomainsHaveTheirOwnBlocksAlone(t *testing.T) {
	for _, k := range codes() {
		if k.name != "reed(1, 0)" && k.name != "reed(3, 0)" {
			continue
		}
		for _, p := range places(k.c.G.Rows) {
			l := laid(k, p, 1)
			for _, domains := range someDomains(l.Domains, 3) {
				has := slices.ContainsFunc(l.Homes, func(home int) bool { return slices.Contains(domains, home) })
				survivesIs(t, k.name, l, domains, !has)
			}
		}
	}
}

func TestADomainWhoseAisleSurvivesSurvives(t *testing.T) {
	everyLayout(func(k code, l api.Layout) {
		r, _ := survey.Look(l)
		for d := range l.Domains {
			if r.Aisles[d] && !r.Domains[d] {
				t.Errorf("%v, %v: the aisle of %d survives, the domain does not", k, l.Homes, d)
			}
		}
	})
}

// What survives does so with fewer domains.
func TestFewerDomainsSurvive(t *testing.T) {
	everyLayout(func(k code, l api.Layout) {
		for _, domains := range someDomains(l.Domains, 7) {
			if ok, _ := survey.Survives(l, set(domains...)); !ok {
				continue
			}
			for _, d := range domains {
				fewer := set(domains...) &^ set(d)
				if ok, e := survey.Survives(l, fewer); !ok || e != api.OK {
					t.Errorf("%v: the domains %v survive, %v don't: %v", k, domains, numbersOf(fewer), e)
				}
			}
		}
	})
}

// Each block at home alone, in as many domains and in more, in any order.
func TestEachBlockAtHomeAlone(t *testing.T) {
	found := map[bool]int{}
	for _, k := range codes() {
		blocks := k.c.G.Rows
		back, up := rising(0, blocks), rising(64-blocks, 64)
		slices.Reverse(back)
		for _, p := range []place{
			{api.PRow, blocks, 0, nil}, {api.PSpread, blocks, 0, nil}, {api.PSpiral, 64, 1, nil}, {api.PRow, 64, 0, nil},
			{api.PList, blocks, 0, back}, {api.PList, 64, 0, up},
		} {
			for tolerate := 1; tolerate <= blocks; tolerate++ {
				l := laid(k, p, tolerate)
				r, _ := survey.Look(l)
				fatal := slices.ContainsFunc(r.Fatal, func(lost api.Set) bool { return bits.OnesCount64(uint64(lost)) == 1 })
				found[fatal]++
				if slices.Contains(r.Domains, false) != fatal {
					t.Errorf("%v: the domains %v, one block is fatal: %v", k, r.Domains, fatal)
				}
				for block, home := range l.Homes {
					if r.Domains[home] == slices.Contains(r.Fatal, set(block)) {
						t.Errorf("%v: the domain %d, the home of %d: %v", k, home, block, r.Domains[home])
					}
				}
			}
		}
	}
	if found[true] < 20 || found[false] < 20 {
		t.Errorf("one block is fatal: %v", found)
	}
}
