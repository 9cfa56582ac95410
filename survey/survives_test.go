package survey_test

import (
	"math"
	"testing"

	"recoup/api"
	"recoup/shape"
	"recoup/survey"
)

// P20.2: Survives.

// survivesIs tells where a set of domains is told otherwise.
func survivesIs(t *testing.T, name string, l api.Layout, domains []int, want bool) {
	t.Helper()
	if ok, e := survey.Survives(l, set(domains...)); ok != want || e != api.OK {
		t.Errorf("%s, %v: Survives of %v = %v, %v, want %v", name, l.Homes, domains, ok, e, want)
	}
}

// someDomains are sets of so many: all of them, if there are few; else none, all,
// each alone, and any ones.
func someDomains(domains, seed int) [][]int {
	if domains <= 5 {
		var made [][]int
		for s := range api.Set(1) << domains {
			made = append(made, numbersOf(s))
		}
		return made
	}
	made := [][]int{nil, rising(0, domains), rising(1, domains), rising(0, domains-1)}
	for d := range domains {
		made = append(made, []int{d})
	}
	from := seeded(seed)
	for range 12 {
		var list []int
		for d := range domains {
			if from.below(3) == 0 {
				list = append(list, d)
			}
		}
		made = append(made, list)
	}
	return made
}

func TestSurvives(t *testing.T) {
	found := map[bool]int{}
	everyLayout(func(k code, l api.Layout) {
		for _, domains := range someDomains(l.Domains, l.Tolerate) {
			want := k.recovers(slowLost(l.Homes, domains))
			found[want]++
			survivesIs(t, k.name, l, domains, want)
		}
	})
	if found[true] < 1000 || found[false] < 1000 {
		t.Errorf("%d sets of domains survive, %d don't", found[true], found[false])
	}
}

func TestSurvivesKnown(t *testing.T) {
	example := from(t, "code x = reed(2, 1); use x; domains 2; tolerate 2;")
	survivesIs(t, "the example", example, nil, true)
	survivesIs(t, "the example", example, []int{0}, false)
	survivesIs(t, "the example", example, []int{1}, true)
	survivesIs(t, "the example", example, []int{0, 1}, false)

	// Two domains that survive, each alone; together they don't.
	pairs := from(t, "code x = local(4, 2, 0); use x; domains 4; place list [0, 1, 2, 3, 2, 1];")
	for _, c := range []struct {
		domains []int
		want    bool
	}{
		{[]int{0}, true}, {[]int{1}, true}, {[]int{2}, true}, {[]int{3}, true},
		{[]int{0, 3}, true}, {[]int{0, 1}, false}, {[]int{0, 2}, false}, {[]int{1, 2}, false}, {[]int{1, 3}, false}, {[]int{2, 3}, false},
	} {
		survivesIs(t, "pairs", pairs, c.domains, c.want)
	}
}

// With Tolerate 0 domains are asked for all the same, whatever their number of
// blocks is.
func TestSurvivesHangsNotOnTolerate(t *testing.T) {
	k := known("cross", must(shape.Cross(3, 5)))
	for tolerate := range 9 {
		for domains := range 9 {
			survivesIs(t, "each block alone", alone(k, tolerate), rising(0, domains), domains <= 5)
			survivesIs(t, "each block alone", alone(k, tolerate), rising(8-domains, 8), domains <= 5)
		}
	}
}

func TestSurvivesOfMaxSideDomains(t *testing.T) {
	k := known("cross", must(shape.Cross(1, 63)))
	l := alone(k, 0)
	for d := range 64 {
		survivesIs(t, "one is lost", l, []int{d}, true)
		survivesIs(t, "one is left", l, others(64, []int{d}), true)
	}
	if ok, e := survey.Survives(l, math.MaxUint64); ok || e != api.OK {
		t.Errorf("all are lost: %v, %v", ok, e)
	}
	// All blocks lie in the last of 64 domains.
	last := laid(known("one block", must(shape.Explicit(of(1, 3)))), place{api.PList, 64, 0, []int{63}}, 1)
	survivesIs(t, "the last one", last, []int{63}, false)
	survivesIs(t, "all but the last one", last, rising(0, 63), true)
}

// ErrArg is told of each number that is not below Domains, alone and beside
// others, though there are as many blocks.
func TestDomainsThatAreNotThere(t *testing.T) {
	everyLayout(func(k code, l api.Layout) {
		for d := l.Domains; d < 64; d++ {
			for _, domains := range [][]int{{d}, {0, d}, rising(0, d+1), rising(d, 64)} {
				if ok, e := survey.Survives(l, set(domains...)); ok || e != api.ErrArg {
					t.Fatalf("%v, %d domains: Survives of %v = %v, %v", k, l.Domains, domains, ok, e)
				}
			}
		}
	})
	l := from(t, "code x = reed(1, 63); use x; domains 63;")
	if ok, e := survey.Survives(l, math.MaxUint64); ok || e != api.ErrArg {
		t.Errorf("64 of 63 domains: %v, %v", ok, e)
	}
}

// What Look tells of each domain, and of its aisle, Survives tells of these.
func TestSurvivesTellsWhatLookTells(t *testing.T) {
	everyLayout(func(k code, l api.Layout) {
		r, _ := survey.Look(l)
		for d := range l.Domains {
			survivesIs(t, k.name, l, []int{d}, r.Domains[d])
			survivesIs(t, k.name, l, slowAisle(l.Domains, d), r.Aisles[d])
		}
	})
}
