package config

import (
	"slices"
	"testing"

	"sundial/api"
)

func TestUsedEndsAtTheFirstZero(t *testing.T) {
	a, b, none := api.Archive{Step: 10, Slots: 6}, api.Archive{Step: 60, Slots: 5}, api.Archive{}
	for _, k := range []struct {
		archives [api.MaxArchives]api.Archive
		want     []api.Archive
	}{
		{[api.MaxArchives]api.Archive{}, nil},
		{[api.MaxArchives]api.Archive{a}, []api.Archive{a}},
		{[api.MaxArchives]api.Archive{a, b}, []api.Archive{a, b}},
		{[api.MaxArchives]api.Archive{a, b, a, b}, []api.Archive{a, b, a, b}},
		{[api.MaxArchives]api.Archive{a, none, b}, []api.Archive{a}},
		{[api.MaxArchives]api.Archive{none, a, b}, nil},
		{[api.MaxArchives]api.Archive{{Step: 1}, {Slots: 1}}, []api.Archive{{Step: 1}, {Slots: 1}}},
	} {
		if got := Used(api.Config{Archives: k.archives}); !slices.Equal(got, k.want) {
			t.Errorf("Used(%v) = %v, want %v", k.archives, got, k.want)
		}
	}
}

// TestGoodPairs holds every pair of small archives against P2's words, taken by
// counting instead of by dividing and multiplying.
func TestGoodPairs(t *testing.T) {
	const most = 8
	for number := range most * most * most * most {
		finer := api.Archive{Step: number%most + 1, Slots: number/most%most + 1}
		coarser := api.Archive{Step: number/most/most%most + 1, Slots: number/most/most/most + 1}
		c := api.Config{Archives: [api.MaxArchives]api.Archive{finer, coarser}, Method: api.Sum}
		if got, want := Good(c), fitByCounting(finer, coarser); got != want {
			t.Errorf("Good with %v ahead of %v = %v, want %v", finer, coarser, got, want)
		}
	}
}

func fitByCounting(finer, coarser api.Archive) bool {
	steps, whole := 0, 0
	for whole < coarser.Step {
		whole += finer.Step
		steps++
	}
	reachLeft := 0
	for range coarser.Slots {
		reachLeft += coarser.Step
	}
	for range finer.Slots {
		reachLeft -= finer.Step
	}
	return steps > 1 && whole == coarser.Step && reachLeft > 0 && finer.Slots >= steps
}
