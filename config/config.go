// Package config: which configurations may be (P2).
package config

import (
	"sundial/api"
	"sundial/method"
)

const maxFactor = 100

// Good tells whether a configuration may be.
func Good(c api.Config) bool {
	_, known := method.ByNumber(c.Method)
	used := Used(c)
	return known && within(c.Factor, 0, maxFactor) &&
		len(used) > 0 && allZero(c.Archives[len(used):]) &&
		allBounded(used) && allFit(used)
}

// Used answers the archives that are there: those ahead of the first that is zero.
func Used(c api.Config) []api.Archive {
	count := 0
	for count < len(c.Archives) && c.Archives[count] != (api.Archive{}) {
		count++
	}
	return c.Archives[:count]
}

func allZero(archives []api.Archive) bool {
	for _, a := range archives {
		if a != (api.Archive{}) {
			return false
		}
	}
	return true
}

func allBounded(archives []api.Archive) bool {
	for _, a := range archives {
		if !within(a.Step, 1, api.MaxStep) || !within(a.Slots, 1, api.MaxSlots) {
			return false
		}
	}
	return true
}

// allFit takes bounded archives only: with others the steps could not be divided by, and the reaches could wrap round.
func allFit(archives []api.Archive) bool {
	for i := 1; i < len(archives); i++ {
		if !fit(archives[i-1], archives[i]) {
			return false
		}
	}
	return true
}

func fit(finer, coarser api.Archive) bool {
	return finer.Step < coarser.Step && coarser.Step%finer.Step == 0 &&
		reach(finer) < reach(coarser) &&
		finer.Slots >= coarser.Step/finer.Step
}

func reach(a api.Archive) int { return a.Step * a.Slots }

func within(number, least, most int) bool { return least <= number && number <= most }
