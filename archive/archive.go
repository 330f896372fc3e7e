// Package archive: the slots of one archive.
package archive

import (
	"cmp"
	"slices"

	"sundial/api"
)

// Slot is free as long as it is not taken; a slot of zeros is free.
type Slot struct {
	Taken        bool
	Stamp, Value int
}

// Archive has a slot for each stretch of its step, as far as it reaches.
type Archive struct {
	Step  int
	Slots []Slot
}

// New makes an archive all of whose slots are free.
func New(a api.Archive) Archive {
	return Archive{Step: a.Step, Slots: make([]Slot, a.Slots)}
}

// Shape tells what the archive was made with.
func (a Archive) Shape() api.Archive {
	return api.Archive{Step: a.Step, Slots: len(a.Slots)}
}

// Covers tells whether the archive covers a stamp at the time now.
func (a Archive) Covers(now, stamp int) bool {
	return a.Oldest(now) <= stamp && stamp <= now
}

// Oldest answers the least stamp that the archive covers at the time now; it may be below 0.
func (a Archive) Oldest(now int) int {
	return now - a.reach() + 1
}

// Beginning answers the beginning of a stamp's stretch of the archive's step. The stamp is not below 0.
func (a Archive) Beginning(stamp int) int {
	return stamp - stamp%a.Step
}

// Write puts a value into the slot of the stamp's stretch, whatever that slot had. The stamp is not below 0.
func (a Archive) Write(stamp, value int) {
	begin := a.Beginning(stamp)
	a.Slots[a.slotOf(begin)] = Slot{Taken: true, Stamp: begin, Value: value}
}

// Points answers what the archive has from from to until, both of them too, in the order of the stamps.
func (a Archive) Points(from, until int) []api.Point {
	var points []api.Point
	for _, s := range a.Slots {
		if s.Taken && from <= s.Stamp && s.Stamp <= until {
			points = append(points, api.Point{Stamp: s.Stamp, Value: s.Value})
		}
	}
	// The slots go round: that of a later stamp may stand ahead of that of an earlier one.
	slices.SortFunc(points, func(p, q api.Point) int { return cmp.Compare(p.Stamp, q.Stamp) })
	return points
}

func (a Archive) reach() int { return a.Step * len(a.Slots) }

func (a Archive) slotOf(aligned int) int { return aligned / a.Step % len(a.Slots) }
