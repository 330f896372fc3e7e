// Package archive: the slots of one archive.
package archive

import "sundial/api"

// Slot is free as long as it is not taken; a slot of zeros is free.
type Slot struct {
	Taken        bool
	Stamp, Value int
}

// Archive has a slot for each stretch of its step, as far as it reaches.
type Archive struct {
	Step  int
	Slots []Slot
}

// New makes an archive all of whose slots are free.
func New(a api.Archive) Archive {
	return Archive{Step: a.Step, Slots: make([]Slot, a.Slots)}
}

// Shape tells what the archive was made with.
func (a Archive) Shape() api.Archive {
	return api.Archive{Step: a.Step, Slots: len(a.Slots)}
}
