package archive

import (
	"testing"

	"sundial/api"
)

func TestNewArchiveIsFreeAndOfItsShape(t *testing.T) {
	for _, shape := range []api.Archive{{Step: 1, Slots: 1}, {Step: 10, Slots: 6}, {Step: api.MaxStep, Slots: api.MaxSlots}} {
		a := New(shape)
		if a.Shape() != shape {
			t.Errorf("Shape() = %v, want %v", a.Shape(), shape)
		}
		for i, s := range a.Slots {
			if s.Taken {
				t.Errorf("slot %d of a new archive %v is not free: %v", i, shape, s)
			}
		}
	}
}

func TestArchivesShareNoSlots(t *testing.T) {
	shape := api.Archive{Step: 10, Slots: 6}
	one, other := New(shape), New(shape)
	one.Slots[3] = Slot{Taken: true, Stamp: 90, Value: 7}
	if other.Slots[3].Taken {
		t.Error("what is written into one archive is seen in another")
	}
}
