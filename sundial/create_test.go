package sundial

import (
	"testing"

	"sundial/api"
)

func TestCreateMakesAllSlotsFree(t *testing.T) {
	c := api.Config{Archives: [api.MaxArchives]api.Archive{{Step: 10, Slots: 6}, {Step: 60, Slots: 5}}, Method: api.Average, Factor: 50}
	d, e := Create(c)
	if e != api.OK || len(d.archives) != 2 {
		t.Fatalf("Create(%v) = %v, %d", c, d, e)
	}
	for i, a := range d.archives {
		if a.Step != c.Archives[i].Step || len(a.Slots) != c.Archives[i].Slots {
			t.Errorf("archive %d has the step %d and %d slots, want %v", i, a.Step, len(a.Slots), c.Archives[i])
		}
		for j, s := range a.Slots {
			if s.Taken {
				t.Errorf("slot %d of archive %d is not free: %v", j, i, s)
			}
		}
	}
}
