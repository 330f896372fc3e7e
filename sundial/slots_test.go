package sundial

import (
	"slices"
	"testing"

	"sundial/api"
	"sundial/archive"
)

func exampleDatabase(t *testing.T) *Database {
	t.Helper()
	d, e := Create(api.Config{Archives: [api.MaxArchives]api.Archive{{Step: 10, Slots: 6}, {Step: 60, Slots: 5}}, Method: api.Average, Factor: 50})
	if e != api.OK {
		t.Fatalf("Create = %d", e)
	}
	return d
}

func taken(stamp, value int) archive.Slot {
	return archive.Slot{Taken: true, Stamp: stamp, Value: value}
}

// holds holds all slots of an archive against those that are told by their numbers; the others must be free.
func holds(t *testing.T, a archive.Archive, want map[int]archive.Slot) {
	t.Helper()
	for i, s := range a.Slots {
		if s != want[i] {
			t.Errorf("slot %d of the archive of step %d has %v, want %v", i, a.Step, s, want[i])
		}
	}
}

func TestSlotsOfTheExample(t *testing.T) {
	d := exampleDatabase(t)
	d.Update(100, api.Point{Stamp: 95, Value: 7})
	holds(t, d.archives[0], map[int]archive.Slot{3: taken(90, 7)})
	holds(t, d.archives[1], nil)
	d.Update(100, api.Point{Stamp: 75, Value: 9}, api.Point{Stamp: 60, Value: 2})
	holds(t, d.archives[0], map[int]archive.Slot{0: taken(60, 2), 1: taken(70, 9), 3: taken(90, 7)})
	holds(t, d.archives[1], map[int]archive.Slot{1: taken(60, 6)})
}

func TestWithAnErrorNoSlotIsChanged(t *testing.T) {
	d := exampleDatabase(t)
	d.Update(100, api.Point{Stamp: 95, Value: 7}, api.Point{Stamp: 75, Value: 9}, api.Point{Stamp: 60, Value: 2})
	good := api.Point{Stamp: 400, Value: 1}
	for _, bad := range []api.Point{{Stamp: -1}, {Stamp: 400, Value: api.MaxValue + 1}, {Stamp: 401}, {Stamp: 100}} {
		for count := range api.MaxPoints {
			d.Update(400, append(slices.Repeat([]api.Point{good}, count), bad)...)
		}
	}
	d.Update(400, slices.Repeat([]api.Point{good}, api.MaxPoints+1)...)
	d.Update(-1, good)
	d.Update(api.MaxStamp+1, good)
	holds(t, d.archives[0], map[int]archive.Slot{0: taken(60, 2), 1: taken(70, 9), 3: taken(90, 7)})
	holds(t, d.archives[1], map[int]archive.Slot{1: taken(60, 6)})
}
