package archive

import (
	"slices"
	"testing"

	"sundial/api"
)

func TestNewArchiveIsFreeAndOfItsShape(t *testing.T) {
	for _, shape := range []api.Archive{{Step: 1, Slots: 1}, {Step: 10, Slots: 6}, {Step: api.MaxStep, Slots: api.MaxSlots}} {
		a := New(shape)
		if a.Shape() != shape {
			t.Errorf("Shape() = %v, want %v", a.Shape(), shape)
		}
		for i, s := range a.Slots {
			if s.Taken {
				t.Errorf("slot %d of a new archive %v is not free: %v", i, shape, s)
			}
		}
	}
}

func TestArchivesShareNoSlots(t *testing.T) {
	shape := api.Archive{Step: 10, Slots: 6}
	one, other := New(shape), New(shape)
	one.Slots[3] = Slot{Taken: true, Stamp: 90, Value: 7}
	if other.Slots[3].Taken {
		t.Error("what is written into one archive is seen in another")
	}
}

func TestCoversAsFarAsItReaches(t *testing.T) {
	a := New(api.Archive{Step: 10, Slots: 6})
	for _, k := range []struct {
		now, stamp int
		want       bool
	}{
		{100, 101, false}, {100, 100, true}, {100, 99, true}, {100, 41, true}, {100, 40, false}, {100, 0, false},
		{0, 0, true}, {59, 0, true}, {60, 0, false}, {60, 1, true}, {0, 1, false},
		{api.MaxStamp, api.MaxStamp, true}, {api.MaxStamp, api.MaxStamp - 59, true}, {api.MaxStamp, api.MaxStamp - 60, false},
	} {
		if got := a.Covers(k.now, k.stamp); got != k.want {
			t.Errorf("Covers(%d, %d) = %v, want %v", k.now, k.stamp, got, k.want)
		}
	}
	if a.Oldest(100) != 41 || a.Oldest(10) != -49 {
		t.Errorf("Oldest(100) = %d, Oldest(10) = %d, want 41, -49", a.Oldest(100), a.Oldest(10))
	}
}

func TestBeginningIsAlignedAndNotAbove(t *testing.T) {
	a := New(api.Archive{Step: 10, Slots: 6})
	for stamp, want := range map[int]int{0: 0, 1: 0, 9: 0, 10: 10, 19: 10, 95: 90, api.MaxStamp: api.MaxStamp - 7} {
		if got := a.Beginning(stamp); got != want {
			t.Errorf("Beginning(%d) = %d, want %d", stamp, got, want)
		}
	}
}

func TestWriteTakesTheSlotOfTheBeginning(t *testing.T) {
	for stamp, slot := range map[int]int{0: 0, 9: 0, 10: 1, 59: 5, 60: 0, 95: 3, 129: 0, 1000: 4} {
		a := New(api.Archive{Step: 10, Slots: 6})
		a.Write(stamp, 7)
		want := make([]Slot, 6)
		want[slot] = Slot{Taken: true, Stamp: stamp / 10 * 10, Value: 7}
		if !slices.Equal(a.Slots, want) {
			t.Errorf("Write(%d, 7) makes %v, want %v", stamp, a.Slots, want)
		}
	}
}

func TestPointsAreInTheOrderOfStamps(t *testing.T) {
	a := New(api.Archive{Step: 10, Slots: 3})
	if got := a.Points(0, api.MaxStamp); len(got) != 0 {
		t.Errorf("Points of a free archive: %v", got)
	}
	a.Write(45, 4) // slot 1
	a.Write(39, 3) // slot 0
	a.Write(20, 2) // slot 2
	all := []api.Point{{Stamp: 20, Value: 2}, {Stamp: 30, Value: 3}, {Stamp: 40, Value: 4}}
	for _, k := range []struct {
		from, until int
		want        []api.Point
	}{
		{0, api.MaxStamp, all}, {20, 40, all}, {-100, 40, all}, {21, 40, all[1:]}, {20, 39, all[:2]},
		{30, 30, all[1:2]}, {31, 39, nil}, {41, 20, nil}, {50, 60, nil},
	} {
		if got := a.Points(k.from, k.until); !slices.Equal(got, k.want) {
			t.Errorf("Points(%d, %d) = %v, want %v", k.from, k.until, got, k.want)
		}
	}
	a.Write(70, 7) // slot 1, in the place of 40
	want := []api.Point{{Stamp: 20, Value: 2}, {Stamp: 30, Value: 3}, {Stamp: 70, Value: 7}}
	if got := a.Points(0, 100); !slices.Equal(got, want) {
		t.Errorf("Points(0, 100) = %v, want %v", got, want)
	}
}

func TestPointsAreNewMemory(t *testing.T) {
	a := New(api.Archive{Step: 10, Slots: 3})
	a.Write(10, 1)
	a.Points(0, 100)[0].Value = 9
	if got := a.Points(0, 100)[0].Value; got != 1 {
		t.Errorf("the value is %d, want 1", got)
	}
}
