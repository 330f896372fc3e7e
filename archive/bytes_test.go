package archive

import (
	"testing"

	"sundial/api"
)

// examples are slots and their bytes.
func examples() map[Slot]Bytes {
	return map[Slot]Bytes{
		{}:                                 {0xff, 0xff, 0xff, 0xff},
		{Taken: true}:                      {},
		{Taken: true, Value: 1}:            {11: 1},
		{Taken: true, Stamp: 90, Value: 7}: {3: 90, 11: 7},
		{Taken: true, Stamp: 0x01020304, Value: 0x05060708}:      {1, 2, 3, 4, 0, 0, 0, 0, 5, 6, 7, 8},
		{Taken: true, Stamp: 20, Value: -2}:                      {0, 0, 0, 20, 0xff, 0xff, 0xff, 0xff, 0xff, 0xff, 0xff, 0xfe},
		{Taken: true, Stamp: api.MaxStamp, Value: api.MaxValue}:  {0x7f, 0xff, 0xff, 0xff, 0, 0, 0, 0, 0x3b, 0x9a, 0xca, 0},
		{Taken: true, Stamp: api.MaxStamp, Value: -api.MaxValue}: {0x7f, 0xff, 0xff, 0xff, 0xff, 0xff, 0xff, 0xff, 0xc4, 0x65, 0x36, 0},
		{Taken: true, Stamp: 1<<32 - 1, Value: 1}:                {0xff, 0xff, 0xff, 0xff, 11: 1},
		{Taken: true, Stamp: 1<<32 - 1, Value: -1 << 63}:         {0xff, 0xff, 0xff, 0xff, 0x80, 11: 0},
		{Taken: true, Stamp: 1<<32 - 2}:                          {0xff, 0xff, 0xff, 0xfe, 11: 0},
		{Taken: true, Stamp: 1 << 31, Value: 1<<63 - 1}:          {0x80, 0, 0, 0, 0x7f, 0xff, 0xff, 0xff, 0xff, 0xff, 0xff, 0xff},
	}
}

func TestBytesOfASlot(t *testing.T) {
	for slot, want := range examples() {
		if got := slot.Bytes(); got != want {
			t.Errorf("the bytes of %v are %v, want %v", slot, got, want)
		}
	}
}

func TestSlotOfBytes(t *testing.T) {
	for want, b := range examples() {
		if got := b.Slot(); got != want {
			t.Errorf("%v are the slot %v, want %v", b, got, want)
		}
	}
}

func TestSlotsAreTheSameIfTheirBytesAre(t *testing.T) {
	slots := []Slot{
		{}, {Taken: true}, {Taken: true, Value: 1}, {Taken: true, Value: -1}, {Taken: true, Stamp: 1}, {Taken: true, Stamp: 1, Value: 1},
		{Taken: true, Stamp: 256}, {Taken: true, Value: 256}, {Taken: true, Stamp: api.MaxStamp}, {Taken: true, Stamp: api.MaxStamp, Value: -1},
	}
	for i, s := range slots {
		for j, o := range slots {
			if same := s.Bytes() == o.Bytes(); same != (i == j) {
				t.Errorf("%v and %v have the same bytes: %v", s, o, same)
			}
		}
	}
}

func TestBelongsIsAlignedAndOfThisSlot(t *testing.T) {
	a := New(api.Archive{Step: 10, Slots: 6})
	for stamp := range 200 {
		for slot := range 6 {
			want := stamp == slot*10 || stamp == slot*10+60 || stamp == slot*10+120 || stamp == slot*10+180
			if got := a.Belongs(stamp, slot); got != want {
				t.Errorf("Belongs(%d, %d) = %v", stamp, slot, got)
			}
		}
	}
	one := New(api.Archive{Step: 1, Slots: 1})
	if !one.Belongs(api.MaxStamp, 0) || !one.Belongs(0, 0) {
		t.Error("every stamp belongs into the one slot of the step 1")
	}
}
