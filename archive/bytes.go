package archive

import "sundial/numbers"

// Bytes are what a slot is saved as. Slots that may be and differ have other bytes, so that two are held against each other by these (==).
type Bytes [12]byte

// stampBytes of a slot's bytes are the stamp, the rest the value.
const stampBytes = 4

// freeStamp stands for a free slot; it is above all stamps that may be.
const freeStamp = 1<<32 - 1

// Bytes answers the slot's bytes (P8).
func (s Slot) Bytes() Bytes {
	stamp, value := freeStamp, 0
	if s.Taken {
		stamp, value = s.Stamp, s.Value
	}
	var b Bytes
	numbers.Write(b[:stampBytes], stamp)
	numbers.Write(b[stampBytes:], value)
	return b
}

// Slot answers the slot that has these bytes. Whether its stamp and value may be is not asked.
func (b Bytes) Slot() Slot {
	var free Slot
	if b == free.Bytes() {
		return free
	}
	return Slot{Taken: true, Stamp: numbers.Read(b[:stampBytes]), Value: numbers.Read(b[stampBytes:])}
}

// Belongs tells whether a stamp that is not below 0 is aligned and its slot the one of this number.
func (a Archive) Belongs(stamp, slot int) bool {
	return a.Beginning(stamp) == stamp && a.slotOf(stamp) == slot
}
