package sundial

import (
	"sundial/api"
	"sundial/archive"
	"sundial/config"
)

// Load reads bytes (P9).
func Load(b []byte) (*Database, api.Errno) {
	c, slots, whole := readConfig(b)
	if !whole {
		return nil, api.ErrForm
	}
	d, e := Create(c)
	if e != api.OK || !d.readSlots(slots) {
		return nil, api.ErrForm
	}
	return d, api.OK
}

// readConfig answers the configuration that b begins with, the bytes behind it, and whether b begins so at all. Whether the configuration may be is not asked.
func readConfig(b []byte) (api.Config, []byte, bool) {
	const ahead = len(mark) + 3 // the method, the factor, how many archives
	const size = len(shapeBytes{})
	if len(b) < ahead || string(b[:len(mark)]) != mark {
		return api.Config{}, nil, false
	}
	c := api.Config{Method: int(b[len(mark)]), Factor: int(b[len(mark)+1])}
	count := int(b[len(mark)+2])
	b = b[ahead:]
	if count > api.MaxArchives || len(b) < count*size {
		return api.Config{}, nil, false
	}
	for i := range count {
		c.Archives[i] = shapeBytes(b[:size]).shape()
		b = b[size:]
	}
	// An archive of zeros is none, and so may not be counted.
	return c, b, len(config.Used(c)) == count
}

// readSlots takes the slots of all archives from b and tells whether b is these alone and each of them may be.
func (d *Database) readSlots(b []byte) bool {
	const size = len(archive.Bytes{})
	for _, a := range d.archives {
		for i := range a.Slots {
			if len(b) < size {
				return false
			}
			s := archive.Bytes(b[:size]).Slot()
			if !mayBe(a, i, s) {
				return false
			}
			a.Slots[i] = s
			b = b[size:]
		}
	}
	return len(b) == 0
}

// mayBe tells whether an archive may have this in the slot of this number.
func mayBe(a archive.Archive, number int, s archive.Slot) bool {
	return !s.Taken || isStamp(s.Stamp) && isValue(s.Value) && a.Belongs(s.Stamp, number)
}
