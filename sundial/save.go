package sundial

import (
	"sundial/api"
	"sundial/method"
	"sundial/numbers"
)

// mark is what the bytes of every database begin with.
const mark = "SUN\x01"

// shapeBytes are a step and a count of slots, four bytes each.
type shapeBytes [8]byte

// Save writes a database as bytes (P8).
func (d *Database) Save() []byte {
	b := []byte(mark)
	b = append(b, byte(method.Number(d.method)), byte(d.factor), byte(len(d.archives)))
	for _, a := range d.archives {
		shape := bytesOfShape(a.Shape())
		b = append(b, shape[:]...)
	}
	for _, a := range d.archives {
		for _, s := range a.Slots {
			slot := s.Bytes()
			b = append(b, slot[:]...)
		}
	}
	return b
}

func bytesOfShape(a api.Archive) shapeBytes {
	var b shapeBytes
	numbers.Write(b[:4], a.Step)
	numbers.Write(b[4:], a.Slots)
	return b
}

func (b shapeBytes) shape() api.Archive {
	return api.Archive{Step: numbers.Read(b[:4]), Slots: numbers.Read(b[4:])}
}
