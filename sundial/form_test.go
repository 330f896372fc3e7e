package sundial

import (
	"bytes"
	"encoding/binary"
	"math/rand/v2"
	"testing"

	"sundial/api"
	"sundial/archive"
)

// The form that P8 tells, as structs that the library writes and reads.
type formHead struct {
	Mark                  [4]byte
	Method, Factor, Count uint8
}

type formArchive struct {
	Step, Slots uint32
}

type formSlot struct {
	Stamp uint32
	Value int64
}

// bytes answers what P8 asks of a database that is as the model.
func (m *model) bytes() []byte {
	var shapes []formArchive
	var slots []formSlot
	for i, a := range m.shapes {
		shapes = append(shapes, formArchive{uint32(a.Step), uint32(a.Slots)})
		for _, s := range m.slots[i] {
			if s.Taken {
				slots = append(slots, formSlot{uint32(s.Stamp), int64(s.Value)})
			} else {
				slots = append(slots, formSlot{1<<32 - 1, 0})
			}
		}
	}
	head := formHead{[4]byte{'S', 'U', 'N', 1}, uint8(m.method), uint8(m.factor), uint8(len(m.shapes))}
	var b bytes.Buffer
	for _, part := range []any{head, shapes, slots} {
		binary.Write(&b, binary.BigEndian, part)
	}
	return b.Bytes()
}

// isForm tells what P9 asks of bytes, with nothing of the program's own means but Check.
func isForm(b []byte) bool {
	r := bytes.NewReader(b)
	var head formHead
	if binary.Read(r, binary.BigEndian, &head) != nil || head.Mark != [4]byte{'S', 'U', 'N', 1} || head.Count > api.MaxArchives {
		return false
	}
	c := api.Config{Method: int(head.Method), Factor: int(head.Factor)}
	shapes := make([]formArchive, head.Count)
	if binary.Read(r, binary.BigEndian, shapes) != nil {
		return false
	}
	for i, a := range shapes {
		c.Archives[i] = api.Archive{Step: int(a.Step), Slots: int(a.Slots)}
		if a.Step == 0 {
			return false
		}
	}
	if Check(c) != api.OK {
		return false
	}
	for _, a := range shapes {
		slots := make([]formSlot, a.Slots)
		if binary.Read(r, binary.BigEndian, slots) != nil {
			return false
		}
		for i, s := range slots {
			if s != (formSlot{1<<32 - 1, 0}) && (s.Stamp > api.MaxStamp || s.Stamp%a.Step != 0 || s.Stamp/a.Step%a.Slots != uint32(i) || s.Value > api.MaxValue || s.Value < -api.MaxValue) {
				return false
			}
		}
	}
	return r.Len() == 0
}

// agree holds Load against isForm, and what is loaded against what it is saved as.
func agree(t *testing.T, b []byte) bool {
	t.Helper()
	d, e := Load(b)
	if !isForm(b) {
		if d != nil || e != api.ErrForm {
			t.Fatalf("Load(%q) = %v, %d, want ErrForm", b, d, e)
		}
		return false
	}
	if d == nil || e != api.OK || !bytes.Equal(d.Save(), b) {
		t.Fatalf("Load(%q) = %v, %d, want a database that is saved so", b, d, e)
	}
	return true
}

// again saves a database that must be as the model, and answers what is loaded of that: it must go on the same (P13).
func again(t *testing.T, d *Database, m *model) *Database {
	t.Helper()
	b := d.Save()
	o, e := Load(b)
	if !bytes.Equal(b, m.bytes()) || e != api.OK || o.Config() != d.Config() || !sameSlots(d, m) || !sameSlots(o, m) {
		t.Fatalf("%v: Save() = %q, want %q; Load = %v, %d", d.archives, b, m.bytes(), o, e)
	}
	if l, e := d.Diff(o); len(l) != 0 || e != api.OK {
		t.Fatalf("%v and %v: Diff = %v, %d, want nothing", d.archives, o.archives, l, e)
	}
	return o
}

// filled draws a database with points in many of its slots, such as updates alone might not make, and the model of it.
func filled(r *rand.Rand) (*Database, *model) {
	c := anyConfig(r)
	d, _ := Create(c)
	m := newModel(c)
	for i, a := range m.shapes {
		for j := range a.Slots {
			if r.IntN(4) > 0 {
				round := r.IntN(3)
				if r.IntN(3) == 0 {
					round = r.IntN(1 + (api.MaxStamp-a.Step*j)/(a.Step*a.Slots))
				}
				s := archive.Slot{Taken: true, Stamp: a.Step * (j + round*a.Slots), Value: r.IntN(2*api.MaxValue+1) - api.MaxValue}
				m.slots[i][j], d.archives[i].Slots[j] = s, s
			}
		}
	}
	return d, m
}

func TestSaveAndLoadAgainstTheModel(t *testing.T) {
	r := rand.New(rand.NewPCG(8, 9))
	for range 2000 {
		d, m := filled(r)
		b := m.bytes()
		if got := d.Save(); !bytes.Equal(got, b) {
			t.Fatalf("%v: Save() = %q, want %q", d.archives, got, b)
		}
		if !agree(t, b) {
			t.Fatalf("%q should be a database", b)
		}
		if o, _ := Load(b); o.Config() != d.Config() || !sameSlots(o, m) {
			t.Fatalf("Load(%q) has %v, want %v", b, o.archives, m.slots)
		}
	}
}

// TestEveryChangeOfOneByte: a database in which one byte is another is mostly none.
func TestEveryChangeOfOneByte(t *testing.T) {
	r := rand.New(rand.NewPCG(12, 3))
	taken, refused := 0, 0
	for range 20 {
		_, m := filled(r)
		b := m.bytes()
		for i, was := range b {
			for x := range 256 {
				b[i] = byte(x)
				if agree(t, b) {
					taken++
				} else {
					refused++
				}
			}
			b[i] = was
		}
	}
	if taken < 1000 || refused < 1000 {
		t.Errorf("%d were taken and %d refused: too few of one kind to tell", taken, refused)
	}
}

// TestManyChanges cuts, lengthens and changes the bytes of databases.
func TestManyChanges(t *testing.T) {
	r := rand.New(rand.NewPCG(51, 7))
	for range 30000 {
		_, m := filled(r)
		b := m.bytes()
		for range 1 + r.IntN(4) {
			at := r.IntN(len(b) + 1)
			switch r.IntN(5) {
			case 0:
				b = b[:at]
			case 1:
				b = append(b, make([]byte, r.IntN(25))...)
			case 2:
				b = append(b[:at:at], append([]byte{byte(r.IntN(256))}, b[at:]...)...)
			default:
				if at < len(b) {
					b[at] = byte(r.IntN(256))
				}
			}
		}
		agree(t, b)
	}
}
