package sundial

import (
	"math/rand/v2"
	"slices"
	"testing"

	"sundial/api"
)

// resize does what the words of P10 say, one stamp after the other.
func (m *model) resize(now int, c api.Config) (*model, api.Errno) {
	if now < 0 || now > api.MaxStamp {
		return nil, api.ErrArg
	}
	if e := Check(c); e != api.OK {
		return nil, e
	}
	made := newModel(c)
	for i := len(m.shapes) - 1; i >= 0; i-- {
		reach := m.shapes[i].Step * m.shapes[i].Slots
		for stamp := max(0, now-reach); stamp <= now; stamp++ {
			v, ok := m.has(i, stamp)
			if into := made.first(now, stamp); ok && m.covers(i, now, stamp) && into >= 0 {
				made.put(into, stamp, v)
			}
		}
	}
	return made, api.OK
}

// diff does what the words of P11 say.
func (m *model) diff(o *model) ([]int, api.Errno) {
	if !slices.Equal(m.shapes, o.shapes) {
		return nil, api.ErrArg
	}
	var numbers []int
	first, second := slices.Concat(m.slots...), slices.Concat(o.slots...)
	for i, s := range first {
		if s != second[i] {
			numbers = append(numbers, i)
		}
	}
	return numbers, api.OK
}

// sameDiff holds Diff against the model's.
func sameDiff(t *testing.T, d, o *Database, m, n *model) {
	t.Helper()
	got, e := d.Diff(o)
	want, wantE := m.diff(n)
	if e != wantE || !slices.Equal(got, want) || e != api.OK && got != nil {
		t.Fatalf("%v and %v: Diff = %v, %d, want %v, %d", d.archives, o.archives, got, e, want, wantE)
	}
}

// anyNow draws a time at which a filled database has something that is covered, mostly.
func anyNow(r *rand.Rand, m *model) int {
	last := m.shapes[len(m.shapes)-1]
	now := r.IntN(3*last.Step*last.Slots + 1)
	switch r.IntN(20) {
	case 0:
		now = api.MaxStamp - r.IntN(3)
	case 1:
		now = -r.IntN(3)
	case 2:
		now = api.MaxStamp + r.IntN(3)
	}
	return now
}

func TestResizeAgainstTheModel(t *testing.T) {
	r := rand.New(rand.NewPCG(10, 60))
	written := 0
	for range 3000 {
		d, m := filled(r)
		now := anyNow(r, m)
		c := anyConfig(r)
		switch r.IntN(10) {
		case 0:
			c = d.Config()
		case 1:
			c.Factor = 101
		}
		o, e := d.Resize(now, c)
		n, wantE := m.resize(now, c)
		if e != wantE || (o == nil) != (n == nil) || !sameSlots(d, m) {
			t.Fatalf("%v: Resize(%d, %v) = %v, %d, want %d; the old one has %v", m.slots, now, c, o, e, wantE, d.archives)
		}
		if o == nil {
			continue
		}
		if o.Config() != c || !sameSlots(o, n) {
			t.Fatalf("%v: Resize(%d, %v) has %v, want %v", m.slots, now, c, o.archives, n.slots)
		}
		sameDiff(t, d, o, m, n)
		free, _ := Create(c)
		if l, _ := o.Diff(free); len(l) > 0 {
			written++
		}
		p := anyPoint(r, now, m.shapes[0].Step*m.shapes[0].Slots)
		o.Update(now, p)
		n.update(now, []api.Point{p})
		if !sameSlots(o, n) || !sameSlots(d, m) {
			t.Fatalf("%v at %d: the new one has %v, want %v; the old one %v, want %v", p, now, o.archives, n.slots, d.archives, m.slots)
		}
	}
	if written < 1000 {
		t.Errorf("only %d got a point: too few to tell", written)
	}
}

func TestDiffAgainstTheModel(t *testing.T) {
	r := rand.New(rand.NewPCG(11, 12))
	for range 2000 {
		d, m := filled(r)
		o := again(t, d, m)
		n := newModel(d.Config())
		for i := range m.slots {
			copy(n.slots[i], m.slots[i])
		}
		sameDiff(t, d, o, m, n)
		for range 5 {
			now := anyNow(r, m)
			p := anyPoint(r, max(0, now), m.shapes[0].Step*m.shapes[0].Slots)
			o.Update(now, p)
			n.update(now, []api.Point{p})
			sameDiff(t, d, o, m, n)
			sameDiff(t, o, d, n, m)
		}
		other, k := filled(r)
		sameDiff(t, d, other, m, k)
	}
}
