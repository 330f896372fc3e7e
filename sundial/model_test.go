package sundial

import (
	"math/big"
	"math/rand/v2"
	"slices"
	"testing"

	"sundial/api"
	"sundial/archive"
)

// model does what the words of P4 to P7 say, one stamp after the other, with nothing of the program's own means.
type model struct {
	shapes         []api.Archive
	method, factor int
	slots          [][]archive.Slot
}

func newModel(c api.Config) *model {
	m := &model{method: c.Method, factor: c.Factor}
	for _, a := range c.Archives {
		if a.Step > 0 {
			m.shapes = append(m.shapes, a)
			m.slots = append(m.slots, make([]archive.Slot, a.Slots))
		}
	}
	return m
}

func (m *model) covers(i, now, stamp int) bool {
	return stamp <= now && now-stamp < m.shapes[i].Step*m.shapes[i].Slots
}

func (m *model) first(now, stamp int) int {
	for i := range m.shapes {
		if m.covers(i, now, stamp) {
			return i
		}
	}
	return -1
}

func (m *model) has(i, stamp int) (int, bool) {
	a := m.shapes[i]
	if stamp%a.Step != 0 {
		return 0, false
	}
	s := m.slots[i][stamp/a.Step%a.Slots]
	return s.Value, s.Taken && s.Stamp == stamp
}

func (m *model) put(i, stamp, value int) {
	a := m.shapes[i]
	for stamp%a.Step != 0 {
		stamp--
	}
	m.slots[i][stamp/a.Step%a.Slots] = archive.Slot{Taken: true, Stamp: stamp, Value: value}
	if i+1 == len(m.shapes) {
		return
	}
	begin := stamp
	for begin%m.shapes[i+1].Step != 0 {
		begin--
	}
	var values []int
	all := 0
	for s := begin; s < begin+m.shapes[i+1].Step; s++ {
		if s%a.Step == 0 {
			all++
		}
		if v, ok := m.has(i, s); ok {
			values = append(values, v)
		}
	}
	if 100*len(values) >= m.factor*all {
		m.put(i+1, begin, m.one(values))
	}
}

func (m *model) one(values []int) int {
	sum := big.NewInt(0)
	widest := 0
	for _, v := range values {
		sum.Add(sum, big.NewInt(int64(v)))
		if v > 0 && v >= widest && v >= -widest || v < 0 && -v > widest && -v > -widest {
			widest = v
		}
	}
	switch m.method {
	case api.Average:
		// Div leaves a rest that is not below 0, so with a divisor above 0 it rounds down.
		return int(new(big.Int).Div(sum, big.NewInt(int64(len(values)))).Int64())
	case api.Sum:
		return int(max(-api.MaxValue, min(api.MaxValue, sum.Int64())))
	case api.Last:
		return values[len(values)-1]
	case api.Max:
		return slices.Max(values)
	case api.Min:
		return slices.Min(values)
	}
	return widest
}

func (m *model) update(now int, points []api.Point) (api.Errno, int) {
	if now < 0 || now > api.MaxStamp || len(points) > api.MaxPoints {
		return api.ErrArg, 0
	}
	for i, p := range points {
		switch {
		case p.Stamp < 0 || p.Stamp > api.MaxStamp || p.Value < -api.MaxValue || p.Value > api.MaxValue:
			return api.ErrArg, i
		case p.Stamp > now:
			return api.ErrFuture, i
		case m.first(now, p.Stamp) < 0:
			return api.ErrOld, i
		}
	}
	for _, p := range points {
		m.put(m.first(now, p.Stamp), p.Stamp, p.Value)
	}
	return api.OK, 0
}

func (m *model) fetch(now, from, until int) (api.Series, api.Errno) {
	switch {
	case min(now, from, until) < 0 || max(now, from, until) > api.MaxStamp || from > until:
		return api.Series{}, api.ErrArg
	case from > now:
		return api.Series{}, api.ErrFuture
	case until <= now && m.first(now, until) < 0:
		return api.Series{}, api.ErrOld
	}
	i := m.first(now, from)
	if i < 0 {
		i = len(m.shapes) - 1
	}
	s := api.Series{Archive: i, Step: m.shapes[i].Step}
	reach := m.shapes[i].Step * m.shapes[i].Slots
	for stamp := max(0, now-reach); stamp <= now; stamp++ {
		if v, ok := m.has(i, stamp); ok && from <= stamp && stamp <= until && m.covers(i, now, stamp) {
			s.Points = append(s.Points, api.Point{Stamp: stamp, Value: v})
		}
	}
	return s, api.OK
}

// sameSlots tells whether the database has in every slot what the model has.
func sameSlots(d *Database, m *model) bool {
	return slices.EqualFunc(d.archives, m.slots, func(a archive.Archive, slots []archive.Slot) bool {
		return slices.Equal(a.Slots, slots)
	})
}

// anyConfig draws a configuration that Check takes.
func anyConfig(r *rand.Rand) api.Config {
	for {
		c := api.Config{Method: 1 + r.IntN(6), Factor: r.IntN(101)}
		step := 1 + r.IntN(5)
		for i := range 1 + r.IntN(api.MaxArchives) {
			c.Archives[i] = api.Archive{Step: step, Slots: 1 + r.IntN(9)}
			step *= 1 + r.IntN(5)
		}
		if Check(c) == api.OK {
			return c
		}
	}
}

// anyPoint draws a point that is mostly near the time now, seldom wrong.
func anyPoint(r *rand.Rand, now, reach int) api.Point {
	p := api.Point{Stamp: max(0, now-r.IntN(reach)), Value: r.IntN(41) - 20}
	switch r.IntN(60) {
	case 0:
		p.Stamp = now - reach + r.IntN(3) - 1
	case 1:
		p.Stamp = now + r.IntN(3)
	case 2:
		p.Value = (r.IntN(5) - 2) * (api.MaxValue / 2)
	case 3:
		p.Value = (r.IntN(3) - 1) * (api.MaxValue + r.IntN(2))
	}
	return p
}

func TestUpdateAndFetchAgainstTheModel(t *testing.T) {
	r := rand.New(rand.NewPCG(7, 95))
	for range 600 {
		d, m := filled(r)
		c := d.Config()
		if r.IntN(2) == 0 {
			d, _ = Create(c)
			m = newModel(c)
		}
		last := m.shapes[len(m.shapes)-1]
		reach := last.Step * last.Slots
		now := r.IntN(2 * reach)
		if r.IntN(4) == 0 {
			now = api.MaxStamp - r.IntN(2*reach)
		}
		for range 40 {
			if r.IntN(4) == 0 {
				d = again(t, d, m)
			}
			now = now + r.IntN(reach) - reach/3
			var points []api.Point
			for range r.IntN(8) {
				points = append(points, anyPoint(r, now, reach))
			}
			e, at := d.Update(now, points...)
			wantE, wantAt := m.update(now, points)
			if e != wantE || at != wantAt || !sameSlots(d, m) {
				t.Fatalf("%v: Update(%d, %v) = %d, %d, want %d, %d; the slots are %v, want %v", c, now, points, e, at, wantE, wantAt, d.archives, m.slots)
			}
			from := now - r.IntN(2*reach) + 2
			until := from + r.IntN(2*reach) - 1
			s, e := d.Fetch(now, from, until)
			wantS, wantE := m.fetch(now, from, until)
			if e != wantE || s.Archive != wantS.Archive || s.Step != wantS.Step || !slices.Equal(s.Points, wantS.Points) || !sameSlots(d, m) {
				t.Fatalf("%v: Fetch(%d, %d, %d) = %v, %d, want %v, %d", c, now, from, until, s, e, wantS, wantE)
			}
		}
	}
}
