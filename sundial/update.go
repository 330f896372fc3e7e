package sundial

import "sundial/api"

// Update writes points (P4 to P6).
func (d *Database) Update(now int, points ...api.Point) (api.Errno, int) {
	if !isStamp(now) || len(points) > api.MaxPoints {
		return api.ErrArg, 0
	}
	// All are looked at ahead of the first write: with an error nothing is changed.
	for i, p := range points {
		if e := d.refusal(now, p); e != api.OK {
			return e, i
		}
	}
	for _, p := range points {
		d.write(now, p)
	}
	return api.OK, 0
}

// refusal tells why a point may not be written at the time now, or OK.
func (d *Database) refusal(now int, p api.Point) api.Errno {
	if !isStamp(p.Stamp) || !isValue(p.Value) {
		return api.ErrArg
	}
	if p.Stamp > now {
		return api.ErrFuture
	}
	if _, covered := d.firstCovering(now, p.Stamp); !covered {
		return api.ErrOld
	}
	return api.OK
}

// write puts a point where P5 says and lets it go on; one that no archive covers is left out.
func (d *Database) write(now int, p api.Point) {
	if i, covered := d.firstCovering(now, p.Stamp); covered {
		d.archives[i].Write(p.Stamp, p.Value)
		d.goOn(i, p.Stamp)
	}
}

// goOn carries what was written at a stamp into an archive on into the coarser ones, until one of them has too little of the next one's stretch (P6).
func (d *Database) goOn(written, stamp int) {
	for i := written; i+1 < len(d.archives); i++ {
		finer, coarser := d.archives[i], d.archives[i+1]
		begin := coarser.Beginning(stamp)
		have := finer.Points(begin, begin+coarser.Step-1)
		all := coarser.Step / finer.Step
		if 100*len(have) < d.factor*all {
			return
		}
		coarser.Write(begin, d.method.Of(values(have)...))
	}
}

// firstCovering answers the number of the first archive that covers a stamp at the time now, and whether there is one.
func (d *Database) firstCovering(now, stamp int) (int, bool) {
	for i, a := range d.archives {
		if a.Covers(now, stamp) {
			return i, true
		}
	}
	return 0, false
}

func values(points []api.Point) []int {
	var values []int
	for _, p := range points {
		values = append(values, p.Value)
	}
	return values
}

func isStamp(number int) bool { return 0 <= number && number <= api.MaxStamp }

func isValue(number int) bool { return -api.MaxValue <= number && number <= api.MaxValue }
