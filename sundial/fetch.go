package sundial

import "sundial/api"

// Fetch reads points (P7).
func (d *Database) Fetch(now int, from int, until int) (api.Series, api.Errno) {
	if e := d.unreadable(now, from, until); e != api.OK {
		return api.Series{}, e
	}
	i, covered := d.firstCovering(now, from)
	if !covered {
		i = len(d.archives) - 1
	}
	a := d.archives[i]
	points := a.Points(max(from, a.Oldest(now)), min(until, now))
	return api.Series{Archive: i, Step: a.Step, Points: points}, api.OK
}

// unreadable tells why a time may not be fetched at the time now, or OK.
func (d *Database) unreadable(now, from, until int) api.Errno {
	if !isStamp(now) || !isStamp(from) || !isStamp(until) || from > until {
		return api.ErrArg
	}
	if from > now {
		return api.ErrFuture
	}
	if _, covered := d.firstCovering(now, min(until, now)); !covered {
		return api.ErrOld
	}
	return api.OK
}
