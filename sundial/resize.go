package sundial

import (
	"slices"

	"sundial/api"
)

// Resize makes a database of another configuration with the same points (P10).
func (d *Database) Resize(now int, c api.Config) (*Database, api.Errno) {
	if !isStamp(now) {
		return nil, api.ErrArg
	}
	resized, e := Create(c)
	if e != api.OK {
		return nil, e
	}
	// The finest comes last, so that its own values stand where a coarser one's would.
	for _, a := range slices.Backward(d.archives) {
		for _, p := range a.Points(a.Oldest(now), now) {
			resized.write(now, p)
		}
	}
	return resized, api.OK
}
