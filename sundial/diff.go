package sundial

import "sundial/api"

// Diff tells in which slots two databases differ (P11).
func (d *Database) Diff(o *Database) ([]int, api.Errno) {
	if d.Config().Archives != o.Config().Archives {
		return nil, api.ErrArg
	}
	var differ []int
	number := 0
	for i, a := range d.archives {
		for j, s := range a.Slots {
			if s.Bytes() != o.archives[i].Slots[j].Bytes() {
				differ = append(differ, number)
			}
			number++
		}
	}
	return differ, api.OK
}
