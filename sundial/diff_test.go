package sundial_test

import (
	"slices"
	"testing"

	"sundial/api"
	"sundial/sundial"
)

// differ holds Diff, both ways, against the numbers that P11 asks; it must change neither of the two.
func differ(t *testing.T, d, o *sundial.Database, want ...int) {
	t.Helper()
	first, second := string(d.Save()), string(o.Save())
	if got, e := d.Diff(o); e != api.OK || !slices.Equal(got, want) {
		t.Errorf("Diff = %v, %d, want %v", got, e, want)
	}
	if got, e := o.Diff(d); e != api.OK || !slices.Equal(got, want) {
		t.Errorf("Diff the other way = %v, %d, want %v", got, e, want)
	}
	saved(t, d, first)
	saved(t, o, second)
}

func TestDiffOnlyOfTheSameArchives(t *testing.T) {
	configs := []api.Config{
		conf(api.Sum, 100, 10, 6, 60, 5),
		conf(api.Sum, 100, 10, 6),
		conf(api.Sum, 100, 10, 7, 60, 5),
		conf(api.Sum, 100, 10, 6, 60, 4),
		conf(api.Sum, 100, 10, 6, 30, 5),
		conf(api.Sum, 100, 10, 11),
		conf(api.Sum, 100, 20, 6, 60, 5),
		conf(api.Sum, 100, 10, 6, 60, 5, 300, 2),
		conf(api.Sum, 100, 60, 5),
	}
	for i, c := range configs {
		d := create(t, c)
		write(t, d, 9, 9, 1)
		for j, other := range configs {
			o := create(t, other)
			if i == j {
				write(t, o, 9, 9, 1)
				differ(t, d, o)
			} else if l, e := d.Diff(o); l != nil || e != api.ErrArg {
				t.Errorf("Diff of %v with %v = %v, %d, want nil, ErrArg", c, other, l, e)
			}
		}
	}
}

func TestDiffDoesNotAskTheMethodAndTheFactor(t *testing.T) {
	d := create(t, conf(api.Sum, 100, 10, 3, 30, 2))
	write(t, d, 29, 5, 1)
	for m := api.Average; m <= api.Widest; m++ {
		for factor := 34; factor <= 100; factor += 6 {
			o := create(t, conf(m, factor, 10, 3, 30, 2))
			differ(t, d, o, 0)
			write(t, o, 29, 5, 1)
			differ(t, d, o)
		}
	}
}

func TestDiffOfOneSlot(t *testing.T) {
	slots := func(first string) string { return two + first + free + free + free + free }
	kinds := []string{free, slot(0, 0), slot(0, 1), slot(0, 256), slot(30, 0), slot(30, 1), slot(30*256, 1), slot(30*65536, 0)}
	for i, first := range kinds {
		for j, second := range kinds {
			d, o := loaded(t, slots(first)), loaded(t, slots(second))
			if i == j {
				differ(t, d, o)
			} else {
				differ(t, d, o, 0)
			}
		}
	}
}

// TestDiffOfEverySlot: a slot's number is counted through all archives.
func TestDiffOfEverySlot(t *testing.T) {
	base := []string{slot(30, 3), free, slot(20, 2), slot(40, 9), free}
	other := []string{slot(0, 3), slot(10, 0), free, slot(40, 8), slot(20, 0)}
	for choice := range 1 << len(base) {
		changed := slices.Clone(base)
		var want []int
		for i := range base {
			if choice>>i&1 == 1 {
				changed[i] = other[i]
				want = append(want, i)
			}
		}
		differ(t, loaded(t, append([]string{two}, base...)...), loaded(t, append([]string{two}, changed...)...), want...)
	}
}

func TestDiffOfTheGreatestDatabases(t *testing.T) {
	c := conf(api.Last, 0, 1, 60, 60, 60, 3600, 60, 86400, 60)
	d, o := create(t, c), create(t, c)
	differ(t, d, o)
	write(t, d, 60*86400-1, 60*86400-1, 1, 0, 1)
	differ(t, d, o, 59, 119, 179, 180, 239)
	var all []int
	for i := range 240 {
		all = append(all, i)
	}
	for _, step := range []int{86400, 3600, 60, 1} {
		for now := 60*86400 - 60*step; now < 60*86400; now += step {
			write(t, d, now, now, 1)
		}
	}
	differ(t, d, o, all...)
}

func TestDiffOfADatabaseWithItself(t *testing.T) {
	d := create(t, conf(api.Average, 50, 10, 6, 60, 5))
	differ(t, d, d)
	write(t, d, 100, 95, 7, 75, 9, 60, 2)
	differ(t, d, d)
	differ(t, d, create(t, d.Config()), 0, 1, 3, 7)
}

// TestDiffAsTheDatabasesGoOn: what is told are the slots as they are, not how they came to be so.
func TestDiffAsTheDatabasesGoOn(t *testing.T) {
	d, o := create(t, conf(api.Sum, 100, 10, 3, 30, 2)), create(t, conf(api.Max, 0, 10, 3, 30, 2))
	write(t, d, 29, 25, 4)
	write(t, o, 29, 25, 4)
	differ(t, d, o, 3)
	write(t, d, 29, 5, 0, 15, 0)
	write(t, o, 29, 15, 0, 5, 0)
	differ(t, d, o)
	write(t, o, 59, 35, 4)
	differ(t, d, o, 0, 4)
	write(t, d, 59, 35, 4)
	differ(t, d, o, 4)
}

func TestWhatDiffAnswersIsTheCallers(t *testing.T) {
	d := create(t, conf(api.Average, 50, 10, 6, 60, 5))
	o := create(t, d.Config())
	write(t, d, 100, 95, 7, 75, 9, 60, 2)
	first, _ := d.Diff(o)
	second, _ := d.Diff(o)
	clear(first[:cap(first)])
	_ = append(first[:1], 55)
	if want := []int{0, 1, 3, 7}; !slices.Equal(second, want) {
		t.Errorf("Diff = %v, want %v", second, want)
	}
	differ(t, d, o, 0, 1, 3, 7)
}
