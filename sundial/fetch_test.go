package sundial_test

import (
	"math"
	"slices"
	"testing"

	"sundial/api"
	"sundial/sundial"
)

// read holds a fetch against the series that P7 asks: stamps and values by turns.
func read(t *testing.T, d *sundial.Database, now, from, until, archive, step int, numbers ...int) {
	t.Helper()
	want := points(numbers...)
	s, e := d.Fetch(now, from, until)
	if e != api.OK || s.Archive != archive || s.Step != step || !slices.Equal(s.Points, want) {
		t.Errorf("Fetch(%d, %d, %d) = %v, %d, want {%d %d %v}, 0", now, from, until, s, e, archive, step, want)
	}
}

// unread holds a fetch against an error, with which there is nothing else.
func unread(t *testing.T, d *sundial.Database, now, from, until int, want api.Errno) {
	t.Helper()
	s, e := d.Fetch(now, from, until)
	if e != want || s.Archive != 0 || s.Step != 0 || s.Points != nil {
		t.Errorf("Fetch(%d, %d, %d) = %v, %d, want nothing, %d", now, from, until, s, e, want)
	}
}

func TestTheExample(t *testing.T) {
	d := create(t, conf(api.Average, 50, 10, 6, 60, 5))
	write(t, d, 100, 95, 7)
	read(t, d, 100, 0, 100, 1, 60)
	write(t, d, 100, 75, 9, 60, 2)
	read(t, d, 100, 50, 100, 0, 10, 60, 2, 70, 9, 90, 7)
	read(t, d, 100, 0, 100, 1, 60, 60, 6)
	unread(t, d, 100, 101, 200, api.ErrFuture)
	unread(t, d, 1000, 0, 500, api.ErrOld)
}

func TestFetchArguments(t *testing.T) {
	d := create(t, conf(api.Average, 50, 10, 6, 60, 5))
	write(t, d, 100, 95, 7)
	for _, number := range []int{math.MinInt, -1 << 32, -1, api.MaxStamp + 1, 1<<32 + 100, math.MaxInt} {
		unread(t, d, number, 50, 100, api.ErrArg)
		unread(t, d, 100, number, 100, api.ErrArg)
		unread(t, d, 100, 50, number, api.ErrArg)
		unread(t, d, 100, number, number, api.ErrArg)
		unread(t, d, number, number, number, api.ErrArg)
	}
	unread(t, d, 100, 100, 99, api.ErrArg)
	unread(t, d, 100, api.MaxStamp, 0, api.ErrArg)
	read(t, d, 0, 0, 0, 0, 10)
	read(t, d, api.MaxStamp, api.MaxStamp, api.MaxStamp, 0, 10)
	read(t, d, api.MaxStamp, 0, api.MaxStamp, 1, 60)
}

func TestFetchFutureAndOld(t *testing.T) {
	d := create(t, conf(api.Average, 50, 10, 6, 60, 5))
	unread(t, d, 100, 101, 101, api.ErrFuture)
	read(t, d, 100, 100, 101, 0, 10)
	unread(t, d, 0, 1, api.MaxStamp, api.ErrFuture)
	unread(t, d, 1000, 0, 700, api.ErrOld)
	unread(t, d, 1000, 700, 700, api.ErrOld)
	read(t, d, 1000, 0, 701, 1, 60)
	read(t, d, 1000, 701, 701, 1, 60)
	read(t, d, 1000, 0, 2000, 1, 60)
	read(t, d, 1000, 0, api.MaxStamp, 1, 60)
	unread(t, d, 1000, 1001, 700, api.ErrArg) // from is above until, and all the rest is wrong too
}

func TestFetchTakesTheFirstArchiveThatCoversFrom(t *testing.T) {
	d := create(t, conf(api.Last, 0, 10, 6, 60, 5, 300, 4))
	write(t, d, 2000, 2000, 1)
	read(t, d, 2000, 2000, 2000, 0, 10, 2000, 1)
	read(t, d, 2000, 1941, 2000, 0, 10, 2000, 1)
	read(t, d, 2000, 1940, 2000, 1, 60, 1980, 1)
	read(t, d, 2000, 1701, 2000, 1, 60, 1980, 1)
	read(t, d, 2000, 1700, 2000, 2, 300, 1800, 1)
	read(t, d, 2000, 801, 2000, 2, 300, 1800, 1)
	read(t, d, 2000, 800, 2000, 2, 300, 1800, 1)
	read(t, d, 2000, 0, 2000, 2, 300, 1800, 1)
}

func TestFetchFromAndUntilAreBothIn(t *testing.T) {
	d := create(t, conf(api.Last, 100, 10, 6))
	write(t, d, 59, 0, 1, 10, 2, 20, 3, 30, 4, 40, 5)
	read(t, d, 59, 10, 30, 0, 10, 10, 2, 20, 3, 30, 4)
	read(t, d, 59, 11, 29, 0, 10, 20, 3)
	read(t, d, 59, 9, 31, 0, 10, 10, 2, 20, 3, 30, 4)
	read(t, d, 59, 20, 20, 0, 10, 20, 3)
	read(t, d, 59, 21, 29, 0, 10)
	read(t, d, 59, 0, 0, 0, 10, 0, 1)
}

// TestFetchOnlyWhatIsCovered: a beginning may be too old though the point that was written was not; and what is still to come at the time now is not told.
func TestFetchOnlyWhatIsCovered(t *testing.T) {
	d := create(t, conf(api.Last, 100, 10, 3))
	write(t, d, 35, 6, 9, 15, 1, 25, 2)
	read(t, d, 35, 0, 35, 0, 10, 10, 1, 20, 2)
	read(t, d, 29, 0, 29, 0, 10, 0, 9, 10, 1, 20, 2)
	read(t, d, 30, 0, 30, 0, 10, 10, 1, 20, 2)
	read(t, d, 19, 0, 29, 0, 10, 0, 9, 10, 1)
	read(t, d, 20, 0, 29, 0, 10, 0, 9, 10, 1, 20, 2)
	read(t, d, 1000, 0, 1000, 0, 10)
}

func TestFetchOrderWhenTheSlotsHaveGoneRound(t *testing.T) {
	d := create(t, conf(api.Max, 100, 10, 3))
	write(t, d, 45, 45, 4, 35, 3, 25, 2)
	read(t, d, 45, 16, 45, 0, 10, 20, 2, 30, 3, 40, 4)
	write(t, d, 55, 55, 5)
	read(t, d, 55, 26, 55, 0, 10, 30, 3, 40, 4, 50, 5)
}

// TestWhatWasWrittenLastIsRead is P12.
func TestWhatWasWrittenLastIsRead(t *testing.T) {
	d := create(t, conf(api.Average, 50, 10, 6, 60, 5))
	write(t, d, 100, 95, 7, 91, 8, 99, 9)
	read(t, d, 100, 90, 100, 0, 10, 90, 9)
	write(t, d, 100, 90, -3)
	read(t, d, 100, 90, 100, 0, 10, 90, -3)
	for now := 90; now < 150; now++ {
		read(t, d, now, 90, now, 0, 10, 90, -3)
	}
	if s, _ := d.Fetch(150, 90, 150); s.Archive != 1 {
		t.Errorf("Fetch(150, 90, 150) = %v, want one of the second archive", s)
	}
	write(t, d, 155, 145, 1) // another slot
	read(t, d, 149, 90, 149, 0, 10, 90, -3, 140, 1)
	write(t, d, 210, 150, 4) // the same slot, but too old for the first archive
	read(t, d, 149, 90, 149, 0, 10, 90, -3, 140, 1)
	write(t, d, 209, 150, 5) // the same slot: 90 is gone
	read(t, d, 149, 90, 149, 0, 10, 140, 1)
	read(t, d, 209, 150, 209, 0, 10, 150, 5)
}

func TestWhatFetchAnswersIsTheCallers(t *testing.T) {
	d := create(t, conf(api.Max, 100, 10, 3))
	write(t, d, 29, 5, 1, 15, 2, 25, 3)
	s, _ := d.Fetch(29, 0, 29)
	other, _ := d.Fetch(29, 0, 29)
	whole := s.Points[:cap(s.Points)]
	for i := range whole {
		whole[i] = api.Point{Stamp: 7, Value: 7}
	}
	read(t, d, 29, 0, 29, 0, 10, 0, 1, 10, 2, 20, 3)
	if !slices.Equal(other.Points, points(0, 1, 10, 2, 20, 3)) {
		t.Errorf("an earlier answer is now %v", other.Points)
	}
	write(t, d, 29, 5, 4)
	if !slices.Equal(other.Points, points(0, 1, 10, 2, 20, 3)) {
		t.Errorf("an earlier answer is now %v", other.Points)
	}
}

func TestFetchChangesNothing(t *testing.T) {
	d := create(t, conf(api.Average, 50, 10, 6, 60, 5))
	write(t, d, 100, 95, 7, 75, 9, 60, 2)
	for now := range 500 {
		d.Fetch(now, 0, now)
		d.Fetch(now, now/2, api.MaxStamp)
	}
	read(t, d, 100, 50, 100, 0, 10, 60, 2, 70, 9, 90, 7)
	read(t, d, 100, 0, 100, 1, 60, 60, 6)
}
