package sundial_test

import (
	"math"
	"slices"
	"testing"

	"sundial/api"
	"sundial/sundial"
)

// points makes points of stamps and values by turns.
func points(numbers ...int) []api.Point {
	var list []api.Point
	for i := 0; i+1 < len(numbers); i += 2 {
		list = append(list, api.Point{Stamp: numbers[i], Value: numbers[i+1]})
	}
	return list
}

// write updates a database by what must pass: stamps and values by turns.
func write(t *testing.T, d *sundial.Database, now int, numbers ...int) {
	t.Helper()
	refuse(t, d, now, points(numbers...), api.OK, 0)
}

// refuse holds an update against the answer that P4 asks.
func refuse(t *testing.T, d *sundial.Database, now int, list []api.Point, want api.Errno, number int) {
	t.Helper()
	if e, at := d.Update(now, list...); e != want || at != number {
		t.Errorf("Update(%d, %d points %v) = %d, %d, want %d, %d", now, len(list), list[:min(3, len(list))], e, at, want, number)
	}
}

func TestUpdateTheTimeAndHowManyPoints(t *testing.T) {
	d := create(t, conf(api.Average, 50, 10, 6, 60, 5))
	for _, now := range []int{math.MinInt, -1, api.MaxStamp + 1, 1 << 32, math.MaxInt} {
		refuse(t, d, now, nil, api.ErrArg, 0)
		refuse(t, d, now, points(5, 5, 6, 6), api.ErrArg, 0)
		refuse(t, d, now, points(now, 5), api.ErrArg, 0)
	}
	refuse(t, d, 0, nil, api.OK, 0)
	refuse(t, d, 0, points(0, 1), api.OK, 0)
	refuse(t, d, api.MaxStamp, nil, api.OK, 0)
	refuse(t, d, api.MaxStamp, points(api.MaxStamp, 1), api.OK, 0)
	many := slices.Repeat(points(5, 5), api.MaxPoints+1)
	refuse(t, d, 5, many[:api.MaxPoints-1], api.OK, 0)
	refuse(t, d, 5, many[:api.MaxPoints], api.OK, 0)
	refuse(t, d, 5, many, api.ErrArg, 0)
	refuse(t, d, 4, many, api.ErrArg, 0)
	refuse(t, d, 5, slices.Repeat(many, 50), api.ErrArg, 0)
}

func TestUpdateBoundsOfAPoint(t *testing.T) {
	d := create(t, conf(api.Average, 50, 10, 6, 60, 5))
	for _, stamp := range []int{math.MinInt, -1 << 32, -1, api.MaxStamp + 1, 1<<32 + 400, math.MaxInt} {
		refuse(t, d, 400, points(stamp, 1), api.ErrArg, 0)
		refuse(t, d, 400, points(400, 1, 399, 1, stamp, 1), api.ErrArg, 2)
	}
	for _, value := range []int{math.MinInt, -1 << 32, -api.MaxValue - 1, api.MaxValue + 1, 1 << 32, math.MaxInt} {
		refuse(t, d, 400, points(400, value), api.ErrArg, 0)
		refuse(t, d, 400, points(400, 1, 400, value), api.ErrArg, 1)
	}
	refuse(t, d, 400, points(400, api.MaxValue, 400, -api.MaxValue, 400, 0), api.OK, 0)
}

func TestUpdateFutureAndOld(t *testing.T) {
	d := create(t, conf(api.Average, 50, 10, 6, 60, 5))
	refuse(t, d, 100, points(101, 0), api.ErrFuture, 0)
	refuse(t, d, 100, points(api.MaxStamp, 0), api.ErrFuture, 0)
	refuse(t, d, 100, points(100, 0, 0, 0), api.OK, 0)
	refuse(t, d, 400, points(400, 1, 100, 1), api.ErrOld, 1)
	refuse(t, d, 400, points(101, 1), api.OK, 0)
	refuse(t, d, 400, points(0, 1), api.ErrOld, 0)
	refuse(t, d, 299, points(0, 1), api.OK, 0)
	refuse(t, d, 300, points(0, 1), api.ErrOld, 0)
	refuse(t, d, api.MaxStamp, points(0, 1), api.ErrOld, 0)
	one := create(t, conf(api.Average, 50, 1, 1))
	refuse(t, one, 7, points(7, 1), api.OK, 0)
	refuse(t, one, 7, points(6, 1), api.ErrOld, 0)
	refuse(t, one, 7, points(8, 1), api.ErrFuture, 0)
}

// TestUpdateTheFirstBadPoint: the first point decides, not the error that is named first; of one point it is the latter.
func TestUpdateTheFirstBadPoint(t *testing.T) {
	d := create(t, conf(api.Average, 50, 10, 6, 60, 5))
	refuse(t, d, 400, points(400, 1, 401, 1, -1, 1), api.ErrFuture, 1)
	refuse(t, d, 400, points(1, 1, 401, 1, -1, 1), api.ErrOld, 0)
	refuse(t, d, 400, points(400, 1, -1, 1, 401, 1, 1, 1), api.ErrArg, 1)
	refuse(t, d, 400, points(401, api.MaxValue+1), api.ErrArg, 0)
	refuse(t, d, 400, points(1, api.MaxValue+1), api.ErrArg, 0)
	last := append(slices.Repeat(points(400, 1), api.MaxPoints-1), api.Point{Stamp: 401})
	refuse(t, d, 400, last, api.ErrFuture, api.MaxPoints-1)
}

func TestUpdateKeepsNothingOfWhatIsHandedIn(t *testing.T) {
	d := create(t, conf(api.Max, 100, 10, 3))
	list := append(make([]api.Point, 0, 9), points(25, 3, 5, 1)...)
	was := slices.Clone(list[:cap(list)])
	refuse(t, d, 29, list, api.OK, 0)
	if !slices.Equal(list[:cap(list)], was) {
		t.Errorf("Update wrote into %v, they were %v", list[:cap(list)], was)
	}
	list[0], list[1] = api.Point{Stamp: 15, Value: 9}, api.Point{Stamp: 15, Value: 8}
	read(t, d, 29, 0, 29, 0, 10, 0, 1, 20, 3)
}

func TestUpdateOfOneDatabaseLeavesTheOthers(t *testing.T) {
	c := conf(api.Max, 0, 10, 3, 20, 3)
	one, other := create(t, c), create(t, c)
	write(t, one, 29, 25, 3)
	read(t, other, 29, 0, 29, 0, 10)
	read(t, other, 40, 0, 40, 1, 20)
	write(t, other, 29, 25, 4)
	read(t, one, 29, 0, 29, 0, 10, 20, 3)
	read(t, one, 40, 0, 40, 1, 20, 20, 3)
	if one.Config() != c {
		t.Errorf("Config() = %v, want %v", one.Config(), c)
	}
}

func TestMethodsOfAStretch(t *testing.T) {
	for _, k := range []struct {
		method, want int
		values       []int
	}{
		{api.Average, 2, []int{1, 2, 5}},
		{api.Average, -3, []int{-1, -2, -5}},
		{api.Average, -1, []int{0, 0, -1}},
		{api.Average, api.MaxValue, []int{api.MaxValue, api.MaxValue, api.MaxValue}},
		{api.Sum, 8, []int{1, 2, 5}},
		{api.Sum, api.MaxValue, []int{api.MaxValue, api.MaxValue, -1}},
		{api.Sum, -api.MaxValue, []int{-api.MaxValue, -1, -api.MaxValue}},
		{api.Sum, 1, []int{api.MaxValue, 1, -api.MaxValue}},
		{api.Last, 5, []int{9, 2, 5}},
		{api.Max, -1, []int{-3, -1, -2}},
		{api.Min, -3, []int{-1, -3, 7}},
		{api.Widest, -9, []int{3, -9, 8}},
		{api.Widest, 9, []int{-9, 9, 8}},
		{api.Widest, 9, []int{9, -9, 8}},
	} {
		d := create(t, conf(k.method, 100, 1, 3, 3, 2))
		// The last one is written first: the order is that of the stamps.
		write(t, d, 5, 5, k.values[2], 3, k.values[0], 4, k.values[1])
		read(t, d, 5, 0, 5, 1, 3, 3, k.want)
	}
}

func TestFactorOfAStretch(t *testing.T) {
	for factor := range 101 {
		d := create(t, conf(api.Sum, factor, 1, 4, 4, 2))
		for have := 1; have <= 4; have++ {
			write(t, d, 7, 8-have, 1)
			if 25*have >= factor {
				read(t, d, 7, 0, 7, 1, 4, 4, have)
			} else {
				read(t, d, 7, 0, 7, 1, 4)
			}
		}
	}
}

// TestFactorOfAThird: a third of a hundred is no whole number, so that it must not be rounded.
func TestFactorOfAThird(t *testing.T) {
	for factor, goes := range map[int]bool{33: true, 34: false} {
		d := create(t, conf(api.Sum, factor, 1, 3, 3, 2))
		write(t, d, 5, 4, 7)
		if goes {
			read(t, d, 5, 0, 5, 1, 3, 3, 7)
		} else {
			read(t, d, 5, 0, 5, 1, 3)
		}
	}
}

// TestGoesOnOverWhatIsNoLongerCovered: an archive has what stands in its slots, covered or not.
func TestGoesOnOverWhatIsNoLongerCovered(t *testing.T) {
	d := create(t, conf(api.Sum, 100, 10, 2, 20, 3))
	write(t, d, 0, 0, 1)
	write(t, d, 25, 10, 2) // at 25 the first archive covers 6 on, so not 0
	read(t, d, 25, 0, 25, 1, 20, 0, 3)
}

// TestAnotherStampInTheSlotDoesNotCount: the slot of a stamp of the stretch has been taken by a later stretch.
func TestAnotherStampInTheSlotDoesNotCount(t *testing.T) {
	d := create(t, conf(api.Sum, 0, 10, 2, 20, 3))
	write(t, d, 25, 20, 5)
	write(t, d, 25, 10, 2) // of the stretch from 0 on there is 10 only, as the slot of 0 has 20
	read(t, d, 25, 0, 25, 1, 20, 0, 2, 20, 5)
}

func TestAChainStopsWhereTooLittleIs(t *testing.T) {
	d := create(t, conf(api.Sum, 100, 1, 4, 2, 4, 4, 4))
	write(t, d, 8, 5, 1)
	read(t, d, 8, 4, 8, 1, 2)
	write(t, d, 8, 6, 2, 7, 3)
	read(t, d, 8, 4, 8, 1, 2, 6, 5)
	read(t, d, 8, 0, 8, 2, 4)
	write(t, d, 8, 4, 9) // into the second archive
	read(t, d, 8, 4, 8, 1, 2, 4, 9, 6, 5)
	read(t, d, 8, 0, 8, 2, 4, 4, 14)
	write(t, d, 8, 7, 4) // through all three again
	read(t, d, 8, 0, 8, 2, 4, 4, 15)
}

func TestAChainOfFourArchives(t *testing.T) {
	d := create(t, conf(api.Last, 0, 1, 2, 2, 2, 4, 2, 8, 2))
	write(t, d, 15, 15, 6)
	read(t, d, 15, 14, 15, 0, 1, 15, 6)
	read(t, d, 15, 12, 15, 1, 2, 14, 6)
	read(t, d, 15, 8, 15, 2, 4, 12, 6)
	read(t, d, 15, 0, 15, 3, 8, 8, 6)
}

func TestAPointGoesIntoTheFirstArchiveThatCoversIt(t *testing.T) {
	d := create(t, conf(api.Last, 0, 10, 6, 60, 5))
	write(t, d, 100, 40, 1) // just too old for the first archive
	read(t, d, 100, 0, 100, 1, 60, 0, 1)
	read(t, d, 59, 0, 59, 0, 10)
	write(t, d, 100, 41, 2)
	read(t, d, 100, 0, 100, 1, 60, 0, 2)
	read(t, d, 59, 0, 59, 0, 10, 40, 2)
}

func TestTheLastStamps(t *testing.T) {
	d := create(t, conf(api.Sum, 0, 43200, 3, 86400, 60))
	write(t, d, api.MaxStamp, api.MaxStamp, 5, api.MaxStamp-43200, 6)
	begin := api.MaxStamp / 43200 * 43200
	read(t, d, api.MaxStamp, api.MaxStamp-2*43200, api.MaxStamp, 0, 43200, begin-43200, 6, begin, 5)
	coarse := api.MaxStamp / 86400 * 86400
	if coarse == begin {
		read(t, d, api.MaxStamp, 0, api.MaxStamp, 1, 86400, coarse-86400, 6, coarse, 5)
	} else {
		read(t, d, api.MaxStamp, 0, api.MaxStamp, 1, 86400, coarse, 11)
	}
}
