package sundial_test

import (
	"math"
	"testing"

	"sundial/api"
	"sundial/sundial"
)

// resized answers what a database is resized to, which must pass and leave the old one as it was.
func resized(t *testing.T, d *sundial.Database, now int, c api.Config) *sundial.Database {
	t.Helper()
	was := string(d.Save())
	o, e := d.Resize(now, c)
	if e != api.OK || o == nil {
		t.Fatalf("Resize(%d, %v) = a database: %v, %d", now, c, o != nil, e)
	}
	if o.Config() != c {
		t.Errorf("Config() = %v, want %v", o.Config(), c)
	}
	saved(t, d, was)
	return o
}

// notResized holds a resize against an error, with which there is no database and nothing is changed.
func notResized(t *testing.T, d *sundial.Database, now int, c api.Config, want api.Errno) {
	t.Helper()
	was := string(d.Save())
	if o, e := d.Resize(now, c); o != nil || e != want {
		t.Errorf("Resize(%d, %v) = a database: %v, %d, want %d", now, c, o != nil, e, want)
	}
	saved(t, d, was)
}

func TestResizeTheTime(t *testing.T) {
	d := create(t, conf(api.Average, 50, 10, 6, 60, 5))
	write(t, d, 100, 95, 7, 75, 9, 60, 2)
	for _, now := range []int{math.MinInt, -1 << 32, -1, api.MaxStamp + 1, 1 << 32, 1<<32 + 100, math.MaxInt} {
		notResized(t, d, now, d.Config(), api.ErrArg)
		notResized(t, d, now, api.Config{}, api.ErrArg) // both are wrong: the time is named first
	}
	for _, now := range []int{0, 1, api.MaxStamp - 1, api.MaxStamp} {
		differ(t, resized(t, d, now, d.Config()), create(t, d.Config()))
		notResized(t, d, now, api.Config{}, api.ErrConfig)
	}
}

func TestResizeOnlyToWhatCheckTakes(t *testing.T) {
	d := create(t, conf(api.Average, 50, 10, 6, 60, 5))
	write(t, d, 100, 95, 7, 75, 9, 60, 2)
	for _, number := range append(farOut(), 0) {
		notResized(t, d, 100, conf(number, 50, 10, 6, 60, 5), api.ErrConfig)
		notResized(t, d, 100, conf(api.Sum, 50, number, 6), api.ErrConfig)
		notResized(t, d, 100, conf(api.Sum, 50, 10, number), api.ErrConfig)
		notResized(t, d, 100, conf(api.Sum, 50, 10, 6, number, 5), api.ErrConfig)
		notResized(t, d, 100, conf(api.Sum, 50, 10, 6, 60, number), api.ErrConfig)
	}
	for _, factor := range append(farOut(), 101) {
		notResized(t, d, 100, conf(api.Sum, factor, 10, 6), api.ErrConfig)
	}
	notResized(t, d, 100, conf(api.Sum, 50, 60, 5, 10, 6), api.ErrConfig)
	notResized(t, d, 100, conf(api.Sum, 50, 10, 5, 60, 5), api.ErrConfig)
	notResized(t, d, 100, conf(api.Sum, 50, 10, 61), api.ErrConfig)
	notResized(t, d, 100, conf(api.Sum, 50, 0, 0, 10, 6), api.ErrConfig)
}

func TestResizeTheExample(t *testing.T) {
	d := create(t, conf(api.Average, 50, 10, 6, 60, 5))
	write(t, d, 100, 95, 7, 75, 9, 60, 2)
	differ(t, resized(t, d, 100, d.Config()), d)
	o := resized(t, d, 100, conf(api.Sum, 100, 10, 6, 60, 5))
	read(t, o, 100, 50, 100, 0, 10, 60, 2, 70, 9, 90, 7)
	read(t, o, 100, 0, 100, 1, 60)
	o = resized(t, d, 100, conf(api.Sum, 0, 30, 4, 60, 5))
	read(t, o, 100, 0, 100, 0, 30, 60, 9, 90, 7)
	read(t, o, 200, 0, 200, 1, 60, 60, 16)
}

// TestResizeFromTheCoarsestToTheFinest: where two archives of the old one have something for the same slot, the finer one's stays.
func TestResizeFromTheCoarsestToTheFinest(t *testing.T) {
	d := create(t, conf(api.Sum, 0, 10, 3, 30, 2))
	write(t, d, 29, 5, 1, 15, 2, 25, 4)
	read(t, resized(t, d, 29, conf(api.Last, 0, 10, 3)), 29, 0, 29, 0, 10, 0, 1, 10, 2, 20, 4)
	read(t, resized(t, d, 29, conf(api.Last, 0, 30, 1)), 29, 0, 29, 0, 30, 0, 4)
	three := "SUN\x01\x04\x64\x03\x00\x00\x00\x0a\x00\x00\x00\x02\x00\x00\x00\x14\x00\x00\x00\x02\x00\x00\x00\x28\x00\x00\x00\x02"
	d = loaded(t, three, free, slot(10, 1), slot(0, 2), slot(20, 3), slot(0, 4), slot(40, 5))
	read(t, resized(t, d, 19, conf(api.Last, 0, 10, 9)), 19, 0, 19, 0, 10, 0, 2, 10, 1)
	read(t, resized(t, d, 19, conf(api.Last, 0, 20, 9)), 19, 0, 19, 0, 20, 0, 1)
	read(t, resized(t, d, 39, conf(api.Last, 0, 20, 9)), 39, 0, 39, 0, 20, 0, 2, 20, 3)
	read(t, resized(t, d, 41, conf(api.Last, 0, 20, 9)), 41, 0, 41, 0, 20, 0, 4, 20, 3, 40, 5)
	read(t, resized(t, d, 41, conf(api.Last, 0, 40, 9)), 41, 0, 41, 0, 40, 0, 3, 40, 5)
}

// TestResizeInTheOrderOfStamps: the slots have gone round, and what is written last into a coarser slot is what stays.
func TestResizeInTheOrderOfStamps(t *testing.T) {
	d := create(t, conf(api.Max, 100, 10, 3))
	write(t, d, 45, 45, 4, 35, 3, 25, 9)
	read(t, resized(t, d, 45, conf(api.Max, 100, 50, 2)), 45, 0, 45, 0, 50, 0, 4)
	write(t, d, 55, 55, 2)
	read(t, resized(t, d, 55, conf(api.Max, 100, 100, 2)), 55, 0, 55, 0, 100, 0, 2)
}

func TestResizeOnlyWhatTheOldOneCovers(t *testing.T) {
	d := create(t, conf(api.Last, 100, 10, 3))
	write(t, d, 29, 5, 1, 15, 2, 25, 4)
	wide := conf(api.Last, 100, 10, 60)
	for now, want := range map[int][]int{
		0: {0, 1}, 9: {0, 1}, 10: {0, 1, 10, 2}, 19: {0, 1, 10, 2}, 20: {0, 1, 10, 2, 20, 4}, 29: {0, 1, 10, 2, 20, 4},
		30: {10, 2, 20, 4}, 39: {10, 2, 20, 4}, 40: {20, 4}, 49: {20, 4}, 50: nil, 60: nil, 90: nil,
	} {
		o := resized(t, d, now, wide)
		read(t, o, 100, 0, 100, 0, 10, want...)
	}
}

// TestResizeEachArchiveCoversForItself: the finer archive still has what only the coarser one covers.
func TestResizeEachArchiveCoversForItself(t *testing.T) {
	d := create(t, conf(api.Sum, 100, 10, 3, 30, 3))
	write(t, d, 29, 5, 1, 15, 2, 25, 4)
	wide := conf(api.Last, 100, 10, 60)
	read(t, resized(t, d, 29, wide), 100, 0, 100, 0, 10, 0, 1, 10, 2, 20, 4)
	read(t, resized(t, d, 30, wide), 100, 0, 100, 0, 10, 0, 7, 10, 2, 20, 4)
	read(t, resized(t, d, 49, wide), 100, 0, 100, 0, 10, 0, 7, 20, 4)
	read(t, resized(t, d, 50, wide), 100, 0, 100, 0, 10, 0, 7)
	read(t, resized(t, d, 89, wide), 100, 0, 100, 0, 10, 0, 7)
	read(t, resized(t, d, 90, wide), 100, 0, 100, 0, 10)
}

func TestResizeLeavesOutWhatTheNewOneDoesNotCover(t *testing.T) {
	d := create(t, conf(api.Last, 100, 10, 10))
	write(t, d, 99, 5, 1, 15, 2, 25, 3, 35, 4, 95, 10)
	small := conf(api.Last, 100, 5, 5)
	for now, want := range map[int][]int{
		24: {0, 1, 10, 2, 20, 3}, 25: {10, 2, 20, 3}, 34: {10, 2, 20, 3, 30, 4}, 35: {20, 3, 30, 4},
		44: {20, 3, 30, 4}, 45: {30, 4}, 54: {30, 4}, 55: nil, 89: nil, 90: {90, 10}, 99: {90, 10},
	} {
		o := resized(t, d, now, small)
		read(t, o, now, 0, now, 0, 5, want...)
	}
	differ(t, resized(t, d, 60, small), create(t, small))
	differ(t, resized(t, d, 99, conf(api.Sum, 0, 1, 1)), create(t, conf(api.Sum, 0, 1, 1)))
}

func TestResizeWritesIntoTheFirstThatCovers(t *testing.T) {
	d := create(t, conf(api.Last, 100, 10, 10))
	write(t, d, 99, 5, 1, 35, 4, 75, 8, 95, 10)
	o := resized(t, d, 99, conf(api.Last, 100, 5, 4, 20, 3, 60, 2))
	read(t, o, 99, 80, 99, 0, 5, 90, 10)
	read(t, o, 99, 40, 99, 1, 20, 60, 8)
	read(t, o, 99, 0, 99, 2, 60, 0, 4)
}

// TestResizeGoesOn: what is written goes on by the new one's method and factor, point by point.
func TestResizeGoesOn(t *testing.T) {
	d := create(t, conf(api.Last, 0, 10, 3))
	write(t, d, 29, 5, 1, 15, 2, 25, 4)
	for method, want := range map[int]int{api.Average: 2, api.Sum: 7, api.Last: 4, api.Max: 4, api.Min: 1, api.Widest: 4} {
		read(t, resized(t, d, 29, conf(method, 100, 10, 3, 30, 2)), 59, 0, 59, 1, 30, 0, want)
	}
	d = create(t, conf(api.Last, 0, 10, 3))
	write(t, d, 29, 5, 1, 25, 4)
	read(t, resized(t, d, 29, conf(api.Sum, 66, 10, 3, 30, 2)), 59, 0, 59, 1, 30, 0, 5)
	read(t, resized(t, d, 29, conf(api.Sum, 67, 10, 3, 30, 2)), 59, 0, 59, 1, 30)
	read(t, resized(t, d, 29, conf(api.Sum, 0, 10, 3, 30, 2, 60, 2)), 119, 0, 119, 2, 60, 0, 5)
}

// TestResizeGoesOnOverWhatCameFromTheCoarser: a coarser point stays, until enough of the finer ones go on into its slot.
func TestResizeGoesOnOverWhatCameFromTheCoarser(t *testing.T) {
	d := create(t, conf(api.Sum, 100, 10, 3, 30, 3))
	write(t, d, 29, 5, 1, 15, 2, 25, 4)
	read(t, resized(t, d, 45, conf(api.Sum, 34, 10, 3, 30, 3)), 45, 0, 45, 1, 30, 0, 7)
	read(t, resized(t, d, 45, conf(api.Sum, 33, 10, 3, 30, 3)), 45, 0, 45, 1, 30, 0, 4)
}

func TestResizeMakesADatabaseOfItsOwn(t *testing.T) {
	d := create(t, conf(api.Sum, 0, 10, 3, 30, 2))
	write(t, d, 29, 5, 1, 15, 2, 25, 4)
	first, second := resized(t, d, 29, d.Config()), resized(t, d, 29, d.Config())
	was := string(d.Save())
	write(t, first, 59, 5, 8, 35, 9, 59, 9)
	saved(t, d, was)
	saved(t, second, was)
	write(t, d, 59, 35, 3)
	saved(t, second, was)
	write(t, second, 59, 35, 3)
	saved(t, second, string(d.Save()))
}

func TestResizeAtTheLastStamps(t *testing.T) {
	d := create(t, conf(api.Widest, 0, 1, 60, 60, 60, 3600, 24, 86400, 60))
	write(t, d, api.MaxStamp, api.MaxStamp, -api.MaxValue, api.MaxStamp-100, api.MaxValue)
	o := resized(t, d, api.MaxStamp, conf(api.Sum, 0, 1, 60))
	read(t, o, api.MaxStamp, 0, api.MaxStamp, 0, 1, api.MaxStamp-7, -api.MaxValue, api.MaxStamp, -api.MaxValue)
	o = resized(t, d, api.MaxStamp, conf(api.Sum, 0, 86400, 60))
	read(t, o, api.MaxStamp, 0, api.MaxStamp, 0, 86400, api.MaxStamp-api.MaxStamp%86400, -api.MaxValue)
}
