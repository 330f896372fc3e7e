package sundial_test

import (
	"math"
	"testing"

	"sundial/api"
	"sundial/sundial"
)

// conf makes a configuration of archives, each told by its step and its slots.
func conf(method, factor int, numbers ...int) api.Config {
	c := api.Config{Method: method, Factor: factor}
	for i := 0; i+1 < len(numbers); i += 2 {
		c.Archives[i/2] = api.Archive{Step: numbers[i], Slots: numbers[i+1]}
	}
	return c
}

// expect holds Check and Create against the error that P2 and P3 ask of both.
func expect(t *testing.T, c api.Config, want api.Errno) {
	t.Helper()
	if e := sundial.Check(c); e != want {
		t.Errorf("Check(%v) = %d, want %d", c, e, want)
	}
	d, e := sundial.Create(c)
	if e != want || (d != nil) != (want == api.OK) {
		t.Errorf("Create(%v) = a database: %v, %d, want %d", c, d != nil, e, want)
	}
	if d != nil && d.Config() != c {
		t.Errorf("Config() = %v, want %v", d.Config(), c)
	}
}

// farOut are numbers beyond all bounds, with some among them that come within them, if they are cut to fewer bits or multiplied until they wrap round.
func farOut() []int {
	return []int{
		math.MinInt, math.MinInt + 1, math.MinInt32, -1 << 32, -257, -1,
		86401, 1<<16 + 86400, math.MaxInt32, 1 << 32, 1<<32 + 1, 1<<32 + 60, 1 << 62, math.MaxInt - 1, math.MaxInt,
	}
}

func TestCheckOrdinary(t *testing.T) {
	expect(t, conf(api.Average, 50, 10, 6, 60, 5), api.OK)
	expect(t, conf(api.Sum, 30, 60, 60), api.OK)
	expect(t, conf(api.Last, 75, 1, 60, 60, 60, 3600, 48), api.OK)
	expect(t, conf(api.Widest, 10, 1, 60, 60, 60, 3600, 24, 86400, 60), api.OK)
	expect(t, conf(api.Average, 50, 60, 5, 10, 6), api.ErrConfig)
}

func TestCheckMethod(t *testing.T) {
	for m := api.Average; m <= api.Widest; m++ {
		expect(t, conf(m, 50, 10, 6, 60, 5), api.OK)
	}
	for _, m := range append(farOut(), 0, 7, 256+api.Sum) {
		expect(t, conf(m, 50, 10, 6, 60, 5), api.ErrConfig)
	}
}

func TestCheckFactor(t *testing.T) {
	for factor := 0; factor <= 100; factor++ {
		expect(t, conf(api.Max, factor, 10, 6, 60, 5), api.OK)
	}
	for _, factor := range append(farOut(), 101, 256, 256+50) {
		expect(t, conf(api.Max, factor, 10, 6, 60, 5), api.ErrConfig)
	}
}

func TestCheckBoundsOfOneArchive(t *testing.T) {
	for _, step := range []int{1, 2, api.MaxStep - 1, api.MaxStep} {
		for _, slots := range []int{1, 2, api.MaxSlots - 1, api.MaxSlots} {
			expect(t, conf(api.Min, 0, step, slots), api.OK)
		}
	}
	for _, step := range append(farOut(), 0) {
		expect(t, conf(api.Min, 0, step, 1), api.ErrConfig)
		expect(t, conf(api.Min, 0, step, api.MaxSlots), api.ErrConfig)
	}
	for _, slots := range append(farOut(), 0, api.MaxSlots+1) {
		expect(t, conf(api.Min, 0, 1, slots), api.ErrConfig)
		expect(t, conf(api.Min, 0, api.MaxStep, slots), api.ErrConfig)
	}
}

func TestCheckBoundsOfEveryArchive(t *testing.T) {
	good := conf(api.Sum, 50, 1, 60, 60, 60, 3600, 24, 86400, 60)
	expect(t, good, api.OK)
	for i := range good.Archives {
		for _, number := range append(farOut(), 0) {
			c := good
			c.Archives[i].Step = number
			expect(t, c, api.ErrConfig)
			c = good
			c.Archives[i].Slots = number
			expect(t, c, api.ErrConfig)
		}
	}
	good.Archives[3].Slots = api.MaxSlots + 1
	expect(t, good, api.ErrConfig)
	expect(t, conf(api.Sum, 50, 43200, 3, 86400, 2), api.OK)
	expect(t, conf(api.Sum, 50, 43201, 3, 86402, 2), api.ErrConfig)
}

func TestCheckZeroArchives(t *testing.T) {
	expect(t, api.Config{}, api.ErrConfig)
	expect(t, conf(api.Sum, 50), api.ErrConfig)
	expect(t, conf(api.Sum, 50, 0, 0, 10, 6), api.ErrConfig)
	expect(t, conf(api.Sum, 50, 0, 0, 0, 0, 0, 0, 10, 6), api.ErrConfig)
	expect(t, conf(api.Sum, 50, 10, 6, 0, 0, 60, 5), api.ErrConfig)
	expect(t, conf(api.Sum, 50, 10, 6, 0, 0, 0, 0, 60, 5), api.ErrConfig)
	expect(t, conf(api.Sum, 50, 10, 6, 60, 5, 0, 0, 300, 5), api.ErrConfig)
	expect(t, conf(api.Sum, 50, 10, 6, 60, 5, 0, 0, 0, 1), api.ErrConfig)
	expect(t, conf(api.Sum, 50, 10, 6, 60, 5, 0, 0, -1, 0), api.ErrConfig)
	expect(t, conf(api.Sum, 50, 10, 6, 60, 5, 300, 5), api.OK)
}

func TestCheckSteps(t *testing.T) {
	expect(t, conf(api.Sum, 50, 10, 6, 10, 7), api.ErrConfig)
	expect(t, conf(api.Sum, 50, 10, 6, 11, 60), api.ErrConfig)
	expect(t, conf(api.Sum, 50, 10, 6, 19, 60), api.ErrConfig)
	expect(t, conf(api.Sum, 50, 10, 6, 20, 60), api.OK)
	expect(t, conf(api.Sum, 50, 10, 6, 21, 60), api.ErrConfig)
	expect(t, conf(api.Sum, 50, 20, 2, 10, 60), api.ErrConfig)
	expect(t, conf(api.Sum, 50, 1, 4, 2, 4, 3, 4), api.ErrConfig)
	expect(t, conf(api.Sum, 50, 1, 4, 2, 4, 4, 4, 4, 5), api.ErrConfig)
	expect(t, conf(api.Sum, 50, 1, 4, 2, 4, 4, 4, 6, 4), api.ErrConfig)
}

func TestCheckReaches(t *testing.T) {
	expect(t, conf(api.Sum, 50, 10, 6, 20, 2), api.ErrConfig)
	expect(t, conf(api.Sum, 50, 10, 6, 20, 3), api.ErrConfig)
	expect(t, conf(api.Sum, 50, 10, 6, 20, 4), api.OK)
	expect(t, conf(api.Sum, 50, 10, 7, 20, 4), api.OK)
	expect(t, conf(api.Sum, 50, 10, 8, 20, 4), api.ErrConfig)
	expect(t, conf(api.Sum, 50, 1, 2, 2, 4, 4, 2), api.ErrConfig)
	expect(t, conf(api.Sum, 50, 1, 2, 2, 4, 4, 3), api.OK)
	expect(t, conf(api.Sum, 50, 1, 2, 2, 2, 4, 2, 8, 1), api.ErrConfig)
	expect(t, conf(api.Sum, 50, 1, 2, 2, 2, 4, 2, 8, 2), api.OK)
}

func TestCheckSlotsForAStretch(t *testing.T) {
	expect(t, conf(api.Sum, 50, 10, 5, 60, 5), api.ErrConfig)
	expect(t, conf(api.Sum, 50, 10, 6, 60, 5), api.OK)
	expect(t, conf(api.Sum, 50, 10, 7, 60, 5), api.OK)
	expect(t, conf(api.Sum, 50, 1, 60, 60, 2), api.OK)
	expect(t, conf(api.Sum, 50, 1, 60, 61, 2), api.ErrConfig)
	expect(t, conf(api.Sum, 50, 1, 10, 10, 2, 30, 2), api.ErrConfig)
	expect(t, conf(api.Sum, 50, 1, 10, 10, 3, 30, 2), api.OK)
	// Only neighbours count: the first of these has too few slots for the last one's step.
	expect(t, conf(api.Sum, 50, 1, 2, 2, 2, 4, 2, 8, 2), api.OK)
}
