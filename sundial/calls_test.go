package sundial_test

import (
	"bytes"
	"slices"
	"testing"

	"sundial/api"
	"sundial/sundial"
)

func create(t *testing.T, c api.Config) *sundial.Database {
	t.Helper()
	d, e := sundial.Create(c)
	if e != api.OK || d == nil {
		t.Fatalf("Create(%v) = a database: %v, %d", c, d != nil, e)
	}
	return d
}

func TestWhatIsHandedToCreateIsNotKept(t *testing.T) {
	handed := conf(api.Average, 50, 10, 6, 60, 5)
	was := handed
	d := create(t, handed)
	if handed != was {
		t.Errorf("Create wrote into %v, it was %v", handed, was)
	}
	handed.Method, handed.Factor = api.Min, 1
	handed.Archives[0] = api.Archive{Step: 1, Slots: 1}
	if d.Config() != was {
		t.Errorf("Config() = %v, want %v", d.Config(), was)
	}
}

func TestWhatConfigAnswersIsTheCallers(t *testing.T) {
	was := conf(api.Last, 7, 10, 6, 60, 5)
	d := create(t, was)
	answer := d.Config()
	answer.Method, answer.Factor = api.Sum, 0
	answer.Archives[1] = api.Archive{}
	if d.Config() != was {
		t.Errorf("Config() = %v, want %v", d.Config(), was)
	}
}

func TestDatabasesHaveNothingToDoWithOneAnother(t *testing.T) {
	configs := []api.Config{
		conf(api.Average, 50, 10, 6, 60, 5),
		conf(api.Widest, 0, 1, 1),
		conf(api.Average, 50, 10, 6, 60, 5),
		conf(api.Sum, 100, 1, 2, 2, 2, 4, 2, 8, 2),
	}
	var databases []*sundial.Database
	for _, c := range configs {
		databases = append(databases, create(t, c))
		sundial.Create(conf(api.Sum, 50, 60, 5, 10, 6))
	}
	for i, d := range databases {
		if d.Config() != configs[i] {
			t.Errorf("Config() of database %d = %v, want %v", i, d.Config(), configs[i])
		}
		if slices.Index(databases, d) != i {
			t.Errorf("database %d was answered before", i)
		}
	}
}

// TestNumbersFarOut hands in numbers far out at every place, several at a time: there must be no panic, and none of them may pass.
func TestNumbersFarOut(t *testing.T) {
	numbers := append(farOut(), 1, 60)
	count := len(numbers)
	for i := range count * count * count * count {
		a, b := numbers[i%count], numbers[i/count%count]
		c, d := numbers[i/count/count%count], numbers[i/count/count/count]
		if min(a, b, c, d) >= 1 && max(a, b, c, d) <= 60 {
			continue
		}
		expect(t, conf(api.Sum, 50, a, b, c, d), api.ErrConfig)
		expect(t, conf(a, b, 1, 60, c, d), api.ErrConfig)
	}
}

// TestNoPanicOfTheOtherCalls asks of them only what holds whatever they answer.
func TestNoPanicOfTheOtherCalls(t *testing.T) {
	c := conf(api.Average, 50, 10, 6, 60, 5)
	d := create(t, c)
	numbers := append(farOut(), 0, 1, 60, 100)
	for _, now := range numbers {
		for _, number := range numbers {
			points := []api.Point{{Stamp: number, Value: now}, {Stamp: now, Value: number}}
			was := slices.Clone(points)
			d.Update(now, points...)
			if !slices.Equal(points, was) {
				t.Errorf("Update at %d wrote into %v, they were %v", now, points, was)
			}
			d.Fetch(now, number, now)
			d.Fetch(now, now, number)
		}
		d.Update(now)
		d.Update(now, make([]api.Point, api.MaxPoints+1)...)
		d.Resize(now, api.Config{})
		d.Resize(now, c)
	}
	d.Diff(create(t, c))
	d.Diff(create(t, conf(api.Sum, 0, 1, 1)))
	if d.Config() != c {
		t.Errorf("Config() = %v, want %v", d.Config(), c)
	}
}

func TestNoPanicOfLoad(t *testing.T) {
	sundial.Load(nil)
	saved := create(t, conf(api.Average, 50, 10, 6, 60, 5)).Save()
	for _, b := range [][]byte{{}, {'S'}, {'S', 'U', 'N', 1}, bytes.Repeat([]byte{0xff}, 1000), saved} {
		was := bytes.Clone(b)
		sundial.Load(b)
		if !bytes.Equal(b, was) {
			t.Errorf("Load wrote into %v, they were %v", b, was)
		}
	}
}
