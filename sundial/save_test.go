package sundial_test

import (
	"bytes"
	"strings"
	"testing"

	"sundial/api"
	"sundial/sundial"
)

// free is a free slot as it is saved.
const free = "\xff\xff\xff\xff\x00\x00\x00\x00\x00\x00\x00\x00"

// saved holds what a database saves against the bytes that P8 asks, told piece by piece.
func saved(t *testing.T, d *sundial.Database, pieces ...string) {
	t.Helper()
	want := strings.Join(pieces, "")
	if got := d.Save(); string(got) != want {
		t.Errorf("Save() = %q, want %q", got, want)
	}
}

func TestSaveWithoutPoints(t *testing.T) {
	saved(t, create(t, conf(api.Average, 0, 1, 1)),
		"SUN\x01", "\x01", "\x00", "\x01", "\x00\x00\x00\x01\x00\x00\x00\x01", free)
	saved(t, create(t, conf(api.Widest, 100, 1, 2, 2, 2, 4, 2, 8, 2)),
		"SUN\x01", "\x06", "\x64", "\x04",
		"\x00\x00\x00\x01\x00\x00\x00\x02", "\x00\x00\x00\x02\x00\x00\x00\x02", "\x00\x00\x00\x04\x00\x00\x00\x02", "\x00\x00\x00\x08\x00\x00\x00\x02",
		strings.Repeat(free, 8))
	saved(t, create(t, conf(api.Sum, 51, api.MaxStep, api.MaxSlots)),
		"SUN\x01", "\x02", "\x33", "\x01", "\x00\x01\x51\x80\x00\x00\x00\x3c", strings.Repeat(free, 60))
}

func TestSaveMethodAndFactor(t *testing.T) {
	for m := api.Average; m <= api.Widest; m++ {
		for factor := 0; factor <= 100; factor++ {
			saved(t, create(t, conf(m, factor, 5, 1)),
				"SUN\x01", string([]byte{byte(m), byte(factor), 1}), "\x00\x00\x00\x05\x00\x00\x00\x01", free)
		}
	}
}

func TestSaveTheExample(t *testing.T) {
	d := create(t, conf(api.Average, 50, 10, 6, 60, 5))
	write(t, d, 100, 95, 7, 75, 9, 60, 2)
	saved(t, d,
		"SUN\x01\x01\x32\x02", "\x00\x00\x00\x0a\x00\x00\x00\x06", "\x00\x00\x00\x3c\x00\x00\x00\x05",
		"\x00\x00\x00\x3c\x00\x00\x00\x00\x00\x00\x00\x02", "\x00\x00\x00\x46\x00\x00\x00\x00\x00\x00\x00\x09", free, "\x00\x00\x00\x5a\x00\x00\x00\x00\x00\x00\x00\x07", free, free,
		free, "\x00\x00\x00\x3c\x00\x00\x00\x00\x00\x00\x00\x06", free, free, free)
}

func TestSaveEdgesOfStampsAndValues(t *testing.T) {
	d := create(t, conf(api.Last, 0, 1, 4))
	write(t, d, 3, 0, 0, 1, -1, 2, api.MaxValue, 3, -api.MaxValue)
	saved(t, d, "SUN\x01\x03\x00\x01\x00\x00\x00\x01\x00\x00\x00\x04",
		"\x00\x00\x00\x00\x00\x00\x00\x00\x00\x00\x00\x00", "\x00\x00\x00\x01\xff\xff\xff\xff\xff\xff\xff\xff",
		"\x00\x00\x00\x02\x00\x00\x00\x00\x3b\x9a\xca\x00", "\x00\x00\x00\x03\xff\xff\xff\xff\xc4\x65\x36\x00")
	write(t, d, api.MaxStamp, api.MaxStamp, 258, api.MaxStamp-1, -258)
	saved(t, d, "SUN\x01\x03\x00\x01\x00\x00\x00\x01\x00\x00\x00\x04",
		"\x00\x00\x00\x00\x00\x00\x00\x00\x00\x00\x00\x00", "\x00\x00\x00\x01\xff\xff\xff\xff\xff\xff\xff\xff",
		"\x7f\xff\xff\xfe\xff\xff\xff\xff\xff\xff\xfe\xfe", "\x7f\xff\xff\xff\x00\x00\x00\x00\x00\x00\x01\x02")
}

func TestADatabaseIsAlwaysAsManyBytes(t *testing.T) {
	d := create(t, conf(api.Sum, 50, 1, 60, 60, 60, 3600, 24, 86400, 60))
	const want = 7 + 4*8 + (60+60+24+60)*12
	for now := 0; now < 1000000; now += 997 {
		if got := len(d.Save()); got != want {
			t.Fatalf("Save() at %d = %d bytes, want %d", now, got, want)
		}
		write(t, d, now, now, now, now-now/2, -now)
	}
}

func TestWhatSaveAnswersIsTheCallers(t *testing.T) {
	d := create(t, conf(api.Max, 100, 10, 3))
	write(t, d, 29, 5, 1, 25, -2)
	first := d.Save()
	was := bytes.Clone(first)
	second := d.Save()
	clear(first[:cap(first)])
	_ = append(first, "more"...)
	if !bytes.Equal(second, was) || !bytes.Equal(d.Save(), was) {
		t.Errorf("Save() = %q and %q, want %q", second, d.Save(), was)
	}
	read(t, d, 29, 0, 29, 0, 10, 0, 1, 20, -2)
	write(t, d, 29, 15, 8)
	if !bytes.Equal(second, was) {
		t.Errorf("an update changed what was saved ahead of it: %q, it was %q", second, was)
	}
}
