package sundial_test

import (
	"bytes"
	"slices"
	"strings"
	"testing"

	"sundial/api"
	"sundial/sundial"
)

// two is a database of two archives, 10 seconds and 3 slots, 20 seconds and 2 slots; Max, factor 50; only its slots are missing.
const two = "SUN\x01\x04\x32\x02\x00\x00\x00\x0a\x00\x00\x00\x03\x00\x00\x00\x14\x00\x00\x00\x02"

// slot is a slot as it is saved, if the value is neither below 0 nor above 2^32 - 1.
func slot(stamp, value uint32) string {
	four := func(n uint32) string { return string([]byte{byte(n >> 24), byte(n >> 16), byte(n >> 8), byte(n)}) }
	return four(stamp) + "\x00\x00\x00\x00" + four(value)
}

// loaded answers the database that bytes must be, and holds it against P13: it is saved as these bytes.
func loaded(t *testing.T, pieces ...string) *sundial.Database {
	t.Helper()
	b := []byte(strings.Join(pieces, ""))
	d, e := sundial.Load(b)
	if e != api.OK || d == nil {
		t.Fatalf("Load(%q) = a database: %v, %d", b, d != nil, e)
	}
	if got := d.Save(); !bytes.Equal(got, b) {
		t.Errorf("loaded %q, saved %q", b, got)
	}
	return d
}

// noForm holds Load against the error that P9 asks of bytes that are no database.
func noForm(t *testing.T, pieces ...string) {
	t.Helper()
	b := []byte(strings.Join(pieces, ""))
	if d, e := sundial.Load(b); d != nil || e != api.ErrForm {
		t.Errorf("Load(%q) = a database: %v, %d, want ErrForm", b, d != nil, e)
	}
}

func TestLoadOrdinary(t *testing.T) {
	d := loaded(t, two, slot(30, 3), slot(10, 1), free, slot(0, 9), slot(20, 8))
	if want := conf(api.Max, 50, 10, 3, 20, 2); d.Config() != want {
		t.Errorf("Config() = %v, want %v", d.Config(), want)
	}
	read(t, d, 39, 10, 39, 0, 10, 10, 1, 30, 3)
	read(t, d, 39, 0, 39, 1, 20, 0, 9, 20, 8)
	write(t, d, 39, 25, 2)
	read(t, d, 39, 10, 39, 0, 10, 10, 1, 20, 2, 30, 3)
	read(t, d, 39, 0, 39, 1, 20, 0, 9, 20, 3)
}

func TestLoadTheMarkAndTheLength(t *testing.T) {
	slots := strings.Repeat(free, 5)
	whole := two + slots
	loaded(t, whole)
	for i := range whole {
		noForm(t, whole[:i])
	}
	noForm(t, whole, "\x00")
	noForm(t, whole, free)
	noForm(t, whole, whole)
	noForm(t, "\x00", whole)
	for i := range 4 {
		for x := range 256 {
			if b := []byte(whole); b[i] != byte(x) {
				b[i] = byte(x)
				noForm(t, string(b))
			}
		}
	}
}

func TestLoadMethodAndFactor(t *testing.T) {
	for x := range 256 {
		b := []byte("SUN\x01\x04\x32\x01\x00\x00\x00\x0a\x00\x00\x00\x01" + free)
		b[4] = byte(x)
		if api.Average <= x && x <= api.Widest {
			loaded(t, string(b))
		} else {
			noForm(t, string(b))
		}
		b[4], b[5] = api.Sum, byte(x)
		if x <= 100 {
			loaded(t, string(b))
		} else {
			noForm(t, string(b))
		}
	}
}

func TestLoadHowManyArchives(t *testing.T) {
	shapes := "\x00\x00\x00\x01\x00\x00\x00\x02\x00\x00\x00\x02\x00\x00\x00\x02\x00\x00\x00\x04\x00\x00\x00\x02\x00\x00\x00\x08\x00\x00\x00\x02\x00\x00\x00\x10\x00\x00\x00\x02"
	for count := range 256 {
		archives := strings.Repeat(shapes, 60)[:count*8]
		head := "SUN\x01\x01\x32" + string([]byte{byte(count)})
		if 1 <= count && count <= api.MaxArchives {
			loaded(t, head, archives, strings.Repeat(free, 2*count))
		} else {
			noForm(t, head, archives, strings.Repeat(free, 2*count))
		}
		noForm(t, head)
		noForm(t, head, archives)
	}
	noForm(t, "SUN\x01\x01\x32\x00")
	noForm(t, "SUN\x01\x01\x32\x00", free)
}

// TestLoadArchivesOfZeros: such an archive is not there, so that it may not be counted.
func TestLoadArchivesOfZeros(t *testing.T) {
	zero, one := "\x00\x00\x00\x00\x00\x00\x00\x00", "\x00\x00\x00\x0a\x00\x00\x00\x01"
	loaded(t, "SUN\x01\x01\x32\x01", one, free)
	noForm(t, "SUN\x01\x01\x32\x02", one, zero, free)
	noForm(t, "SUN\x01\x01\x32\x04", one, zero, zero, zero, free)
	noForm(t, "SUN\x01\x01\x32\x01", zero)
	noForm(t, "SUN\x01\x01\x32\x02", zero, one, free)
	noForm(t, "SUN\x01\x01\x32\x03", one, zero, "\x00\x00\x00\x14\x00\x00\x00\x02", free, free, free)
}

func TestLoadOnlyConfigurationsThatCheckTakes(t *testing.T) {
	head := func(shape ...byte) string {
		return "SUN\x01\x01\x32" + string([]byte{byte(len(shape) / 8)}) + string(shape)
	}
	loaded(t, head(0, 1, 0x51, 0x80, 0, 0, 0, 60), strings.Repeat(free, 60))
	noForm(t, head(0, 1, 0x51, 0x81, 0, 0, 0, 60), strings.Repeat(free, 60))
	noForm(t, head(0, 1, 0x51, 0x80, 0, 0, 0, 61), strings.Repeat(free, 61))
	noForm(t, head(0, 0, 0, 0, 0, 0, 0, 1), free)
	noForm(t, head(0, 0, 0, 1, 0, 0, 0, 0))
	noForm(t, head(0xff, 0xff, 0xff, 0xff, 0, 0, 0, 1), free)
	noForm(t, head(0x80, 0, 0, 1, 0, 0, 0, 1), free)
	noForm(t, head(0, 0, 0, 1, 0xff, 0xff, 0xff, 0xff), free)
	noForm(t, head(0, 0, 0, 1, 1, 0, 0, 1), free)
	noForm(t, head(0, 0, 0, 60, 0, 0, 0, 5, 0, 0, 0, 10, 0, 0, 0, 6), strings.Repeat(free, 11))
	noForm(t, head(0, 0, 0, 10, 0, 0, 0, 6, 0, 0, 0, 25, 0, 0, 0, 6), strings.Repeat(free, 12))
	noForm(t, head(0, 0, 0, 10, 0, 0, 0, 6, 0, 0, 0, 20, 0, 0, 0, 3), strings.Repeat(free, 9))
	noForm(t, head(0, 0, 0, 10, 0, 0, 0, 5, 0, 0, 0, 60, 0, 0, 0, 5), strings.Repeat(free, 10))
	loaded(t, head(0, 0, 0, 10, 0, 0, 0, 6, 0, 0, 0, 60, 0, 0, 0, 5), strings.Repeat(free, 11))
}

// TestLoadEverySlot puts into one slot after the other what may and what may not be there.
func TestLoadEverySlot(t *testing.T) {
	good := []string{free, free, free, free, free}
	for i, begin := range []uint32{0, 10, 20, 0, 20} {
		step, reach := uint32(10), uint32(30)
		if i >= 3 {
			step, reach = 20, 40
		}
		with := func(s string) string {
			slots := slices.Clone(good)
			slots[i] = s
			return two + strings.Join(slots, "")
		}
		for _, stamp := range []uint32{begin, begin + reach, begin + 1000*reach, begin + reach*((api.MaxStamp-begin)/reach)} {
			loaded(t, with(slot(stamp, 0)))
			loaded(t, with(slot(stamp, api.MaxValue)))
			noForm(t, with(slot(stamp, api.MaxValue+1)))
			noForm(t, with(slot(stamp, 1<<32-1)))
			noForm(t, with(slot(stamp+1, 1)))
			noForm(t, with(slot(stamp+step-1, 1)))
			noForm(t, with(slot(stamp+step, 1)))
			noForm(t, with(slot(stamp+reach-step, 1)))
		}
		for stamp := begin + reach*((api.MaxStamp-begin)/reach) + reach; stamp < 1<<31+1000; stamp += reach {
			noForm(t, with(slot(stamp, 0)))
		}
		for _, stamp := range []uint32{1 << 31, 1<<32 - 2, (1<<32-1-begin)/reach*reach + begin} {
			noForm(t, with(slot(stamp, 0)))
		}
	}
}

func TestLoadBoundsOfStamps(t *testing.T) {
	head := "SUN\x01\x01\x32\x01\x00\x00\x00\x01\x00\x00\x00\x01"
	for _, stamp := range []uint32{0, 1, api.MaxStamp - 1, api.MaxStamp} {
		loaded(t, head, slot(stamp, 1))
	}
	for _, stamp := range []uint32{api.MaxStamp + 1, api.MaxStamp + 2, 1<<32 - 2, 1<<32 - 1} {
		noForm(t, head, slot(stamp, 1))
	}
}

func TestLoadBoundsOfValues(t *testing.T) {
	head := "SUN\x01\x01\x32\x01\x00\x00\x00\x01\x00\x00\x00\x01\x00\x00\x00\x05"
	for _, value := range []string{
		"\x00\x00\x00\x00\x00\x00\x00\x00", "\xff\xff\xff\xff\xff\xff\xff\xff",
		"\x00\x00\x00\x00\x3b\x9a\xca\x00", "\xff\xff\xff\xff\xc4\x65\x36\x00",
	} {
		loaded(t, head, value)
	}
	for _, value := range []string{
		"\x00\x00\x00\x00\x3b\x9a\xca\x01", "\xff\xff\xff\xff\xc4\x65\x35\xff",
		"\x7f\xff\xff\xff\xff\xff\xff\xff", "\x80\x00\x00\x00\x00\x00\x00\x00",
		"\x01\x00\x00\x00\x00\x00\x00\x00", "\x00\x00\x00\x01\x00\x00\x00\x00", "\x00\x00\x00\x00\xff\xff\xff\xff", "\xff\xff\xff\xfe\xff\xff\xff\xff",
	} {
		noForm(t, head, value)
	}
}

func TestLoadAFreeSlotHasNoValue(t *testing.T) {
	for i := range 8 {
		for x := 1; x < 256; x++ {
			b := []byte("SUN\x01\x01\x32\x01\x00\x00\x00\x01\x00\x00\x00\x01" + free)
			b[len(b)-1-i] = byte(x)
			noForm(t, string(b))
		}
	}
}

func TestLoadKeepsNothingOfWhatIsHandedIn(t *testing.T) {
	whole := two + slot(30, 3) + slot(10, 1) + free + slot(0, 9) + slot(20, 8)
	b := append(make([]byte, 0, 500), whole...)
	room := b[:cap(b)]
	was := bytes.Clone(room)
	d, e := sundial.Load(b)
	if e != api.OK || !bytes.Equal(room, was) {
		t.Fatalf("Load = %d, and makes %q of the bytes", e, room)
	}
	clear(room)
	saved(t, d, whole)
	write(t, d, 39, 25, 2)
	if slices.Max(room) != 0 {
		t.Errorf("an update wrote into the bytes that were loaded: %q", room)
	}
	for i := range whole {
		short := []byte(whole[:i])
		sundial.Load(short)
		if string(short) != whole[:i] {
			t.Errorf("Load with an error makes %q of %q", short, whole[:i])
		}
	}
}

func TestLoadedDatabasesHaveNothingToDoWithOneAnother(t *testing.T) {
	whole := two + slot(30, 3) + slot(10, 1) + free + slot(0, 9) + slot(20, 8)
	first, second := loaded(t, whole), loaded(t, whole)
	third := loaded(t, string(first.Save()))
	write(t, first, 39, 25, 2, 35, 7)
	saved(t, second, whole)
	saved(t, third, whole)
}

// TestLoadWhatIsSaved is P13.
func TestLoadWhatIsSaved(t *testing.T) {
	d := create(t, conf(api.Average, 50, 10, 6, 60, 5))
	for now := 0; now < 1200; now += 7 {
		o := loaded(t, string(d.Save()))
		if o.Config() != d.Config() {
			t.Fatalf("at %d: Config() = %v, want %v", now, o.Config(), d.Config())
		}
		differ(t, d, o)
		write(t, d, now, now, now*31%100-50, now-now/3%300, now*17%100-50)
		write(t, o, now, now, now*31%100-50, now-now/3%300, now*17%100-50)
		saved(t, o, string(d.Save()))
		differ(t, d, o)
		s, _ := d.Fetch(now, 0, now)
		got, e := o.Fetch(now, 0, now)
		if e != api.OK || got.Archive != s.Archive || !slices.Equal(got.Points, s.Points) {
			t.Fatalf("at %d: Fetch = %v, %d, want %v", now, got, e, s)
		}
	}
}
