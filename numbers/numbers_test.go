package numbers

import (
	"bytes"
	"math"
	"testing"
)

func TestTheHighestByteComesFirst(t *testing.T) {
	for _, k := range []struct {
		number int
		want   string
	}{
		{0, "\x00\x00\x00\x00"},
		{1, "\x00\x00\x00\x01"},
		{0x01020304, "\x01\x02\x03\x04"},
		{86400, "\x00\x01\x51\x80"},
		{1<<32 - 1, "\xff\xff\xff\xff"},
		{0, "\x00\x00\x00\x00\x00\x00\x00\x00"},
		{1000000000, "\x00\x00\x00\x00\x3b\x9a\xca\x00"},
		{-1000000000, "\xff\xff\xff\xff\xc4\x65\x36\x00"},
		{-1, "\xff\xff\xff\xff\xff\xff\xff\xff"},
		{math.MaxInt64, "\x7f\xff\xff\xff\xff\xff\xff\xff"},
		{math.MinInt64, "\x80\x00\x00\x00\x00\x00\x00\x00"},
		{200, "\xc8"},
		{0, ""},
	} {
		b := bytes.Repeat([]byte{0xa5}, len(k.want))
		Write(b, k.number)
		if string(b) != k.want {
			t.Errorf("Write of %d makes %q, want %q", k.number, b, k.want)
		}
		if got := Read([]byte(k.want)); got != k.number {
			t.Errorf("Read(%q) = %d, want %d", k.want, got, k.number)
		}
	}
}

func TestWriteFillsOnlyWhatItIsGiven(t *testing.T) {
	b := []byte("........")
	Write(b[2:4], 0x414243)
	if string(b) != "..BC...." {
		t.Errorf("Write makes %q", b)
	}
}

func TestReadLeavesTheBytes(t *testing.T) {
	b := []byte{1, 2, 3, 4}
	Read(b)
	if !bytes.Equal(b, []byte{1, 2, 3, 4}) {
		t.Errorf("Read makes %v of the bytes", b)
	}
}
