package method

import (
	"math"
	"slices"
	"testing"

	"sundial/api"
)

type stranger struct{}

func (stranger) Of(values ...int) int { return 0 }

func TestNumberTellsTheMethodThatByNumberGave(t *testing.T) {
	for number := api.Average; number <= api.Widest; number++ {
		m, known := ByNumber(number)
		if !known || m == nil || Number(m) != number {
			t.Errorf("ByNumber(%d) = %v, %v, of which Number is %d", number, m, known, Number(m))
		}
	}
}

func TestByNumberKnowsNoOthers(t *testing.T) {
	for _, number := range []int{math.MinInt, -1, 0, 7, 255, 257, 1<<32 + 1, math.MaxInt} {
		if m, known := ByNumber(number); known || m != nil {
			t.Errorf("ByNumber(%d) = %v, %v, want nil, false", number, m, known)
		}
	}
}

func TestNumberOfNoMethod(t *testing.T) {
	if n := Number(nil); n != 0 {
		t.Errorf("Number(nil) = %d, want 0", n)
	}
	if n := Number(stranger{}); n != 0 {
		t.Errorf("Number of a stranger = %d, want 0", n)
	}
}

func TestOf(t *testing.T) {
	const most = api.MaxValue
	for _, k := range []struct {
		number int
		values []int
		want   int
	}{
		{api.Average, []int{2, 9, 7}, 6},
		{api.Average, []int{2, 9, 8}, 6},
		{api.Average, []int{-1, 0}, -1},
		{api.Average, []int{-3, -3}, -3},
		{api.Average, []int{-2, -2, -1}, -2},
		{api.Average, []int{5}, 5},
		{api.Average, slices.Repeat([]int{most}, api.MaxSlots), most},
		{api.Average, slices.Repeat([]int{-most}, api.MaxSlots), -most},
		{api.Sum, []int{2, 9, 7}, 18},
		{api.Sum, []int{-2, 9, -7}, 0},
		{api.Sum, []int{most - 1, 1}, most},
		{api.Sum, []int{most, 1}, most},
		{api.Sum, []int{1 - most, -1}, -most},
		{api.Sum, []int{-most, -1}, -most},
		{api.Sum, []int{most, most, -most}, most},
		{api.Sum, []int{most, most, -most, -most}, 0},
		{api.Last, []int{2, 9, 7}, 7},
		{api.Last, []int{-4}, -4},
		{api.Max, []int{2, 9, 7}, 9},
		{api.Max, []int{-2, -9, -7}, -2},
		{api.Min, []int{9, 2, 7}, 2},
		{api.Min, []int{-2, -9, -7}, -9},
		{api.Widest, []int{2, -9, 7}, -9},
		{api.Widest, []int{2, 9, -7}, 9},
		{api.Widest, []int{-9, 9}, 9},
		{api.Widest, []int{9, -9}, 9},
		{api.Widest, []int{0, -1, 0}, -1},
	} {
		m, _ := ByNumber(k.number)
		handed := slices.Clone(k.values)
		if got := m.Of(handed...); got != k.want {
			t.Errorf("method %d of %v = %d, want %d", k.number, k.values, got, k.want)
		}
		if !slices.Equal(handed, k.values) {
			t.Errorf("method %d wrote into its values: %v, they were %v", k.number, handed, k.values)
		}
	}
}

func TestOfNoValues(t *testing.T) {
	for number := api.Average; number <= api.Widest; number++ {
		m, _ := ByNumber(number)
		if got := m.Of(); got != 0 {
			t.Errorf("method %d of no values = %d, want 0", number, got)
		}
	}
}
