// Package method: what becomes of the values of a stretch (P6).
package method

import "sundial/api"

// Method makes one value of several, which come in the order of their stamps.
// Of no values every method makes 0, so that none has to panic.
type Method interface {
	Of(values ...int) int
}

type average struct{}
type sum struct{}
type last struct{}
type greatest struct{}
type least struct{}
type widest struct{}

// ByNumber answers the method that package api gives this number, and whether there is one.
func ByNumber(number int) (Method, bool) {
	switch number {
	case api.Average:
		return average{}, true
	case api.Sum:
		return sum{}, true
	case api.Last:
		return last{}, true
	case api.Max:
		return greatest{}, true
	case api.Min:
		return least{}, true
	case api.Widest:
		return widest{}, true
	}
	return nil, false
}

// Number answers the number of a method, 0 if it is none of the six.
func Number(m Method) int {
	switch m.(type) {
	case average:
		return api.Average
	case sum:
		return api.Sum
	case last:
		return api.Last
	case greatest:
		return api.Max
	case least:
		return api.Min
	case widest:
		return api.Widest
	}
	return 0
}

func (average) Of(values ...int) int {
	if len(values) == 0 {
		return 0
	}
	return divideDown(total(values), len(values))
}

func (sum) Of(values ...int) int {
	return min(max(total(values), -api.MaxValue), api.MaxValue)
}

func (last) Of(values ...int) int {
	if len(values) == 0 {
		return 0
	}
	return values[len(values)-1]
}

func (greatest) Of(values ...int) int {
	return best(values, func(a, b int) bool { return a > b })
}

func (least) Of(values ...int) int {
	return best(values, func(a, b int) bool { return a < b })
}

func (widest) Of(values ...int) int {
	return best(values, wider)
}

func total(values []int) int {
	t := 0
	for _, v := range values {
		t += v
	}
	return t
}

// divideDown is there because Go's division rounds towards 0, not down. The divisor is above 0.
func divideDown(number, by int) int {
	quotient := number / by
	if number%by < 0 {
		quotient--
	}
	return quotient
}

// best answers the first of the values that no later one beats.
func best(values []int, beats func(a, b int) bool) int {
	if len(values) == 0 {
		return 0
	}
	b := values[0]
	for _, v := range values[1:] {
		if beats(v, b) {
			b = v
		}
	}
	return b
}

func wider(a, b int) bool {
	if distance(a) == distance(b) {
		return a > b
	}
	return distance(a) > distance(b)
}

func distance(value int) int {
	return max(value, -value)
}
