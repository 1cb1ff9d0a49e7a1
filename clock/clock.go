// Package clock reckons with times of the clock.
package clock

import "smear/api"

// Parts is how many parts a second has.
const Parts = 1 << 32

// IsTime tells whether t is what the document calls a time of the clock.
func IsTime(t api.Time) bool {
	return t.Sec >= 0 && t.Sec <= api.MaxSec && t.Frac >= 0 && t.Frac < Parts
}

// Sum is two times of the clock together; false, if one of the three is none.
func Sum(a api.Time, b api.Time) (api.Time, bool) {
	// Only times of the clock are added, so that no sum overflows.
	if !IsTime(a) || !IsTime(b) {
		return api.Time{}, false
	}
	sum := api.Time{Sec: a.Sec + b.Sec, Frac: a.Frac + b.Frac}
	if sum.Frac >= Parts {
		sum.Sec++
		sum.Frac -= Parts
	}
	if !IsTime(sum) {
		return api.Time{}, false
	}
	return sum, true
}

// Earlier tells whether a is ahead of b.
func Earlier(a api.Time, b api.Time) bool {
	if a.Sec != b.Sec {
		return a.Sec < b.Sec
	}
	return a.Frac < b.Frac
}

// Gone is how long ago a time was that is not later than now.
func Gone(now api.Time, then api.Time) api.Time {
	gone := api.Time{Sec: now.Sec - then.Sec, Frac: now.Frac - then.Frac}
	if gone.Frac < 0 {
		gone.Sec--
		gone.Frac += Parts
	}
	return gone
}

// Moved is a time moved on, or back, by at most a second's parts.
func Moved(t api.Time, parts int) api.Time {
	moved := api.Time{Sec: t.Sec, Frac: t.Frac + parts}
	if moved.Frac < 0 {
		moved.Sec--
		moved.Frac += Parts
	} else if moved.Frac >= Parts {
		moved.Sec++
		moved.Frac -= Parts
	}
	return moved
}
