package clock_test

import (
	"math"
	"math/big"
	"testing"

	"smear/api"
	"smear/clock"
)

// Seconds and parts at the edges of the clock, and of what an int can hold.
var (
	seconds = []int{math.MinInt, -1 << 62, -1, 0, 1, 17000000000, api.MaxSec - 1, api.MaxSec, api.MaxSec + 1, 1 << 62, math.MaxInt}
	parts   = []int{math.MinInt, -1 << 32, -1, 0, 1, 1 << 31, 1<<32 - 1, 1 << 32, 1<<32 + 1, 1 << 62, math.MaxInt}
)

func times() []api.Time {
	var all []api.Time
	for _, sec := range seconds {
		for _, frac := range parts {
			all = append(all, api.Time{Sec: sec, Frac: frac})
		}
	}
	return all
}

// inParts is a time in parts of a second.
func inParts(t api.Time) *big.Int {
	n := new(big.Int).Lsh(big.NewInt(int64(t.Sec)), 32)
	return n.Add(n, big.NewInt(int64(t.Frac)))
}

// end is the first time behind the clock's last one, in parts.
func end() *big.Int { return new(big.Int).Lsh(big.NewInt(34000000001), 32) }

func isTime(t api.Time) bool {
	return t.Frac >= 0 && t.Frac>>32 == 0 && inParts(t).Sign() >= 0 && inParts(t).Cmp(end()) < 0
}

func TestIsTime(t *testing.T) {
	for _, c := range []struct {
		sec, frac int
		want      bool
	}{
		{0, 0, true}, {34000000000, 4294967295, true}, {0, 4294967295, true}, {34000000000, 0, true},
		{-1, 0, false}, {0, -1, false}, {34000000001, 0, false}, {0, 4294967296, false}, {1, -1, false},
	} {
		if got := clock.IsTime(api.Time{Sec: c.sec, Frac: c.frac}); got != c.want {
			t.Errorf("A time: %d and %d parts = %t", c.sec, c.frac, got)
		}
	}
	for _, u := range times() {
		if got := clock.IsTime(u); got != isTime(u) {
			t.Errorf("A time: %v = %t", u, got)
		}
	}
}

func TestSum(t *testing.T) {
	for _, a := range times() {
		for _, b := range times() {
			got, ok := clock.Sum(a, b)
			want := new(big.Int).Add(inParts(a), inParts(b))
			if !isTime(a) || !isTime(b) || want.Cmp(end()) >= 0 {
				if ok || got != (api.Time{}) {
					t.Fatalf("P10: %v and %v together = %v, %t", a, b, got, ok)
				}
				continue
			}
			if !ok || !isTime(got) || inParts(got).Cmp(want) != 0 {
				t.Fatalf("P10: %v and %v together = %v, %t, want %d parts", a, b, got, ok, want)
			}
		}
	}
}

func TestEarlier(t *testing.T) {
	for _, a := range times() {
		for _, b := range times() {
			if !isTime(a) || !isTime(b) {
				continue
			}
			if got := clock.Earlier(a, b); got != (inParts(a).Cmp(inParts(b)) < 0) {
				t.Fatalf("A time: %v is ahead of %v = %t", a, b, got)
			}
		}
	}
}

func TestGone(t *testing.T) {
	for _, now := range times() {
		for _, then := range times() {
			if !isTime(now) || !isTime(then) || clock.Earlier(now, then) {
				continue
			}
			got := clock.Gone(now, then)
			if want := new(big.Int).Sub(inParts(now), inParts(then)); !isTime(got) || inParts(got).Cmp(want) != 0 {
				t.Fatalf("P13: from %v to %v = %v, want %d parts", then, now, got, want)
			}
		}
	}
}

func TestMoved(t *testing.T) {
	for _, u := range []api.Time{{Sec: 5}, {Sec: 5, Frac: 1}, {Sec: 5, Frac: 1 << 31}, {Sec: 5, Frac: 1<<32 - 1}, {Sec: api.MaxSec}} {
		for _, by := range []int{0, 1, -1, 1 << 31, -1 << 31, 1<<32 - 1, 1 - 1<<32, 1 << 32, -1 << 32} {
			got := clock.Moved(u, by)
			want := new(big.Int).Add(inParts(u), big.NewInt(int64(by)))
			if got.Frac < 0 || got.Frac >= 1<<32 || inParts(got).Cmp(want) != 0 {
				t.Errorf("P13: %v moved by %d parts = %v, want %d parts", u, by, got, want)
			}
		}
	}
}
