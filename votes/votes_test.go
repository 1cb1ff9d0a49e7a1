package votes_test

import (
	"math"
	"testing"

	"smear/api"
	"smear/votes"
)

// said has source 0 say the first leap, source 1 the second, and so on, at a time.
func said(at api.Time, leaps ...int) votes.Votes {
	var v votes.Votes
	for source, leap := range leaps {
		v.Hear(source, leap, at)
	}
	return v
}

// TestChange has every majority that there can be: each of up to eight sources says each thing.
func TestChange(t *testing.T) {
	for n := 0; n <= 8; n++ {
		for code := range 1 << (2 * n) {
			var leaps []int
			var count [4]int
			for i := range n {
				leap := code >> (2 * i) & 3
				leaps = append(leaps, leap)
				count[leap]++
			}
			want := 0
			if count[1] > count[0]+count[2] {
				want = 1
			} else if count[2] > count[0]+count[1] {
				want = -1
			}
			v := said(api.Time{Sec: 7}, leaps...)
			if got := v.Change(api.Time{Sec: 7}, 1); got != want {
				t.Fatalf("P14: %d sources say %v: %d, want %d", n, leaps, got, want)
			}
		}
	}
}

func TestHalfIsNotMore(t *testing.T) {
	for _, c := range []struct {
		leaps []int
		want  int
	}{
		{nil, 0}, {[]int{1}, 1}, {[]int{2}, -1}, {[]int{0}, 0}, {[]int{3}, 0}, {[]int{1, 0}, 0}, {[]int{1, 2}, 0}, {[]int{2, 0}, 0},
		{[]int{1, 3, 3, 3, 3, 3, 3, 3}, 1}, {[]int{1, 1, 1, 1, 0, 0, 0, 0}, 0}, {[]int{1, 1, 1, 1, 1, 0, 0, 0}, 1},
		{[]int{2, 2, 2, 2, 1, 1, 0, 0}, 0}, {[]int{2, 2, 2, 2, 2, 1, 0, 1}, -1}, {[]int{1, 1, 2, 2, 0}, 0}, {[]int{1, 1, 2, 3}, 1},
	} {
		v := said(api.Time{}, c.leaps...)
		if got := v.Change(api.Time{}, 604800); got != c.want {
			t.Errorf("P14: the sources say %v: %d, want %d", c.leaps, got, c.want)
		}
	}
}

// TestFresh goes to the last part at which what was said is fresh, and one further.
func TestFresh(t *testing.T) {
	for _, c := range []struct {
		at, now api.Time
		fresh   int
		want    int
	}{
		{api.Time{Sec: 50, Frac: 9}, api.Time{Sec: 50, Frac: 9}, 1, 1}, {api.Time{Sec: 50, Frac: 9}, api.Time{Sec: 51, Frac: 8}, 1, 1},
		{api.Time{Sec: 50, Frac: 9}, api.Time{Sec: 51, Frac: 9}, 1, 1}, {api.Time{Sec: 50, Frac: 9}, api.Time{Sec: 51, Frac: 10}, 1, 0},
		{api.Time{Sec: 50, Frac: 9}, api.Time{Sec: 52, Frac: 8}, 1, 0}, {api.Time{Sec: 50, Frac: 9}, api.Time{Sec: 52}, 2, 1},
		{api.Time{}, api.Time{Sec: 604800}, 604800, 1}, {api.Time{}, api.Time{Sec: 604800, Frac: 1}, 604800, 0},
		{api.Time{Frac: 1<<32 - 1}, api.Time{Sec: 604801}, 604800, 0}, {api.Time{Frac: 1<<32 - 1}, api.Time{Sec: 604800, Frac: 1<<32 - 1}, 604800, 1},
		{api.Time{}, api.Time{Sec: api.MaxSec, Frac: 1<<32 - 1}, 604800, 0},
	} {
		v := said(c.at, 1)
		if got := v.Change(c.now, c.fresh); got != c.want {
			t.Errorf("P14: said at %v, fresh for %d, at %v: %d, want %d", c.at, c.fresh, c.now, got, c.want)
		}
	}
}

// TestOldVotesDoNotCount: neither for what they say, nor as a part of the whole.
func TestOldVotesDoNotCount(t *testing.T) {
	v := said(api.Time{Sec: 10}, 0, 0, 2)
	v.Hear(3, 1, api.Time{Sec: 20})
	if got := v.Change(api.Time{Sec: 20}, 10); got != 0 {
		t.Errorf("P14: as long as all is fresh: %d, want 0", got)
	}
	if got := v.Change(api.Time{Sec: 20, Frac: 1}, 10); got != 1 {
		t.Errorf("P14: when the first three are old: %d, want 1", got)
	}
}

// TestLastWordCounts: what a source says takes the place, and the age, of what it said before.
func TestLastWordCounts(t *testing.T) {
	v := said(api.Time{Sec: 10}, 1)
	for i, c := range []struct{ leap, want int }{{2, -1}, {0, 0}, {1, 1}, {3, 0}, {2, -1}, {2, -1}} {
		at := api.Time{Sec: 10 + 5*i}
		v.Hear(0, c.leap, at)
		if got := v.Change(at, 4); got != c.want {
			t.Errorf("P14: behind %d: %d, want %d", c.leap, got, c.want)
		}
	}
}

// TestNobodySpoke: at the clock's first time too.
func TestNobodySpoke(t *testing.T) {
	var v votes.Votes
	for _, now := range []api.Time{{}, {Frac: 1}, {Sec: 1}, {Sec: api.MaxSec}} {
		if got := v.Change(now, 604800); got != 0 {
			t.Errorf("P14: nobody spoke, at %v: %d", now, got)
		}
	}
	v.Hear(0, 1, api.Time{})
	if got := v.Change(api.Time{}, 1); got != 1 {
		t.Errorf("P14: those who said nothing count: %d", got)
	}
}

func TestNoSuchSource(t *testing.T) {
	var v votes.Votes
	for _, source := range []int{-1, 8, 9, 1 << 62, math.MaxInt, math.MinInt} {
		v.Hear(source, 1, api.Time{})
	}
	if v != (votes.Votes{}) {
		t.Errorf("P1: sources that cannot be were heard: %v", v)
	}
}

func TestIsVote(t *testing.T) {
	for _, leap := range []int{0, 1, 2, 3} {
		if !votes.IsVote(leap) {
			t.Errorf("P14: %d cannot be said", leap)
		}
	}
	for _, leap := range []int{-1, 4, 5, 1 << 32, 1<<32 + 1, math.MaxInt, math.MinInt} {
		if votes.IsVote(leap) {
			t.Errorf("P14: %d can be said", leap)
		}
	}
}
