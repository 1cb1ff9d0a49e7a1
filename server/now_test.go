package server_test

import (
	"fmt"
	"testing"

	"smear/api"
	"smear/server"
)

// upAndDown has a second put in at July 1972 and one left out at January 1973.
func upAndDown(t *testing.T) string {
	return text(t, 0, api.Leap{At: at(1972, 1), Offset: 10}, api.Leap{At: at(1972, 7), Offset: 11}, api.Leap{At: at(1973, 1), Offset: 10})
}

func TestSecondsAboutALeap(t *testing.T) {
	july, january := at(1972, 7), at(1973, 1)
	for _, c := range []struct {
		clock, served, indicator int
	}{
		{at(1972, 1) + 10, at(1972, 1), 0},
		{july + 10 - 86401, july - 86401, 0}, {july + 10 - 86400, july - 86400, 1}, {july + 8, july - 2, 1},
		{july + 9, july - 1, 1}, {july + 10, july - 1, 1}, {july + 11, july, 0}, {july + 12, july + 1, 0},
		{january + 11 - 86401, january - 86401, 0}, {january + 11 - 86400, january - 86400, 2}, {january + 8, january - 3, 2},
		{january + 9, january - 2, 2}, {january + 10, january, 0}, {january + 11, january + 1, 0},
		{34000000000, 34000000000 - 10, 0},
	} {
		want := fmt.Sprint(c.served, " 7 ", c.indicator, " 0")
		x := stepping(t, c.clock, 7)
		load(t, x, upAndDown(t), api.OK)
		is(t, fmt.Sprintf("P12: Now at %d", c.clock), now(x), want)
		// The same, by a clock that goes there.
		y := stepping(t, at(1972, 1)+10, 7)
		load(t, y, upAndDown(t), api.OK)
		advance(t, y, c.clock-at(1972, 1)-10, 0)
		is(t, fmt.Sprintf("P12: Now, gone to %d", c.clock), now(y), want)
	}
}

// TestIndicatorOfWhatComes: a file can take the longer day back, or make it a shorter one.
func TestIndicatorOfWhatComes(t *testing.T) {
	x := stepping(t, at(1972, 7)-100, 0)
	first := api.Leap{At: at(1972, 1), Offset: 10}
	for i, c := range []struct {
		leaps []api.Leap
		want  int
	}{
		{[]api.Leap{first, {At: at(1972, 7), Offset: 11}}, 1},
		{[]api.Leap{first}, 0},
		{[]api.Leap{first, {At: at(1972, 7), Offset: 9}}, 2},
		{[]api.Leap{first, {At: at(1972, 8), Offset: 11}}, 0},
	} {
		load(t, x, text(t, i, c.leaps...), api.OK)
		is(t, "P12: Now", now(x), fmt.Sprint(at(1972, 7)-110, " 0 ", c.want, " 0"))
	}
}

// TestFirstEntryMakesNoDayLonger: the day ahead of the first entry is as others are.
func TestFirstEntryMakesNoDayLonger(t *testing.T) {
	for _, offset := range []int{0, 1, 200} {
		x := stepping(t, at(1972, 1)+offset, 0)
		load(t, x, text(t, 0, api.Leap{At: at(1972, 1), Offset: offset}), api.OK)
		is(t, "P12: Now at the first entry's turn", now(x), fmt.Sprint(at(1972, 1), " 0 0 0"))
	}
}

// smearing is a server that smears.
func smearing(t *testing.T, mode int, window int, sec int, frac int) *server.Server {
	t.Helper()
	return made(t, api.Config{Mode: mode, Window: window, Fresh: 1, Start: api.Time{Sec: sec, Frac: frac}})
}

// TestSmearOutsideOfWindows: there UTC is served, with no indicator.
func TestSmearOutsideOfWindows(t *testing.T) {
	for _, mode := range []int{api.Linear, api.Smooth} {
		x := smearing(t, mode, 3600, at(1972, 7)-86400+10, 7)
		load(t, x, upAndDown(t), api.OK)
		is(t, "P12: Now on the longer day", now(x), fmt.Sprint(at(1972, 7)-86400, " 7 0 0"))
		advance(t, x, 86400-1801, 0)
		is(t, "P12: Now, one second ahead of the window", now(x), fmt.Sprint(at(1972, 7)-1801, " 7 0 0"))
		is(t, "P11: Done, one second ahead of the window", len(x.See().Done), 1)
		advance(t, x, 3600+1, 0)
		is(t, "P11: Done behind the window", len(x.See().Done), 2)
		is(t, "P12: Now behind the window", now(x), fmt.Sprint(at(1972, 7)+1799, " 7 0 0"))
	}
}
