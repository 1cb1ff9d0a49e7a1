package server_test

import (
	"fmt"
	"math/rand"
	"testing"

	"smear/api"
	"smear/server"
)

const lastPart = 4294967295

// oneLeap has a second put in, or left out, at July 1972.
func oneLeap(t *testing.T, update int, by int) string {
	t.Helper()
	return text(t, update, api.Leap{At: at(1972, 1), Offset: 10}, api.Leap{At: at(1972, 7), Offset: 10 + by})
}

// served is what Now tells where a second is served, and parts, which may be below 0 or above a second's.
func served(sec int, parts int) string {
	return fmt.Sprint(sec+parts>>32, " ", parts&lastPart, " 0 0")
}

// goTo moves the clock to a time.
func goTo(t *testing.T, x *server.Server, sec int, frac int) {
	t.Helper()
	u := x.See().Now
	sec, frac = sec-u.Sec, frac-u.Frac
	if frac < 0 {
		sec, frac = sec-1, frac+1<<32
	}
	advance(t, x, sec, frac)
}

type look struct{ sec, frac, servedSec, servedFrac int }

// TestSecondPutIn has the edges of a window, and its turn. Both ways of smearing are the same there.
func TestSecondPutIn(t *testing.T) {
	for _, mode := range []int{api.Linear, api.Smooth} {
		turn := at(1972, 7) + 10
		x := smearing(t, mode, 7200, turn-86400, 0)
		load(t, x, oneLeap(t, 1, 1), api.OK)
		for _, c := range []look{
			{turn - 3601, lastPart, turn - 3611, lastPart}, {turn - 3600, 0, turn - 3610, 0}, {turn - 3600, 1, turn - 3610, 0},
			{turn - 3600, 2, turn - 3610, 1}, {turn - 1, lastPart, turn - 11, 1<<31 - 1}, {turn, 0, turn - 11, 1 << 31},
			{turn, 1, turn - 11, 1 << 31}, {turn + 3599, lastPart - 1, turn + 3588, lastPart - 1},
			{turn + 3599, lastPart, turn + 3588, lastPart}, {turn + 3600, 0, turn + 3589, 0}, {turn + 3600, 1, turn + 3589, 1},
			{turn + 86400, 5, turn + 86389, 5},
		} {
			goTo(t, x, c.sec, c.frac)
			is(t, fmt.Sprintf("P13: mode %d, Now %d seconds behind the turn, and %d parts", mode, c.sec-turn, c.frac), now(x), served(c.servedSec, c.servedFrac))
		}
	}
}

func TestSecondLeftOut(t *testing.T) {
	for _, mode := range []int{api.Linear, api.Smooth} {
		turn := at(1972, 7) + 9
		x := smearing(t, mode, 7200, turn-86400, 0)
		load(t, x, oneLeap(t, 1, -1), api.OK)
		for _, c := range []look{
			{turn - 3601, lastPart, turn - 3611, lastPart}, {turn - 3600, 0, turn - 3610, 0}, {turn - 3600, 1, turn - 3610, 1},
			{turn - 3600, 2, turn - 3610, 2}, {turn - 1, lastPart, turn - 10, 1<<31 - 2}, {turn, 0, turn - 10, 1 << 31},
			{turn, 1, turn - 10, 1<<31 + 1}, {turn + 3599, lastPart - 1, turn + 3590, lastPart - 2},
			{turn + 3599, lastPart, turn + 3590, lastPart - 1}, {turn + 3600, 0, turn + 3591, 0}, {turn + 3600, 1, turn + 3591, 1},
			{turn + 86400, 5, turn + 86391, 5},
		} {
			goTo(t, x, c.sec, c.frac)
			is(t, fmt.Sprintf("P13: mode %d, Now %d seconds behind the turn, and %d parts", mode, c.sec-turn, c.frac), now(x), served(c.servedSec, c.servedFrac))
		}
	}
}

// TestCurves has pulls that were reckoned by hand: quarters, and for the smooth
// curve the first piece's half, the first piece, and a half of the second.
func TestCurves(t *testing.T) {
	for _, by := range []int{1, -1} {
		for _, c := range []struct{ mode, sec, frac, pull int }{
			{api.Linear, 1024, 0, 1 << 30}, {api.Linear, 3072, 0, 3 << 30}, {api.Linear, 4, 0, 1 << 22}, {api.Linear, 0, 1 << 31, 1 << 19},
			{api.Smooth, 1024, 0, 671088640}, {api.Smooth, 3072, 0, 3623878656}, {api.Smooth, 2, 0, 6140}, {api.Smooth, 4, 0, 12280},
			{api.Smooth, 6, 0, 30684}, {api.Smooth, 8, 0, 49088}, {api.Smooth, 4092, 0, 1<<32 - 12280}, {api.Smooth, 4094, 0, 1<<32 - 6140},
		} {
			turn := at(1972, 7) + min(10, 10+by)
			x := smearing(t, c.mode, 4096, turn-86400, 0)
			load(t, x, oneLeap(t, 1, by), api.OK)
			goTo(t, x, turn-2048+c.sec, c.frac)
			is(t, fmt.Sprintf("P13: mode %d, Now %d seconds behind Begin", c.mode, c.sec), now(x), served(turn-2048+c.sec-10, c.frac-by*c.pull))
		}
	}
}

// TestOpenedLate: a file comes when the window should be open. It begins then, and is as long.
func TestOpenedLate(t *testing.T) {
	turn := at(1972, 7) + 10
	for _, mode := range []int{api.Linear, api.Smooth} {
		for _, c := range []look{{turn - 1, lastPart, 0, 0}, {turn - 1, 0, 0, 0}, {turn - 1800, 7, 0, 0}, {turn - 3600, 1, 0, 0}, {turn - 3600, 0, 0, 0}} {
			x := smearing(t, mode, 7200, c.sec, c.frac)
			load(t, x, text(t, 1, api.Leap{At: at(1972, 1), Offset: 10}), api.OK)
			load(t, x, oneLeap(t, 1, 1), api.OK)
			is(t, "P11: Done", len(x.See().Done), 2)
			is(t, "P13: Now at its beginning", now(x), served(c.sec-10, c.frac))
			advance(t, x, 0, 1)
			is(t, "P13: Now a part later", now(x), served(c.sec-10, c.frac))
			advance(t, x, 3599, lastPart)
			is(t, "P13: Now in its middle", now(x), served(c.sec+3600-10, c.frac-1<<31))
			advance(t, x, 3599, lastPart)
			is(t, "P13: Now a part ahead of its end", now(x), served(c.sec+7200-11, c.frac-1))
			advance(t, x, 0, 1)
			is(t, "P12: Now at its end", now(x), served(c.sec+7200-11, c.frac))
			advance(t, x, 10000, 0)
			is(t, "P12: Now behind its end", now(x), served(c.sec+17200-11, c.frac))
		}
	}
}

// TestFirstFileLate: the first file too opens the window of what has not turned yet.
func TestFirstFileLate(t *testing.T) {
	turn := at(1972, 7) + 10
	for _, mode := range []int{api.Linear, api.Smooth} {
		x := smearing(t, mode, 7200, turn-1, 1<<31)
		load(t, x, oneLeap(t, 1, 1), api.OK)
		is(t, "P11: Coming", len(x.See().Coming), 0)
		is(t, "P13: Now", now(x), served(turn-11, 1<<31))
		advance(t, x, 3600, 0)
		is(t, "P13: Now an hour later", now(x), served(turn+3599-10, 0))
		advance(t, x, 3600, 0)
		is(t, "P13: Now two hours later", now(x), served(turn+7199-11, 1<<31))
	}
}

// TestLongAgo: what turned ahead of the first file has no window, be it a part of a second ago.
func TestLongAgo(t *testing.T) {
	turn := at(1972, 7) + 10
	for _, mode := range []int{api.Linear, api.Smooth} {
		for _, sec := range []int{turn, turn + 1, turn + 3599} {
			x := smearing(t, mode, 7200, sec, 1)
			load(t, x, oneLeap(t, 1, 1), api.OK)
			is(t, "P11: Now", now(x), served(sec-11, 1))
			advance(t, x, 1000, 0)
			is(t, "P11: Now, a thousand seconds later", now(x), served(sec+1000-11, 1))
			load(t, x, oneLeap(t, 2, 1), api.OK)
			is(t, "P11: Now, with a later file", now(x), served(sec+1000-11, 1))
		}
	}
}

// TestWindowGoesOn: files that come into an open window turn nothing in it.
func TestWindowGoesOn(t *testing.T) {
	turn := at(1972, 7) + 10
	one, two := api.Leap{At: at(1972, 1), Offset: 10}, api.Leap{At: at(1972, 7), Offset: 11}
	for _, mode := range []int{api.Linear, api.Smooth} {
		x, y := smearing(t, mode, 7200, turn-4000, 0), smearing(t, mode, 7200, turn-4000, 0)
		load(t, x, text(t, 0, one, two), api.OK)
		load(t, y, text(t, 0, one, two), api.OK)
		for i := range 80 {
			advance(t, x, 100, 77)
			advance(t, y, 100, 77)
			before := now(x)
			load(t, x, text(t, i, one, two), api.OK)
			load(t, x, text(t, i, one, two, api.Leap{At: at(1972, 8), Offset: 12}), api.OK)
			is(t, "P13: Now behind a file", now(x), before)
			is(t, "P13: Now of a server without that file", now(y), before)
			if len(x.See().Done) == 2 {
				refused(t, x, text(t, i, one), api.ErrAgree, 0)
				refused(t, x, "x", api.ErrText, 0)
			}
		}
	}
}

// TestTakenBack: what has not begun can be taken back or turned round till a part ahead of its window.
func TestTakenBack(t *testing.T) {
	turn := at(1972, 7) + 10
	for _, mode := range []int{api.Linear, api.Smooth} {
		x := smearing(t, mode, 7200, turn-3601, lastPart)
		load(t, x, oneLeap(t, 1, 1), api.OK)
		load(t, x, text(t, 1, api.Leap{At: at(1972, 1), Offset: 10}), api.OK)
		goTo(t, x, turn, 0)
		is(t, "P11: Now, the leap being taken back", now(x), served(turn-10, 0))

		// Its turn is a second ahead of the other one's, so its window begins at once.
		y := smearing(t, mode, 7200, turn-3601, lastPart)
		load(t, y, oneLeap(t, 1, 1), api.OK)
		load(t, y, oneLeap(t, 1, -1), api.OK)
		is(t, "P11: Done", y.See().Done, fmt.Sprintf("[{%d 10} {%d 9}]", at(1972, 1), at(1972, 7)))
		advance(t, y, 3600, 0)
		is(t, "P13: Now, the leap being turned round", now(y), served(turn-10, 1<<31-1))
	}
}

// TestJumps: the clock goes over windows, and into one, in one step.
func TestJumps(t *testing.T) {
	july, january := at(1972, 7)+10, at(1973, 1)+10
	for _, mode := range []int{api.Linear, api.Smooth} {
		for _, c := range []look{
			{july, 0, july - 11, 1 << 31}, {july + 1800, 0, july + 1789, 0}, {january - 1800, 0, january - 1811, 0},
			{january, 0, january - 11, 1 << 31}, {january + 1799, lastPart, january + 1789, lastPart - 1}, {january + 1800, 0, january + 1790, 0},
			{34000000000, 3, 34000000000 - 10, 3},
		} {
			x := smearing(t, mode, 3600, at(1972, 1)+10, 0)
			load(t, x, upAndDown(t), api.OK)
			goTo(t, x, c.sec, c.frac)
			is(t, fmt.Sprintf("P13: mode %d, Now at %d", mode, c.sec), now(x), served(c.servedSec, c.servedFrac))
		}
	}
}

// TestEdgesOfOffsets has the least and the greatest Offset, and the longest window.
func TestEdgesOfOffsets(t *testing.T) {
	for _, c := range []struct{ from, to int }{{0, 1}, {1, 0}, {199, 200}, {200, 199}} {
		for _, mode := range []int{api.Linear, api.Smooth} {
			turn := at(1900, 2) + min(c.from, c.to)
			x := smearing(t, mode, 604800, 200, 0)
			load(t, x, text(t, 0, api.Leap{At: 0, Offset: c.from}, api.Leap{At: at(1900, 2), Offset: c.to}), api.OK)
			is(t, "P11: Begin", x.See().Coming[0].Begin, fmt.Sprintf("{%d 0}", turn-302400))
			goTo(t, x, turn-302400, 0)
			is(t, "P13: Now at Begin", now(x), served(turn-302400-c.from, 0))
			goTo(t, x, turn, 0)
			is(t, "P13: Now in the middle", now(x), served(turn-max(c.from, c.to), 1<<31))
			goTo(t, x, turn+302399, lastPart)
			lead := max(0, c.to-c.from) - max(0, c.from-c.to)
			is(t, "P13: Now a part ahead of the end", now(x), served(turn+302399-c.from-lead, lastPart-max(0, -lead)))
			goTo(t, x, turn+302400, 0)
			is(t, "P12: Now at the end", now(x), served(turn+302400-c.to, 0))
		}
	}
}

// TestClockEndsInAWindow: the clock's last time lies in June 2977, not long behind a turn.
func TestClockEndsInAWindow(t *testing.T) {
	june := at(2977, 6)
	one, two := api.Leap{At: at(2977, 1), Offset: 10}, api.Leap{At: june, Offset: 11}
	x := smearing(t, api.Linear, 604800, june, 0)
	load(t, x, text(t, 0, one), api.OK)
	load(t, x, text(t, 0, one, two), api.OK)
	goTo(t, x, 34000000000, 0)
	// 44,800 seconds of 604,800 are 2 of 27: 318,145,725.6 parts; and at the last part they are 318,152,827.1.
	is(t, "P13: Now at the clock's last second", now(x), served(34000000000-10, -318145726))
	goTo(t, x, 34000000000, lastPart)
	is(t, "P13: Now at the clock's last part", now(x), served(34000000000-10, lastPart-318152828))
	before := now(x)
	is(t, "P10: Advance at the clock's end", x.Advance(api.Time{Frac: 1}), api.ErrTime)
	is(t, "P13: Now behind it", now(x), before)
}

// TestRates: the time never goes back, and it goes never faster or slower than the document allows.
func TestRates(t *testing.T) {
	r := rand.New(rand.NewSource(4))
	for _, mode := range []int{api.Linear, api.Smooth} {
		for _, by := range []int{1, -1} {
			for _, step := range []int{1, 5000, 1 << 31, 9 << 32} {
				x := smearing(t, mode, 3600, at(1972, 7)+10-1802-r.Intn(2)*1500, r.Intn(1<<32))
				load(t, x, oneLeap(t, 1, by), api.OK)
				before, _, _ := x.Now()
				for range 700 {
					d := 1 + r.Intn(step)
					advance(t, x, d>>32, d&lastPart)
					after, _, _ := x.Now()
					gone := (after.Sec-before.Sec)<<32 + after.Frac - before.Frac
					off := max(gone-d, d-gone) - 1
					if gone < 0 || off*3600*2 > (1+mode)*d {
						t.Fatalf("P13: mode %d: %d parts in %d of the clock", mode, gone, d)
					}
					before = after
				}
			}
		}
	}
}
