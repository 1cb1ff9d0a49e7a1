package server_test

import (
	"fmt"
	"math"
	"testing"

	"smear/api"
	"smear/file"
	"smear/server"
)

// asked has four sources whose word is fresh for a week.
func asked(t *testing.T, mode int, window int, sec int, frac int) *server.Server {
	t.Helper()
	return made(t, api.Config{Mode: mode, Window: window, Sources: 4, Fresh: 604800, Start: api.Time{Sec: sec, Frac: frac}})
}

// shortText is a file that runs out at a second of UTC.
func shortText(t *testing.T, expiry int, leaps ...api.Leap) string {
	t.Helper()
	s, e := file.Print(api.Table{Update: 1, Expiry: expiry, Leaps: leaps})
	if e != api.OK {
		t.Fatalf("no table: %v: %d", leaps, e)
	}
	return s
}

// entry72 is the only entry of most files here: from January 1972 on TAI is 10 seconds ahead.
var entry72 = api.Leap{At: at(1972, 1), Offset: 10}

// runOut is a server whose file ran out long ago.
func runOut(t *testing.T, mode int, window int, sec int, frac int) *server.Server {
	t.Helper()
	x := asked(t, mode, window, sec, frac)
	load(t, x, shortText(t, 2, entry72), api.OK)
	return x
}

func hear(t *testing.T, x *server.Server, source int, leap int) {
	t.Helper()
	is(t, fmt.Sprintf("P14: Hear(%d, %d)", source, leap), x.Hear(source, leap), api.OK)
}

// voted is Coming with one entry that the sources say.
func voted(at int, offset int, begin int) string {
	return fmt.Sprintf("[{%d %d {%d 0} true}]", at, offset, begin)
}

func coming(t *testing.T, what string, x *server.Server, want string) {
	t.Helper()
	is(t, "P14: Coming "+what, x.See().Coming, want)
}

func TestHearAtWrongNumbers(t *testing.T) {
	for sources := range 9 {
		x := made(t, api.Config{Sources: sources, Fresh: 1, Start: api.Time{Sec: at(1972, 2)}})
		load(t, x, shortText(t, 2, entry72), api.OK)
		before, servedBefore := x.See(), now(x)
		for _, source := range []int{-1, sources, sources + 1, 9, 1 << 32, math.MaxInt, math.MinInt} {
			for _, leap := range []int{0, 1, 2, 3, 4, -1, math.MaxInt, math.MinInt} {
				is(t, fmt.Sprintf("P14: %d sources, Hear(%d, %d)", sources, source, leap), x.Hear(source, leap), api.ErrSource)
			}
		}
		for source := range sources {
			for _, leap := range []int{-1, 4, 5, 1<<32 + 1, math.MaxInt, math.MinInt} {
				is(t, fmt.Sprintf("P14: Hear(%d, %d)", source, leap), x.Hear(source, leap), api.ErrPacket)
			}
		}
		is(t, "P2: See behind calls that were refused", x.See(), before)
		is(t, "P2: Now behind calls that were refused", now(x), servedBefore)
		for source := range sources {
			hear(t, x, source, 1)
		}
		is(t, "P14: how many are to come", len(x.See().Coming), min(sources, 1))
	}
}

// TestRefusedWordsCountNothing: a call that is refused neither speaks nor takes back.
func TestRefusedWordsCountNothing(t *testing.T) {
	x := runOut(t, api.Step, 0, at(1972, 2), 0)
	hear(t, x, 0, 1)
	want := voted(at(1972, 2), 11, at(1972, 2)+10)
	coming(t, "as one source says", x, want)
	advance(t, x, 5, 0)
	is(t, "P14: Hear(0, 4)", x.Hear(0, 4), api.ErrPacket)
	is(t, "P14: Hear(4, 0)", x.Hear(4, 0), api.ErrSource)
	coming(t, "behind calls that were refused", x, want)
	// Its age is that of what it said, not of the call that was refused.
	advance(t, x, 604795, 1)
	is(t, "P14: Done", len(x.See().Done), 2)
	coming(t, "when it is fresh no more", x, "[]")
}

// TestMonths has each month of years of both kinds, at its first second, and a second ahead of its end.
func TestMonths(t *testing.T) {
	for _, year := range []int{1999, 2000, 2004, 2100, 2400, 2900} {
		for month := 1; month <= 12; month++ {
			for _, utc := range []int{at(year, month), at(year, month) + 1, at(year, month+1) - 2} {
				x := runOut(t, api.Step, 0, utc+10, 0)
				hear(t, x, 0, 1)
				coming(t, "with a second more", x, voted(at(year, month+1), 11, at(year, month+1)+10))
				hear(t, x, 0, 2)
				coming(t, "with a second less", x, voted(at(year, month+1), 9, at(year, month+1)+9))
				hear(t, x, 0, 0)
				coming(t, "with neither", x, "[]")
			}
		}
	}
}

// TestLastSeconds goes over the month's end: till when can a leap be said, and for which month.
func TestLastSeconds(t *testing.T) {
	july, august := at(1972, 7), at(1972, 8)
	for _, c := range []struct {
		sec, frac, leap int
		want            string
	}{
		{july + 9, 0, 1, voted(july, 11, july+10)}, {july + 9, lastPart, 1, voted(july, 11, july+10)}, {july + 10, 0, 1, voted(august, 11, august+10)},
		{july + 8, 0, 2, voted(july, 9, july+9)}, {july + 8, lastPart, 2, voted(july, 9, july+9)}, {july + 9, 0, 2, "[]"},
		{july + 9, lastPart, 2, "[]"}, {july + 10, 0, 2, voted(august, 9, august+9)},
	} {
		x := runOut(t, api.Step, 0, c.sec, c.frac)
		hear(t, x, 0, c.leap)
		coming(t, fmt.Sprintf("%d seconds from the month's end, as %d is said", c.sec-july, c.leap), x, c.want)
	}
}

// TestOverTheTurn: in the second that is put in the month is not over, and none is put in again.
func TestOverTheTurn(t *testing.T) {
	july, august := at(1972, 7), at(1972, 8)
	x := runOut(t, api.Step, 0, july+9, 0)
	hear(t, x, 0, 1)
	is(t, "P12: Now ahead of the leap", now(x), fmt.Sprint(july-1, " 0 1 0"))
	advance(t, x, 1, 0)
	is(t, "P14: Done", x.See().Done, fmt.Sprintf("[{%d 10} {%d 11}]", at(1972, 1), july))
	coming(t, "in the second that is put in", x, "[]")
	is(t, "P12: Now in it", now(x), fmt.Sprint(july-1, " 0 1 0"))
	hear(t, x, 1, 1)
	hear(t, x, 1, 2)
	hear(t, x, 0, 2)
	coming(t, "in it, as others speak", x, "[]")
	hear(t, x, 0, 1)
	hear(t, x, 1, 1)
	advance(t, x, 1, 0)
	coming(t, "in the next month, as all is fresh", x, voted(august, 12, august+11))
	is(t, "P12: Now in the next month", now(x), fmt.Sprint(july, " 0 0 0"))

	y := runOut(t, api.Step, 0, july+8, 0)
	hear(t, y, 0, 2)
	is(t, "P12: Now ahead of the second that is left out", now(y), fmt.Sprint(july-2, " 0 2 0"))
	advance(t, y, 1, 0)
	coming(t, "in the next month, as all is fresh", y, voted(august, 8, august+8))
	is(t, "P12: Now behind the second that is left out", now(y), fmt.Sprint(july, " 0 0 0"))
}

// TestIndicatorOfVotes: the month's last day is longer, or shorter, as long as the sources say so.
func TestIndicatorOfVotes(t *testing.T) {
	july := at(1972, 7)
	x := runOut(t, api.Step, 0, july-86400+9, lastPart)
	hear(t, x, 0, 1)
	is(t, "P12: Now on the day before", now(x), fmt.Sprint(july-86401, " ", lastPart, " 0 0"))
	advance(t, x, 0, 1)
	for _, c := range [][2]int{{1, 1}, {0, 0}, {2, 2}, {3, 0}, {1, 1}} {
		hear(t, x, 0, c[0])
		is(t, fmt.Sprintf("P12: Now on the last day, as %d is said", c[0]), now(x), fmt.Sprint(july-86400, " 0 ", c[1], " 0"))
	}
}

// TestFileHolds has the second at which the file runs out: it is one of UTC, whatever the parts.
func TestFileHolds(t *testing.T) {
	expiry := at(1972, 6) + 777
	x := asked(t, api.Step, 0, expiry+8, lastPart)
	load(t, x, shortText(t, expiry, entry72), api.OK)
	hear(t, x, 0, 1)
	coming(t, "as the file holds", x, "[]")
	advance(t, x, 1, 0)
	coming(t, "a part ahead of the file's end", x, "[]")
	hear(t, x, 1, 1)
	coming(t, "a part ahead of the file's end", x, "[]")
	advance(t, x, 0, 1)
	coming(t, "at the file's end", x, voted(at(1972, 7), 11, at(1972, 7)+10))
	load(t, x, shortText(t, expiry+1, entry72), api.OK)
	coming(t, "with a file that holds longer", x, "[]")
	load(t, x, shortText(t, expiry, entry72), api.OK)
	coming(t, "with a file that has run out", x, voted(at(1972, 7), 11, at(1972, 7)+10))
	load(t, x, shortText(t, 2, entry72), api.OK)
	coming(t, "with a file that ran out long ago", x, voted(at(1972, 7), 11, at(1972, 7)+10))
}

// TestFileEntriesGoFirst: as long as the file has an entry to come, sources are not asked, though it has run out.
func TestFileEntriesGoFirst(t *testing.T) {
	july, august := at(1972, 7), at(1972, 8)
	x := asked(t, api.Step, 0, july-1000, 0)
	load(t, x, shortText(t, 2, entry72, api.Leap{At: july, Offset: 11}), api.OK)
	of := fmt.Sprintf("[{%d 11 {%d 0} false}]", july, july+10)
	hear(t, x, 0, 2)
	coming(t, "of the file", x, of)
	goTo(t, x, july+9, lastPart)
	coming(t, "a part ahead of its beginning", x, of)
	advance(t, x, 0, 1)
	coming(t, "in the second that is put in", x, "[]")
	advance(t, x, 1, 0)
	coming(t, "behind the file's last entry", x, voted(august, 10, august+10))
	// The same in one step: what begins lets the sources be asked at once.
	y := asked(t, api.Step, 0, july-1000, 0)
	load(t, y, shortText(t, 2, entry72, api.Leap{At: july, Offset: 11}), api.OK)
	hear(t, y, 0, 2)
	goTo(t, y, july+11, 0)
	is(t, "P14: See, gone there in one step", y.See(), x.See())
}

// TestFileTakesOver: a file with an entry to come, the same or another, is in the place of what the sources said.
func TestFileTakesOver(t *testing.T) {
	july, august := at(1972, 7), at(1972, 8)
	x := runOut(t, api.Step, 0, at(1972, 6)+10, 0)
	hear(t, x, 0, 1)
	coming(t, "as one source says", x, voted(july, 11, july+10))
	load(t, x, shortText(t, 2, entry72, api.Leap{At: august, Offset: 9}), api.OK)
	coming(t, "of a file", x, fmt.Sprintf("[{%d 9 {%d 0} false}]", august, august+9))
	load(t, x, shortText(t, 2, entry72, api.Leap{At: july, Offset: 11}), api.OK)
	coming(t, "of a file that says the same", x, fmt.Sprintf("[{%d 11 {%d 0} false}]", july, july+10))
	hear(t, x, 0, 0)
	coming(t, "of that file, as the source takes it back", x, fmt.Sprintf("[{%d 11 {%d 0} false}]", july, july+10))
	hear(t, x, 0, 2)
	refused(t, x, "x", api.ErrText, 0)
	load(t, x, shortText(t, 2, entry72), api.OK)
	coming(t, "behind a file without it", x, voted(july, 9, july+9))
	refused(t, x, "x", api.ErrText, 0)
}

// TestSaidAheadOfATable: it counts from when it was said, and turns nothing till there is a table.
func TestSaidAheadOfATable(t *testing.T) {
	x := asked(t, api.Step, 0, at(1972, 6)+10, 5)
	hear(t, x, 0, 1)
	is(t, "P14: See without a table", x.See(), api.State{Now: api.Time{Sec: at(1972, 6) + 10, Frac: 5}})
	advance(t, x, 604800, 0)
	is(t, "P12: Now without a table", now(x), "0 0 3 8")
	load(t, x, shortText(t, 2, entry72), api.OK)
	coming(t, "at the last part at which it is fresh", x, voted(at(1972, 7), 11, at(1972, 7)+10))
	advance(t, x, 0, 1)
	coming(t, "a part later", x, "[]")

	y := asked(t, api.Step, 0, at(1972, 6)+10, 5)
	hear(t, y, 0, 1)
	advance(t, y, 604800, 1)
	load(t, y, shortText(t, 2, entry72), api.OK)
	coming(t, "as it is fresh no more", y, "[]")
}

// TestOldWordsLetOthersWin: a word that is fresh no more turns a half into more than half.
func TestOldWordsLetOthersWin(t *testing.T) {
	x := made(t, api.Config{Sources: 8, Fresh: 100, Start: api.Time{Sec: at(1972, 6) + 10}})
	load(t, x, shortText(t, 2, entry72), api.OK)
	for source, leap := range []int{0, 2, 3, 0} {
		hear(t, x, source, leap)
	}
	advance(t, x, 50, 0)
	for source, leap := range []int{1, 1, 1} {
		hear(t, x, 5+source, leap)
	}
	coming(t, "as three of six say so", x, "[]")
	advance(t, x, 50, 0)
	coming(t, "as all of it is fresh", x, "[]")
	advance(t, x, 0, 1)
	coming(t, "as the first are fresh no more", x, voted(at(1972, 7), 11, at(1972, 7)+10))
	hear(t, x, 0, 2)
	hear(t, x, 1, 2)
	hear(t, x, 2, 0)
	coming(t, "as three of six say so", x, "[]")
	advance(t, x, 50, 0)
	coming(t, "as two of three say another thing", x, voted(at(1972, 7), 9, at(1972, 7)+9))
}

// TestEdgesOfVotedOffsets: no entry is to come that could not stand in a table.
func TestEdgesOfVotedOffsets(t *testing.T) {
	june, july := at(1972, 6), at(1972, 7)
	for _, c := range []struct {
		offset, leap int
		want         string
	}{
		{0, 2, "[]"}, {0, 1, voted(july, 1, july)}, {1, 2, voted(july, 0, july)}, {200, 1, "[]"},
		{200, 2, voted(july, 199, july+199)}, {199, 1, voted(july, 200, july+199)},
	} {
		x := asked(t, api.Step, 0, june+c.offset, 0)
		load(t, x, shortText(t, 2, api.Leap{At: at(1972, 1), Offset: c.offset}), api.OK)
		hear(t, x, 0, c.leap)
		coming(t, fmt.Sprintf("behind the Offset %d, as %d is said", c.offset, c.leap), x, c.want)
	}
}

// TestFullTable: 40 entries may have begun, and no more.
func TestFullTable(t *testing.T) {
	var leaps []api.Leap
	for i := range 39 {
		leaps = append(leaps, api.Leap{At: at(1972, 1+i), Offset: 10 + i})
	}
	x := asked(t, api.Step, 0, at(1975, 6)+100, 0)
	load(t, x, shortText(t, 2, leaps...), api.OK)
	hear(t, x, 0, 1)
	coming(t, "behind 39 entries", x, voted(at(1975, 7), 49, at(1975, 7)+48))
	goTo(t, x, at(1975, 7)+100, 0)
	is(t, "P14: Done", len(x.See().Done), 40)
	for _, leap := range []int{1, 2} {
		hear(t, x, 0, leap)
		coming(t, "behind 40 entries", x, "[]")
	}
	advance(t, x, 86400*60, 0)
	hear(t, x, 0, 1)
	coming(t, "behind 40 entries, two months later", x, "[]")
	is(t, "P12: Now", now(x), fmt.Sprint(at(1975, 7)+100+86400*60-49, " 0 0 0"))
}

// TestVotedWindow: windows of what sources say begin, as those of files, half a Window ahead of the turn; till then it can be taken back.
func TestVotedWindow(t *testing.T) {
	for _, mode := range []int{api.Linear, api.Smooth} {
		for _, by := range []int{1, -1} {
			leap, turn := map[int]int{1: 1, -1: 2}[by], at(1972, 7)+10+min(by, 0)
			x := runOut(t, mode, 7200, turn-3700, 0)
			hear(t, x, 0, leap)
			coming(t, "ahead of its window", x, voted(at(1972, 7), 10+by, turn-3600))
			goTo(t, x, turn-3601, lastPart)
			hear(t, x, 0, 0)
			coming(t, "taken back a part ahead of its window", x, "[]")
			hear(t, x, 0, leap)
			advance(t, x, 0, 1)
			is(t, "P14: Done at the window's beginning", x.See().Done, []api.Leap{entry72, {At: at(1972, 7), Offset: 10 + by}})
			is(t, "P13: Now there", now(x), served(turn-3610, 0))
			for source := range 4 {
				hear(t, x, source, 3-leap)
				coming(t, "in the window", x, "[]")
			}
			refused(t, x, shortText(t, 2, entry72), api.ErrAgree, 0)
			load(t, x, shortText(t, 2, entry72, api.Leap{At: at(1972, 7), Offset: 10 + by}), api.OK)
			goTo(t, x, turn, 0)
			is(t, "P13: Now in its middle", now(x), served(turn-10, -by*1<<31))
			goTo(t, x, turn+3600, 0)
			is(t, "P12: Now at its end", now(x), served(turn+3600-10-by, 0))
		}
	}
}

// TestVotedLate: a window that sources open late begins at that clock, and is as long.
func TestVotedLate(t *testing.T) {
	turn := at(1972, 7) + 10
	for _, mode := range []int{api.Linear, api.Smooth} {
		for _, c := range []look{{turn - 1, lastPart, 0, 0}, {turn - 1, 0, 0, 0}, {turn - 1800, 7, 0, 0}, {turn - 3600, 1, 0, 0}, {turn - 3600, 0, 0, 0}} {
			x := runOut(t, mode, 7200, c.sec, c.frac)
			hear(t, x, 0, 1)
			is(t, "P14: Done", x.See().Done, []api.Leap{entry72, {At: at(1972, 7), Offset: 11}})
			coming(t, "as it began at once", x, "[]")
			is(t, "P13: Now at its beginning", now(x), served(c.sec-10, c.frac))
			advance(t, x, 3600, 0)
			is(t, "P13: Now in its middle", now(x), served(c.sec+3600-10, c.frac-1<<31))
			advance(t, x, 3599, lastPart)
			is(t, "P13: Now a part ahead of its end", now(x), served(c.sec+7200-11, c.frac-1))
			advance(t, x, 0, 1)
			is(t, "P12: Now at its end", now(x), served(c.sec+7200-11, c.frac))
		}
	}
}

// TestTurnedRoundAtOnce: a second less turns a second earlier than one more, so its window may have to begin at once.
func TestTurnedRoundAtOnce(t *testing.T) {
	turn := at(1972, 7) + 10
	for _, mode := range []int{api.Linear, api.Smooth} {
		x := runOut(t, mode, 7200, turn-3601, 8)
		hear(t, x, 0, 1)
		coming(t, "with a second more", x, voted(at(1972, 7), 11, turn-3600))
		hear(t, x, 0, 2)
		is(t, "P14: Done", x.See().Done, []api.Leap{entry72, {At: at(1972, 7), Offset: 9}})
		advance(t, x, 3600, 0)
		is(t, "P13: Now in its middle", now(x), served(turn-11, 1<<31+8))
	}
}

// TestOpensWhenTheFileRunsOut: the file's end comes when the window should be open already.
func TestOpensWhenTheFileRunsOut(t *testing.T) {
	july := at(1972, 7)
	for _, mode := range []int{api.Linear, api.Smooth} {
		x := asked(t, mode, 7200, july-86400, 0)
		load(t, x, shortText(t, july-1800, entry72), api.OK)
		hear(t, x, 0, 1)
		goTo(t, x, july-1800+9, lastPart)
		is(t, "P14: Done as the file holds", len(x.See().Done), 1)
		advance(t, x, 0, 1)
		is(t, "P14: Done as it has run out", len(x.See().Done), 2)
		is(t, "P13: Now", now(x), served(july-1800, 0))
		advance(t, x, 3600, 0)
		is(t, "P13: Now in the window's middle", now(x), served(july+1800, -1<<31))
	}
}

// TestJumpOverAVotedWindow: what is to come begins, though nothing that was said is fresh any more; its window was when it was due.
func TestJumpOverAVotedWindow(t *testing.T) {
	turn := at(1972, 7) + 10
	for _, mode := range []int{api.Step, api.Linear, api.Smooth} {
		window := map[int]int{api.Step: 0, api.Linear: 7200, api.Smooth: 7200}[mode]
		x := runOut(t, mode, window, turn-86400, 0)
		hear(t, x, 0, 1)
		goTo(t, x, at(1973, 3), 0)
		is(t, "P14: Done", x.See().Done, []api.Leap{entry72, {At: at(1972, 7), Offset: 11}})
		coming(t, "as nothing is fresh", x, "[]")
		is(t, "P12: Now", now(x), served(at(1973, 3)-11, 0))

		y := runOut(t, mode, window, turn-86400, 0)
		hear(t, y, 0, 1)
		goTo(t, y, turn+86400, 0)
		coming(t, "for the next month, as it is fresh", y, voted(at(1972, 8), 12, at(1972, 8)+11-window/2))
	}
	x := runOut(t, api.Linear, 7200, turn-86400, 0)
	hear(t, x, 0, 1)
	goTo(t, x, turn, 0)
	is(t, "P13: Now, gone into the window in one step", now(x), served(turn-10, -1<<31))
}

// TestMonthByMonth: sources that stay with it have a second put in at each month's end, and each is smeared.
func TestMonthByMonth(t *testing.T) {
	x := runOut(t, api.Linear, 604800, at(1972, 1)+86400*10, 0)
	for i := range 15 {
		begins := at(1972, 2+i)
		turn := begins + 10 + i
		goTo(t, x, turn-302400-5, 0)
		hear(t, x, 0, 1)
		coming(t, "ahead of its window", x, voted(begins, 11+i, turn-302400))
		goTo(t, x, turn, 0)
		is(t, "P13: Now in its middle", now(x), served(turn-10-i, -1<<31))
		hear(t, x, 0, 3)
		goTo(t, x, turn+302400, 0)
		is(t, "P12: Now at its end", now(x), served(turn+302400-11-i, 0))
		coming(t, "at its end", x, "[]")
	}
	is(t, "P14: Done", len(x.See().Done), 16)
}

// TestVotesAtTheClocksEnd: the month of the clock's last second ends behind it. Such an entry is to come, and never begins.
func TestVotesAtTheClocksEnd(t *testing.T) {
	july := at(2977, 7)
	for _, mode := range []int{api.Step, api.Linear} {
		window := map[int]int{api.Step: 0, api.Linear: 604800}[mode]
		x := runOut(t, mode, window, 34000000000, lastPart)
		hear(t, x, 3, 1)
		coming(t, "at the clock's end", x, voted(july, 11, july+10-window/2))
		is(t, "P10: Advance at the clock's end", x.Advance(api.Time{Frac: 1}), api.ErrTime)
		coming(t, "behind a call that was refused", x, voted(july, 11, july+10-window/2))
		is(t, "P12: Now", now(x), served(34000000000-10, lastPart))
	}
}

// TestVotesAtTheClocksBeginning has the calendar's first month.
func TestVotesAtTheClocksBeginning(t *testing.T) {
	x := asked(t, api.Linear, 604800, 0, 0)
	load(t, x, shortText(t, 2, api.Leap{}), api.OK)
	hear(t, x, 0, 1)
	advance(t, x, 1, lastPart)
	coming(t, "as the file holds", x, "[]")
	advance(t, x, 0, 1)
	coming(t, "as it has run out", x, voted(at(1900, 2), 1, at(1900, 2)-302400))
	hear(t, x, 0, 2)
	coming(t, "with an Offset below 0", x, "[]")
}
