package server_test

import (
	"fmt"
	"strings"
	"testing"

	"smear/api"
	"smear/file"
	"smear/server"
)

// refused hands a file in and looks whether it is counted, and changes nothing else.
func refused(t *testing.T, x *server.Server, s string, want api.Errno, line int) {
	t.Helper()
	before, servedBefore := x.See(), now(x)
	if e, n := x.Load(s); e != want || n != line {
		t.Errorf("P11: Load = %d, %d, want %d, %d", e, n, want, line)
	}
	before.Refused++
	is(t, "P11: See behind a file that was refused", x.See(), before)
	is(t, "P11: Now behind a file that was refused", now(x), servedBefore)
}

// unparsed are files with an error of each kind, and its line.
func unparsed(t *testing.T) []struct {
	s    string
	e    api.Errno
	line int
} {
	good := text(t, 0, api.Leap{At: at(1972, 1), Offset: 10})
	return []struct {
		s    string
		e    api.Errno
		line int
	}{
		{strings.Repeat("\n", 2001), api.ErrLong, 0}, {"", api.ErrMissing, 0}, {"x", api.ErrText, 0}, {"#$ 5\nx", api.ErrText, 1},
		{good + "\n\n#$ 1\n", api.ErrTwice, 6}, {good + "1 1", api.ErrEntry, 4}, {"#$ 1\n#@ 2\n0 0\n", api.ErrMissing, 0},
		{"#$ 2\n#@ 2\n0 0\n#h 0 0 0 0 0", api.ErrTable, 0}, {"#$ 1\n#@ 2\n0 0\n#h 0 0 0 0 0", api.ErrHash, 0},
		{"#$ 99999999999\n#@ 99999999999\n0 0\n#h 0 0 0 0 0", api.ErrTable, 0}, {"99999999999 99999999999", api.ErrEntry, 0},
	}
}

func TestFilesThatCannotBeParsed(t *testing.T) {
	x := stepping(t, at(1972, 1)+10, 0)
	for _, c := range unparsed(t) {
		refused(t, x, c.s, c.e, c.line)
	}
	is(t, "P11: Refused", x.See().Refused, len(unparsed(t)))
	load(t, x, text(t, 7, api.Leap{At: at(1972, 1), Offset: 10}, api.Leap{At: at(1972, 7), Offset: 11}), api.OK)
	for _, c := range unparsed(t) {
		refused(t, x, c.s, c.e, c.line)
	}
	is(t, "P11: Refused", x.See().Refused, 2*len(unparsed(t)))
}

// TestFirstFile has the first turn a second above the clock's second, at it, and below it.
func TestFirstFile(t *testing.T) {
	s := text(t, 0, api.Leap{At: at(1972, 1), Offset: 10}, api.Leap{At: at(1972, 7), Offset: 11})
	refused(t, stepping(t, 0, 0), s, api.ErrAgree, 0)
	refused(t, stepping(t, at(1972, 1)+9, 0), s, api.ErrAgree, 0)
	refused(t, stepping(t, at(1972, 1)+9, 4294967295), s, api.ErrAgree, 0)
	for _, sec := range []int{at(1972, 1) + 10, at(1972, 1) + 11, at(1972, 7) + 9} {
		x := stepping(t, sec, 0)
		load(t, x, s, api.OK)
		is(t, "P11: Done", x.See().Done, fmt.Sprintf("[{%d 10}]", at(1972, 1)))
		is(t, "P11: Coming", x.See().Coming, fmt.Sprintf("[{%d 11 {%d 0} false}]", at(1972, 7), at(1972, 7)+10))
	}
	for _, sec := range []int{at(1972, 7) + 10, at(1972, 7) + 11, 34000000000} {
		x := stepping(t, sec, 0)
		load(t, x, s, api.OK)
		is(t, "P11: Done", x.See().Done, fmt.Sprintf("[{%d 10} {%d 11}]", at(1972, 1), at(1972, 7)))
		is(t, "P11: Coming", len(x.See().Coming), 0)
	}
}

// TestFirstTimes has the least and the greatest Offset at the beginning of the calendar.
func TestFirstTimes(t *testing.T) {
	x := stepping(t, 0, 0)
	refused(t, x, text(t, 0, api.Leap{At: 0, Offset: 1}), api.ErrAgree, 0)
	refused(t, x, text(t, 0, api.Leap{At: at(1900, 2), Offset: 0}), api.ErrAgree, 0)
	load(t, x, text(t, 0, api.Leap{At: 0, Offset: 0}), api.OK)
	refused(t, stepping(t, 199, 0), text(t, 0, api.Leap{At: 0, Offset: 200}), api.ErrAgree, 0)
	load(t, stepping(t, 200, 0), text(t, 0, api.Leap{At: 0, Offset: 200}), api.OK)
	refused(t, stepping(t, 34000000000, 4294967295), text(t, 0, api.Leap{At: at(2999, 12), Offset: 10}), api.ErrAgree, 0)
}

func TestUpdates(t *testing.T) {
	x := stepping(t, at(1972, 2), 0)
	first := api.Leap{At: at(1972, 1), Offset: 10}
	load(t, x, text(t, 100, first), api.OK)
	is(t, "P9: Update", x.See().Update, 100)
	refused(t, x, text(t, 99, first), api.ErrOld, 0)
	refused(t, x, text(t, 0, first), api.ErrOld, 0)
	load(t, x, text(t, 100, first), api.OK)
	load(t, x, text(t, 101, first, api.Leap{At: at(1972, 7), Offset: 11}), api.OK)
	is(t, "P9: Update", x.See().Update, 101)
	refused(t, x, text(t, 100, first), api.ErrOld, 0)
	// A file that is old and does not agree is old: that is named first.
	refused(t, x, text(t, 100, api.Leap{At: at(1972, 1), Offset: 11}), api.ErrOld, 0)
	is(t, "P11: Refused", x.See().Refused, 4)
	is(t, "P9: Coming", len(x.See().Coming), 1)
}

// TestExpiry: the last file's Expiry is told, be it less than that of the file before.
func TestExpiry(t *testing.T) {
	x := stepping(t, at(1972, 2), 0)
	for _, expiry := range []int{34000000000, 10, 500, 2} {
		s, _ := file.Print(api.Table{Update: 1, Expiry: expiry, Leaps: []api.Leap{{At: at(1972, 1), Offset: 10}}})
		load(t, x, s, api.OK)
		is(t, "P9: Expiry", x.See().Expiry, expiry)
	}
}

func TestWhatHasBegunStays(t *testing.T) {
	x := stepping(t, at(1972, 7)+10, 0)
	one, two := api.Leap{At: at(1972, 1), Offset: 10}, api.Leap{At: at(1972, 7), Offset: 11}
	load(t, x, text(t, 1, one, two), api.OK)
	for _, leaps := range [][]api.Leap{
		{one}, {two}, {{At: at(1972, 1), Offset: 11}, {At: at(1972, 7), Offset: 12}}, {one, {At: at(1972, 7), Offset: 9}},
		{{At: at(1971, 12), Offset: 10}, two}, {{At: at(1972, 1), Offset: 12}, two}, {one, {At: at(1972, 8), Offset: 11}},
		{one, {At: at(1972, 6), Offset: 11}}, {{At: at(1971, 1), Offset: 9}, one, two},
		{one, {At: at(1973, 1), Offset: 11}}, {{At: at(1973, 1), Offset: 11}},
	} {
		refused(t, x, text(t, 2, leaps...), api.ErrAgree, 0)
	}
	load(t, x, text(t, 2, one, two, api.Leap{At: at(1972, 8), Offset: 12}), api.OK)
	is(t, "P11: Done", x.See().Done, []api.Leap{one, two})
}

// TestTurnsOfALaterFile has a new entry's turn at the clock's second, and one second above it.
func TestTurnsOfALaterFile(t *testing.T) {
	one := api.Leap{At: at(1972, 1), Offset: 10}
	for _, two := range []api.Leap{{At: at(1972, 7), Offset: 11}, {At: at(1972, 7), Offset: 9}} {
		turn := two.At + min(10, two.Offset)
		for _, c := range []struct {
			sec, frac int
			e         api.Errno
		}{
			{turn - 1, 0, api.OK}, {turn - 1, 4294967295, api.OK}, {turn, 0, api.ErrAgree}, {turn, 1, api.ErrAgree},
			{turn + 1, 0, api.ErrAgree}, {34000000000, 0, api.ErrAgree},
		} {
			x := stepping(t, c.sec, c.frac)
			load(t, x, text(t, 1, one), api.OK)
			load(t, x, text(t, 1, one, two, api.Leap{At: at(2999, 1), Offset: 10}), c.e)
			is(t, "P11: Done", x.See().Done, []api.Leap{one})
			if c.e == api.OK {
				is(t, "P11: Coming", x.See().Coming[0], fmt.Sprintf("{%d %d {%d 0} false}", two.At, two.Offset, turn))
				is(t, "P11: Coming", len(x.See().Coming), 2)
			}
		}
	}
}

// TestNothingElseIsToCome: a later file takes back what has not begun.
func TestNothingElseIsToCome(t *testing.T) {
	x := stepping(t, at(1972, 2), 0)
	one := api.Leap{At: at(1972, 1), Offset: 10}
	load(t, x, text(t, 1, one, api.Leap{At: at(1972, 7), Offset: 11}, api.Leap{At: at(1973, 1), Offset: 12}), api.OK)
	load(t, x, text(t, 2, one, api.Leap{At: at(1973, 1), Offset: 11}), api.OK)
	is(t, "P11: Coming", x.See().Coming, fmt.Sprintf("[{%d 11 {%d 0} false}]", at(1973, 1), at(1973, 1)+10))
	load(t, x, text(t, 3, one), api.OK)
	is(t, "P11: Coming", len(x.See().Coming), 0)
	advance(t, x, at(1974, 1)-at(1972, 2), 0)
	is(t, "P11: Done", x.See().Done, []api.Leap{one})
	is(t, "P12: Now", now(x), fmt.Sprint(at(1974, 1)-10, " 0 0 0"))
}

// TestMostEntries fills a table, and lets all of it begin.
func TestMostEntries(t *testing.T) {
	var leaps []api.Leap
	for i := range 40 {
		leaps = append(leaps, api.Leap{At: at(1972, 1+i), Offset: 161 + i})
	}
	x := stepping(t, at(1972, 1)+161, 0)
	load(t, x, text(t, 0, leaps...), api.OK)
	is(t, "P11: Coming", len(x.See().Coming), 39)
	advance(t, x, at(1980, 1)-at(1972, 1), 0)
	is(t, "P11: Done", x.See().Done, leaps)
	is(t, "P12: Now", now(x), fmt.Sprint(at(1980, 1)+161-200, " 0 0 0"))
}

// TestWindowsOfServersThatSmear: half a Window ahead of the turn, but not ahead of the clock.
func TestWindowsOfServersThatSmear(t *testing.T) {
	one, two := api.Leap{At: at(1972, 1), Offset: 10}, api.Leap{At: at(1972, 7), Offset: 11}
	turn := two.At + 10
	for _, mode := range []int{api.Linear, api.Smooth} {
		x := smearing(t, mode, 86402, turn-43202, 9)
		load(t, x, text(t, 1, one, two), api.OK)
		is(t, "P11: Coming", x.See().Coming, fmt.Sprintf("[{%d 11 {%d 0} false}]", two.At, turn-43201))
		advance(t, x, 0, 4294967286)
		is(t, "P11: Done, one part ahead", x.See().Done, []api.Leap{one})
		advance(t, x, 0, 1)
		is(t, "P11: Done at Begin", x.See().Done, []api.Leap{one, two})
		// It has begun and does not hold yet: it stays, and the file that has it agrees.
		refused(t, x, text(t, 2, one), api.ErrAgree, 0)
		load(t, x, text(t, 2, one, two), api.OK)

		x = smearing(t, mode, 86402, turn-43201, 1)
		load(t, x, text(t, 1, one), api.OK)
		load(t, x, text(t, 1, one, two), api.OK)
		is(t, "P11: Done of a file that came late", x.See().Done, []api.Leap{one, two})
		is(t, "P11: Coming of a file that came late", len(x.See().Coming), 0)
	}
}
