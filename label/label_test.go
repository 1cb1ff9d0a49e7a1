package label_test

import (
	"math"
	"math/rand"
	"testing"

	"smear/api"
	"smear/calendar"
	"smear/label"
)

// at is the second of UTC at which a month begins.
func at(t *testing.T, y int, m int) int {
	day, e := calendar.Day(y, m, 1)
	if e != api.OK {
		t.Fatalf("there is no month %d, %d", y, m)
	}
	return 86400 * day
}

func tableOf(leaps ...api.Leap) api.Table {
	return api.Table{Update: 0, Expiry: 1, Leaps: leaps}
}

// upAndDown has a second put in at July 1972 and one left out at January 1973.
func upAndDown() api.Table {
	return tableOf(api.Leap{At: 2272060800, Offset: 10}, api.Leap{At: 2287785600, Offset: 11}, api.Leap{At: 2303683200, Offset: 10})
}

func TestOffset(t *testing.T) {
	for _, c := range []struct {
		sec, offset int
		e           api.Errno
	}{
		{math.MinInt, 0, api.ErrTime}, {-1, 0, api.ErrTime}, {0, 0, api.ErrTime}, {2272060809, 0, api.ErrTime},
		{2272060810, 10, api.OK}, {2287785609, 10, api.OK}, {2287785610, 11, api.OK}, {2287785611, 11, api.OK},
		{2303683209, 11, api.OK}, {2303683210, 10, api.OK}, {34000000000, 10, api.OK},
		{34000000001, 0, api.ErrTime}, {math.MaxInt, 0, api.ErrTime},
	} {
		if offset, e := label.Offset(upAndDown(), c.sec); offset != c.offset || e != c.e {
			t.Errorf("P7: Offset at %d = %d, %d, want %d, %d", c.sec, offset, e, c.offset, c.e)
		}
	}
}

func TestLabel(t *testing.T) {
	for _, c := range []struct {
		sec, day, second int
		e                api.Errno
	}{
		{math.MinInt, 0, 0, api.ErrTime}, {-1, 0, 0, api.ErrTime}, {0, 0, 0, api.ErrTime}, {2272060809, 0, 0, api.ErrTime},
		{2272060810, 26297, 0, api.OK}, {2272060810 + 86399, 26297, 86399, api.OK}, {2272060810 + 86400, 26298, 0, api.OK},
		{2287785609, 26478, 86399, api.OK}, {2287785610, 26478, 86400, api.OK}, {2287785611, 26479, 0, api.OK},
		{2303683209, 26662, 86398, api.OK}, {2303683210, 26663, 0, api.OK},
		{34000000000, 393518, 44790, api.OK}, {34000000001, 0, 0, api.ErrTime}, {math.MaxInt, 0, 0, api.ErrTime},
	} {
		if day, second, e := label.Label(upAndDown(), c.sec); day != c.day || second != c.second || e != c.e {
			t.Errorf("P8: Label at %d = %d, %d, %d, want %d, %d, %d", c.sec, day, second, e, c.day, c.second, c.e)
		}
	}
}

func TestSecond(t *testing.T) {
	for _, c := range []struct {
		day, second, sec int
		e                api.Errno
	}{
		{26297, 0, 2272060810, api.OK}, {26297, 86399, 2272147209, api.OK}, {26297, 86400, 0, api.ErrTime},
		{26296, 0, 0, api.ErrTime}, {26296, 86399, 0, api.ErrTime}, {26296, 86400, 0, api.ErrTime}, {0, 0, 0, api.ErrTime},
		{26478, 86399, 2287785609, api.OK}, {26478, 86400, 2287785610, api.OK}, {26478, 86401, 0, api.ErrTime},
		{26477, 86400, 0, api.ErrTime}, {26479, 0, 2287785611, api.OK}, {26479, 86400, 0, api.ErrTime},
		{26662, 86398, 2303683209, api.OK}, {26662, 86399, 0, api.ErrTime}, {26663, 0, 2303683210, api.OK},
		{393518, 44790, 34000000000, api.OK}, {393518, 44791, 0, api.ErrTime}, {393519, 0, 0, api.ErrTime},
		{401766, 0, 0, api.ErrTime}, {401767, 0, 0, api.ErrTime}, {-1, 0, 0, api.ErrTime}, {-1, 86400, 0, api.ErrTime},
		{26300, -1, 0, api.ErrTime}, {26300, math.MinInt, 0, api.ErrTime}, {26300, math.MaxInt, 0, api.ErrTime},
		{math.MinInt, 0, 0, api.ErrTime}, {math.MaxInt, 0, 0, api.ErrTime}, {math.MaxInt / 86400, 0, 0, api.ErrTime},
		// 86,400 times 2^57 is a multiple of 2^64: these look like the day 26,300 to one who multiplies first.
		{1<<57 + 26300, 0, 0, api.ErrTime}, {-1<<57 + 26300, 0, 0, api.ErrTime}, {1<<62 + 26300, 0, 0, api.ErrTime},
		{26300, 1<<62 + 1, 0, api.ErrTime}, {math.MaxInt, math.MaxInt, 0, api.ErrTime}, {math.MinInt, math.MinInt, 0, api.ErrTime},
	} {
		if sec, e := label.Second(upAndDown(), c.day, c.second); sec != c.sec || e != c.e {
			t.Errorf("P8: Second(%d, %d) = %d, %d, want %d, %d", c.day, c.second, sec, e, c.sec, c.e)
		}
	}
}

// TestFirstDay begins at the first of January 1900, with the least Offset and the greatest.
func TestFirstDay(t *testing.T) {
	for _, offset := range []int{0, 200} {
		u := tableOf(api.Leap{At: 0, Offset: offset})
		if day, second, e := label.Label(u, offset); day != 0 || second != 0 || e != api.OK {
			t.Errorf("P8: Offset %d: the first second is called %d, %d, %d", offset, day, second, e)
		}
		if sec, e := label.Second(u, 0, 0); sec != offset || e != api.OK {
			t.Errorf("P8: Offset %d: Second(0, 0) = %d, %d", offset, sec, e)
		}
		if got, e := label.Offset(u, offset-1); got != 0 || e != api.ErrTime {
			t.Errorf("P7: Offset %d: a second ahead it is %d, %d", offset, got, e)
		}
		if got, e := label.Offset(u, 34000000000); got != offset || e != api.OK {
			t.Errorf("P7: Offset %d: at the last second of the clock it is %d, %d", offset, got, e)
		}
		day, second, e := label.Label(u, 34000000000)
		if day != 393518 || second != 44800-offset || e != api.OK {
			t.Errorf("P8: Offset %d: the last second of the clock is called %d, %d, %d", offset, day, second, e)
		}
	}
}

// TestEntriesBehindTheClock has entries in the last years of the calendar, which the clock never reaches.
func TestEntriesBehindTheClock(t *testing.T) {
	last := at(t, 2999, 12)
	u := tableOf(api.Leap{At: at(t, 2977, 6), Offset: 10}, api.Leap{At: last, Offset: 11})
	if got, e := label.Offset(u, 34000000000); got != 10 || e != api.OK {
		t.Errorf("P7: Offset at the last second of the clock = %d, %d", got, e)
	}
	if sec, e := label.Second(u, last/86400-1, 86400); sec != 0 || e != api.ErrTime {
		t.Errorf("P8: a second put in behind the clock = %d, %d", sec, e)
	}
	u = tableOf(api.Leap{At: last, Offset: 10})
	if got, e := label.Offset(u, 34000000000); got != 0 || e != api.ErrTime {
		t.Errorf("P7: an entry that never holds = %d, %d", got, e)
	}
	if sec, e := label.Second(u, 401766, 0); sec != 0 || e != api.ErrTime {
		t.Errorf("P8: the last day = %d, %d", sec, e)
	}
}

// walked is a day as it is met when the days are counted one behind the other.
type walked struct {
	day, begin, length, offset int
}

// walk counts the days from the first entry on, with no more than their lengths.
func walk(leaps []api.Leap, days int) []walked {
	var all []walked
	w := walked{day: leaps[0].At / 86400, begin: leaps[0].At + leaps[0].Offset, offset: leaps[0].Offset}
	k := 1
	for range days {
		w.length = 86400
		next := w.offset
		if k < len(leaps) && leaps[k].At == 86400*(w.day+1) {
			next = leaps[k].Offset
			w.length += next - w.offset
			k++
		}
		all = append(all, w)
		w = walked{day: w.day + 1, begin: w.begin + w.length, offset: next}
	}
	return all
}

func checkSecond(t *testing.T, u api.Table, w walked, second int) {
	sec := w.begin + second
	if day, s, e := label.Label(u, sec); day != w.day || s != second || e != api.OK {
		t.Fatalf("P8: %v: Label at %d = %d, %d, %d, want %d, %d", u, sec, day, s, e, w.day, second)
	}
	if got, e := label.Second(u, w.day, second); got != sec || e != api.OK {
		t.Fatalf("P8: %v: Second(%d, %d) = %d, %d, want %d", u, w.day, second, got, e, sec)
	}
	if extra := label.Extra(u.Leaps, sec); extra != w.length-86400 {
		t.Fatalf("P8: %v: Extra at %d = %d, the day has %d seconds", u, sec, extra, w.length)
	}
	offset := w.offset
	if second == 86400 {
		offset++
	}
	if got, e := label.Offset(u, sec); got != offset || e != api.OK {
		t.Fatalf("P7: %v: Offset at %d = %d, %d, want %d", u, sec, got, e, offset)
	}
}

func checkDay(t *testing.T, u api.Table, w walked) {
	for _, second := range []int{0, 1, 2, 43200, w.length - 3, w.length - 2, w.length - 1} {
		checkSecond(t, u, w, second)
	}
	for _, second := range []int{-1, w.length, w.length + 1, w.length + 2} {
		if got, e := label.Second(u, w.day, second); got != 0 || e != api.ErrTime {
			t.Fatalf("P8: %v: Second(%d, %d) = %d, %d", u, w.day, second, got, e)
		}
	}
}

// drawn draws a table: the entries follow each other after one to four months.
func drawn(t *testing.T, r *rand.Rand) api.Table {
	y, m, offset := 1900+r.Intn(900), 1+r.Intn(12), r.Intn(201)
	var leaps []api.Leap
	for range 1 + r.Intn(40) {
		leaps = append(leaps, api.Leap{At: at(t, y, m), Offset: offset})
		m += 1 + r.Intn(4)
		y += (m - 1) / 12
		m = (m-1)%12 + 1
		if offset == 0 || offset < 200 && r.Intn(2) == 0 {
			offset++
		} else {
			offset--
		}
	}
	return tableOf(leaps...)
}

func TestDaysOneBehindTheOther(t *testing.T) {
	r := rand.New(rand.NewSource(1))
	for range 60 {
		u := drawn(t, r)
		for _, w := range walk(u.Leaps, 1500) {
			checkDay(t, u, w)
		}
	}
}

// TestEverySecondAboutALeap leaves no second out.
func TestEverySecondAboutALeap(t *testing.T) {
	u := upAndDown()
	for _, w := range walk(u.Leaps, 400) {
		if w.day < 26477 || w.day > 26479 && w.day < 26661 || w.day > 26663 {
			continue
		}
		for second := 0; second < w.length; second++ {
			checkSecond(t, u, w, second)
		}
	}
}

func TestExtraWhereNoEntryHolds(t *testing.T) {
	for _, sec := range []int{math.MinInt, -1, 0, 2272060809} {
		if extra := label.Extra(upAndDown().Leaps, sec); extra != 0 {
			t.Errorf("P8: Extra at %d = %d", sec, extra)
		}
	}
	if extra := label.Extra(nil, 2287785610); extra != 0 {
		t.Errorf("P8: Extra of no entries = %d", extra)
	}
}

// TestNoTable has a wrong table beside wrong times: the table is told of first.
func TestNoTable(t *testing.T) {
	wrong := []api.Table{{}, tableOf(), tableOf(api.Leap{At: 1, Offset: 10}), tableOf(api.Leap{At: 0, Offset: 201}),
		{Update: 1, Expiry: 1, Leaps: upAndDown().Leaps}, {Update: 0, Expiry: 34000000001, Leaps: upAndDown().Leaps},
		tableOf(api.Leap{At: math.MinInt, Offset: math.MinInt}, api.Leap{At: math.MaxInt, Offset: math.MaxInt}),
		tableOf(make([]api.Leap, 41)...)}
	for _, u := range wrong {
		for _, n := range []int{math.MinInt, -1, 0, 26300, 2287785610, 34000000000, 34000000001, math.MaxInt} {
			if got, e := label.Offset(u, n); got != 0 || e != api.ErrTable {
				t.Errorf("P7: Offset(%v, %d) = %d, %d", u, n, got, e)
			}
			if day, second, e := label.Label(u, n); day != 0 || second != 0 || e != api.ErrTable {
				t.Errorf("P8: Label(%v, %d) = %d, %d, %d", u, n, day, second, e)
			}
			if got, e := label.Second(u, n, n); got != 0 || e != api.ErrTable {
				t.Errorf("P8: Second(%v, %d, %d) = %d, %d", u, n, n, got, e)
			}
		}
	}
}
