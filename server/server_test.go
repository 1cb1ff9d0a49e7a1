package server_test

import (
	"fmt"
	"math"
	"testing"
	"time"

	"smear/api"
	"smear/file"
	"smear/server"
)

// at is the second of UTC at which a month begins, by the library's calendar.
func at(y int, m int) int {
	begin := time.Date(1900, 1, 1, 0, 0, 0, 0, time.UTC).Unix()
	return int(time.Date(y, time.Month(m), 1, 0, 0, 0, 0, time.UTC).Unix() - begin)
}

func text(t *testing.T, update int, leaps ...api.Leap) string {
	t.Helper()
	s, e := file.Print(api.Table{Update: update, Expiry: 34000000000, Leaps: leaps})
	if e != api.OK {
		t.Fatalf("no table: %v: %d", leaps, e)
	}
	return s
}

func made(t *testing.T, c api.Config) *server.Server {
	t.Helper()
	x, e := server.New(c)
	if e != api.OK {
		t.Fatalf("P9: New(%+v): %d", c, e)
	}
	return &x
}

// stepping is a server that steps, from a second on.
func stepping(t *testing.T, sec int, frac int) *server.Server {
	t.Helper()
	return made(t, api.Config{Fresh: 1, Start: api.Time{Sec: sec, Frac: frac}})
}

func load(t *testing.T, x *server.Server, s string, want api.Errno) {
	t.Helper()
	if e, n := x.Load(s); e != want || n != 0 {
		t.Errorf("P11: Load = %d, %d, want %d, 0", e, n, want)
	}
}

func advance(t *testing.T, x *server.Server, sec int, frac int) {
	t.Helper()
	if e := x.Advance(api.Time{Sec: sec, Frac: frac}); e != api.OK {
		t.Errorf("P10: Advance(%d, %d) = %d", sec, frac, e)
	}
}

func is(t *testing.T, what string, got any, want any) {
	t.Helper()
	if fmt.Sprint(got) != fmt.Sprint(want) {
		t.Errorf("%s: %v, want %v", what, got, want)
	}
}

func now(x *server.Server) string {
	u, indicator, e := x.Now()
	return fmt.Sprint(u.Sec, " ", u.Frac, " ", indicator, " ", e)
}

func TestConfigurations(t *testing.T) {
	last := api.Time{Sec: 34000000000, Frac: 4294967295}
	for _, c := range []api.Config{
		{Fresh: 1}, {Fresh: 604800}, {Fresh: 1, Sources: 8}, {Fresh: 1, Sources: 1}, {Fresh: 1, Start: last},
		{Mode: api.Linear, Window: 3600, Fresh: 1}, {Mode: api.Linear, Window: 604800, Fresh: 1},
		{Mode: api.Smooth, Window: 3600, Fresh: 1}, {Mode: api.Smooth, Window: 604800, Fresh: 1},
		{Mode: api.Linear, Window: 3602, Fresh: 604800, Sources: 8, Start: last},
	} {
		x := made(t, c)
		is(t, fmt.Sprintf("P9: See behind New(%+v)", c), fmt.Sprintf("%+v", x.See()), fmt.Sprintf("%+v", api.State{Now: c.Start}))
		is(t, fmt.Sprintf("P12: Now behind New(%+v)", c), now(x), "0 0 3 8")
	}
}

func TestNoConfigurations(t *testing.T) {
	for _, c := range []api.Config{
		{}, {Fresh: 0}, {Fresh: -1}, {Fresh: 604801}, {Fresh: math.MaxInt}, {Fresh: math.MinInt},
		{Fresh: 1, Sources: -1}, {Fresh: 1, Sources: 9}, {Fresh: 1, Sources: math.MaxInt}, {Fresh: 1, Sources: math.MinInt},
		{Fresh: 1, Window: 1}, {Fresh: 1, Window: 2}, {Fresh: 1, Window: -2}, {Fresh: 1, Window: 3600}, {Fresh: 1, Window: math.MinInt},
		{Fresh: 1, Mode: -1}, {Fresh: 1, Mode: -1, Window: 3600}, {Fresh: 1, Mode: 3}, {Fresh: 1, Mode: 3, Window: 3600},
		{Fresh: 1, Mode: math.MaxInt, Window: 3600}, {Fresh: 1, Mode: math.MinInt},
		{Fresh: 1, Start: api.Time{Sec: -1}}, {Fresh: 1, Start: api.Time{Frac: -1}}, {Fresh: 1, Start: api.Time{Sec: 34000000001}},
		{Fresh: 1, Start: api.Time{Frac: 4294967296}}, {Fresh: 1, Start: api.Time{Sec: 5, Frac: math.MinInt}},
		{Fresh: 1, Start: api.Time{Sec: math.MaxInt, Frac: math.MaxInt}}, {Fresh: 1, Start: api.Time{Sec: math.MinInt}},
	} {
		checkNoServer(t, c)
	}
	for _, mode := range []int{api.Linear, api.Smooth} {
		for _, window := range []int{math.MinInt, -3600, -2, 0, 1, 2, 3598, 3599, 3601, 43201, 604799, 604801, 604802, 1 << 62, math.MaxInt - 1} {
			checkNoServer(t, api.Config{Mode: mode, Window: window, Fresh: 1})
		}
	}
}

func checkNoServer(t *testing.T, c api.Config) {
	t.Helper()
	x, e := server.New(c)
	if e != api.ErrConfig {
		t.Errorf("P9: New(%+v) = %d", c, e)
	}
	is(t, "P1: what is made beside an error", x, server.Server{})
}

func TestAdvance(t *testing.T) {
	x := stepping(t, 0, 0)
	for _, c := range []struct {
		sec, frac int
		e         api.Errno
		want      string
	}{
		{0, 0, api.OK, "{0 0}"}, {0, 1, api.OK, "{0 1}"}, {0, 4294967295, api.OK, "{1 0}"}, {5, 4294967295, api.OK, "{6 4294967295}"},
		{0, 4294967295, api.OK, "{7 4294967294}"}, {-1, 0, api.ErrTime, "{7 4294967294}"}, {0, -1, api.ErrTime, "{7 4294967294}"},
		{1, -1, api.ErrTime, "{7 4294967294}"}, {0, 4294967296, api.ErrTime, "{7 4294967294}"},
		{math.MinInt, 0, api.ErrTime, "{7 4294967294}"}, {0, math.MinInt, api.ErrTime, "{7 4294967294}"},
		{math.MaxInt, 0, api.ErrTime, "{7 4294967294}"}, {0, math.MaxInt, api.ErrTime, "{7 4294967294}"},
		{math.MaxInt, math.MaxInt, api.ErrTime, "{7 4294967294}"}, {34000000001, 0, api.ErrTime, "{7 4294967294}"},
		{34000000000, 0, api.ErrTime, "{7 4294967294}"}, {33999999993, 2, api.ErrTime, "{7 4294967294}"},
		{33999999993, 1, api.OK, "{34000000000 4294967295}"}, {0, 1, api.ErrTime, "{34000000000 4294967295}"},
		{1, 0, api.ErrTime, "{34000000000 4294967295}"}, {34000000000, 4294967295, api.ErrTime, "{34000000000 4294967295}"},
		{0, 0, api.OK, "{34000000000 4294967295}"},
	} {
		is(t, fmt.Sprintf("P10: Advance(%d, %d)", c.sec, c.frac), x.Advance(api.Time{Sec: c.sec, Frac: c.frac}), c.e)
		is(t, "P9: the clock", x.See().Now, c.want)
		is(t, "P12: Now without a table", now(x), "0 0 3 8")
	}
}

// TestWholeClock goes from the clock's first time to its last in one step.
func TestWholeClock(t *testing.T) {
	x := stepping(t, 0, 0)
	load(t, x, text(t, 0, api.Leap{At: 0, Offset: 0}, api.Leap{At: at(1900, 2), Offset: 1}, api.Leap{At: at(2999, 12), Offset: 2}), api.OK)
	is(t, "P12: Now at the clock's first time", now(x), "0 0 0 0")
	advance(t, x, 34000000000, 4294967295)
	is(t, "P11: Done", x.See().Done, "[{0 0} {2678400 1}]")
	is(t, "P11: Coming", x.See().Coming, fmt.Sprintf("[{%d 2 {%d 0} false}]", at(2999, 12), at(2999, 12)+1))
	is(t, "P12: Now at the clock's last time", now(x), "33999999999 4294967295 0 0")
	is(t, "P10: Advance at the clock's end", x.Advance(api.Time{Frac: 1}), api.ErrTime)
	is(t, "P12: Now behind it", now(x), "33999999999 4294967295 0 0")
}

// TestBegins has the clock come to a turn part by part.
func TestBegins(t *testing.T) {
	x := stepping(t, 2287785609, 4294967294)
	load(t, x, text(t, 0, api.Leap{At: 2272060800, Offset: 10}, api.Leap{At: 2287785600, Offset: 11}, api.Leap{At: 2303683200, Offset: 12}), api.OK)
	is(t, "P11: Done, two parts ahead", x.See().Done, "[{2272060800 10}]")
	advance(t, x, 0, 1)
	is(t, "P11: Done, one part ahead", x.See().Done, "[{2272060800 10}]")
	is(t, "P12: Now, one part ahead", now(x), "2287785599 4294967295 1 0")
	advance(t, x, 0, 1)
	is(t, "P11: Done", x.See().Done, "[{2272060800 10} {2287785600 11}]")
	is(t, "P11: Coming", x.See().Coming, "[{2303683200 12 {2303683211 0} false}]")
	is(t, "P12: Now", now(x), "2287785599 0 1 0")
}

func TestSeveralBeginAtOnce(t *testing.T) {
	x := stepping(t, at(1972, 1)+10, 0)
	load(t, x, text(t, 0, api.Leap{At: at(1972, 1), Offset: 10}, api.Leap{At: at(1972, 7), Offset: 11}, api.Leap{At: at(1973, 1), Offset: 12},
		api.Leap{At: at(1974, 1), Offset: 11}, api.Leap{At: at(1975, 1), Offset: 12}), api.OK)
	advance(t, x, at(1974, 1)-at(1972, 1), 0)
	is(t, "P11: Done", x.See().Done, fmt.Sprintf("[{%d 10} {%d 11} {%d 12}]", at(1972, 1), at(1972, 7), at(1973, 1)))
	advance(t, x, 1, 0)
	is(t, "P11: Done", x.See().Done, fmt.Sprintf("[{%d 10} {%d 11} {%d 12} {%d 11}]", at(1972, 1), at(1972, 7), at(1973, 1), at(1974, 1)))
	is(t, "P11: Coming", x.See().Coming, fmt.Sprintf("[{%d 12 {%d 0} false}]", at(1975, 1), at(1975, 1)+11))
}
