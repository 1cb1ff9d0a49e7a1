package calendar

import (
	"math"
	"testing"
	"time"

	"smear/api"
)

type date struct {
	y, m, d, day int
}

// Examples of the document, and edges, reckoned by hand.
var known = []date{
	{1900, 1, 1, 0},
	{1900, 1, 31, 30},
	{1900, 2, 1, 31},
	{1900, 2, 28, 58},
	{1900, 3, 1, 59},
	{1900, 12, 31, 364},
	{1901, 1, 1, 365},
	{1904, 2, 29, 1519},
	{1904, 3, 1, 1520},
	{1972, 1, 1, 26297},
	{1972, 7, 1, 26479},
	{1999, 12, 31, 36523},
	{2000, 2, 28, 36582},
	{2000, 2, 29, 36583},
	{2000, 3, 1, 36584},
	{2000, 12, 31, 36889},
	{2001, 1, 1, 36890},
	{2999, 1, 1, 401402},
	{2999, 12, 31, 401766},
}

func TestKnownDates(t *testing.T) {
	for _, k := range known {
		if day, e := Day(k.y, k.m, k.d); e != api.OK || day != k.day {
			t.Errorf("P3: Day(%d, %d, %d) = %d, %d, want %d", k.y, k.m, k.d, day, e, k.day)
		}
		if y, m, d, e := Civil(k.day); e != api.OK || y != k.y || m != k.m || d != k.d {
			t.Errorf("P3: Civil(%d) = %d, %d, %d, %d, want %d, %d, %d", k.day, y, m, d, e, k.y, k.m, k.d)
		}
	}
}

func TestEveryDay(t *testing.T) {
	at := time.Date(1900, 1, 1, 0, 0, 0, 0, time.UTC)
	for day := 0; day < api.MaxDays; day++ {
		y, m, d, e := Civil(day)
		if e != api.OK || y != at.Year() || m != int(at.Month()) || d != at.Day() {
			t.Fatalf("P3: Civil(%d) = %d, %d, %d, %d, want %s", day, y, m, d, e, at)
		}
		if back, e := Day(y, m, d); e != api.OK || back != day {
			t.Fatalf("P3: Day(%d, %d, %d) = %d, %d, want %d", y, m, d, back, e, day)
		}
		at = at.AddDate(0, 0, 1)
	}
	if at.Year() != 3000 || at.YearDay() != 1 {
		t.Errorf("P3: MaxDays ends at %s", at)
	}
}

// TestEveryDate tries what stands about each month's ends too: a date is one
// just if the library's calendar leaves it as it is.
func TestEveryDate(t *testing.T) {
	for y := 1890; y <= 3010; y++ {
		for m := -1; m <= 14; m++ {
			for d := -1; d <= 33; d++ {
				at := time.Date(y, time.Month(m), d, 0, 0, 0, 0, time.UTC)
				same := at.Year() == y && int(at.Month()) == m && at.Day() == d
				want := api.OK
				if !same || y < 1900 || y > 2999 {
					want = api.ErrDate
				}
				day, e := Day(y, m, d)
				if e != want || e != api.OK && day != 0 {
					t.Fatalf("P3: Day(%d, %d, %d) = %d, %d, want the error %d", y, m, d, day, e, want)
				}
			}
		}
	}
}

func TestTheTwentyNinthOfFebruary(t *testing.T) {
	for _, y := range []int{1904, 1996, 2000, 2004, 2400, 2800, 2996} {
		if _, e := Day(y, 2, 29); e != api.OK {
			t.Errorf("P3: Day(%d, 2, 29) has the error %d", y, e)
		}
		if day, e := Day(y, 2, 30); e != api.ErrDate || day != 0 {
			t.Errorf("P3: Day(%d, 2, 30) = %d, %d", y, day, e)
		}
	}
	for _, y := range []int{1900, 1901, 1999, 2100, 2200, 2300, 2500, 2900, 2998, 2999} {
		if day, e := Day(y, 2, 29); e != api.ErrDate || day != 0 {
			t.Errorf("P3: Day(%d, 2, 29) = %d, %d", y, day, e)
		}
	}
}

func TestNoSuchDay(t *testing.T) {
	wrong := []int{-1, -2, -365, -366, -401766, 401767, 401768, 402133, 1 << 31, 1 << 32, -1 << 31, -1 << 32,
		1 << 62, -1 << 62, math.MaxInt, math.MaxInt - 1, math.MinInt, math.MinInt + 1}
	for _, day := range wrong {
		if y, m, d, e := Civil(day); e != api.ErrDate || y != 0 || m != 0 || d != 0 {
			t.Errorf("P1, P3: Civil(%d) = %d, %d, %d, %d", day, y, m, d, e)
		}
	}
}

// TestWrongNumbersInADate lays each wrong number in each place of a date that
// is one otherwise, and in all places together.
func TestWrongNumbersInADate(t *testing.T) {
	wrong := []int{0, -1, -4, -2000, 3000, 10000, 1<<32 + 1, 1<<32 + 2000, 1 << 31, -1 << 31, -1 << 32,
		1 << 62, -1 << 62, math.MaxInt, math.MaxInt - 1, math.MinInt, math.MinInt + 1}
	for _, n := range wrong {
		for _, c := range [][3]int{{n, 2, 28}, {2000, n, 28}, {2000, 2, n}, {n, n, 28}, {n, 2, n}, {2000, n, n}, {n, n, n}} {
			if day, e := Day(c[0], c[1], c[2]); e != api.ErrDate || day != 0 {
				t.Errorf("P1, P3: Day(%d, %d, %d) = %d, %d", c[0], c[1], c[2], day, e)
			}
		}
	}
}

// TestNextMonth asks the library's calendar at every day. The month behind the last one is none.
func TestNextMonth(t *testing.T) {
	for day := 0; day < api.MaxDays; day++ {
		at := time.Date(1900, 1, 1+day, 0, 0, 0, 0, time.UTC)
		behind := time.Date(at.Year(), at.Month()+1, 1, 0, 0, 0, 0, time.UTC)
		want, wantError := int(behind.Sub(at).Hours())/24+day, api.OK
		if behind.Year() == 3000 {
			want, wantError = 0, api.ErrDate
		}
		if next, e := NextMonth(day); next != want || e != wantError {
			t.Fatalf("P14: NextMonth(%d) = %d, %d, want %d, %d", day, next, e, want, wantError)
		}
	}
	for _, day := range []int{-1, -31, api.MaxDays, api.MaxDays + 31, 1 << 62, math.MaxInt, math.MinInt} {
		if next, e := NextMonth(day); next != 0 || e != api.ErrDate {
			t.Errorf("P1, P14: NextMonth(%d) = %d, %d", day, next, e)
		}
	}
}
