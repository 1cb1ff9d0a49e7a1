// Package calendar numbers the days from 1900 to 2999, and names the date of a number.
package calendar

import "smear/api"

const (
	firstYear = 1900
	lastYear  = 2999

	// leapDaysBefore counts from the year 1 on; those ahead of 1900 have no day here.
	leapDaysBefore1900 = 1899/4 - 1899/100 + 1899/400
)

// Day is the number of a date (P3).
func Day(y int, m int, d int) (int, api.Errno) {
	if y < firstYear || y > lastYear || m < 1 || m > 12 {
		return 0, api.ErrDate
	}
	if d < 1 || d > monthDays(y, m) {
		return 0, api.ErrDate
	}
	day := yearBegin(y)
	for k := 1; k < m; k++ {
		day += monthDays(y, k)
	}
	return day + d - 1, api.OK
}

// Civil is the year, the month and the day of the month of a day's number (P3).
func Civil(day int) (int, int, int, api.Errno) {
	if day < 0 || day >= api.MaxDays {
		return 0, 0, 0, api.ErrDate
	}
	y := yearOf(day)
	rest := day - yearBegin(y)
	m := 1
	for m < 12 && rest >= monthDays(y, m) {
		rest -= monthDays(y, m)
		m++
	}
	return y, m, rest + 1, api.OK
}

// NextMonth is the number of the day at which the month behind that of a day
// begins; ErrDate, if one of the two is none.
func NextMonth(day int) (int, api.Errno) {
	y, m, _, e := Civil(day)
	if e != api.OK {
		return 0, e
	}
	if m == 12 {
		return Day(y+1, 1, 1)
	}
	return Day(y, m+1, 1)
}

// yearOf begins at a guess that is never too late, as no year is longer than 366 days:
// so only a few years are left to go.
func yearOf(day int) int {
	y := firstYear + day/366
	for y < lastYear && yearBegin(y+1) <= day {
		y++
	}
	return y
}

func yearBegin(y int) int {
	return 365*(y-firstYear) + leapDaysBefore(y) - leapDaysBefore1900
}

func leapDaysBefore(y int) int {
	past := y - 1
	return past/4 - past/100 + past/400
}

func isLeapYear(y int) bool {
	return y%4 == 0 && (y%100 != 0 || y%400 == 0)
}

func monthDays(y int, m int) int {
	switch m {
	case 2:
		if isLeapYear(y) {
			return 29
		}
		return 28
	case 4, 6, 9, 11:
		return 30
	}
	return 31
}
