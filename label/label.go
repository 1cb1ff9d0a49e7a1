// Package label tells what the seconds of TAI are called, and which second bears a name.
package label

import (
	"smear/api"
	"smear/table"
)

// Offset tells TAI less UTC at a second of TAI (P7).
func Offset(t api.Table, sec int) (int, api.Errno) {
	if !table.IsTable(t) {
		return 0, api.ErrTable
	}
	i := table.Holder(t.Leaps, sec)
	if sec > api.MaxSec || i < 0 {
		return 0, api.ErrTime
	}
	return t.Leaps[i].Offset, api.OK
}

// Label tells the day of a second of TAI, and which second of that day it is (P8).
func Label(t api.Table, sec int) (int, int, api.Errno) {
	offset, e := Offset(t, sec)
	if e != api.OK {
		return 0, 0, e
	}
	day := dayOf(sec, offset)
	return day, sec - dayBegin(t.Leaps, day), api.OK
}

// Second is the second of TAI of such a label (P8).
func Second(t api.Table, day int, second int) (int, api.Errno) {
	if !table.IsTable(t) {
		return 0, api.ErrTable
	}
	if day < 0 || day >= api.MaxDays || lastAt(t.Leaps, day) < 0 {
		return 0, api.ErrTime
	}
	if second < 0 || second >= dayLength(t.Leaps, day) {
		return 0, api.ErrTime
	}
	sec := dayBegin(t.Leaps, day) + second
	if sec > api.MaxSec {
		return 0, api.ErrTime
	}
	return sec, api.OK
}

// Extra tells how many seconds the day has more than others in which a second
// of TAI is: 1, 0 or -1; 0, if none of a table's entries holds yet.
func Extra(leaps []api.Leap, sec int) int {
	i := table.Holder(leaps, sec)
	if i < 0 {
		return 0
	}
	day := dayOf(sec, leaps[i].Offset)
	return dayLength(leaps, day) - table.DaySeconds
}

// dayOf is the day of a second of TAI at which that Offset holds. At a second
// that is put in, the entry behind it holds already: less its Offset the second
// still lies in the day that is a second longer, as it must.
func dayOf(sec int, offset int) int { return (sec - offset) / table.DaySeconds }

// lastAt tells the last entry whose At is not above the beginning of a day; -1, if there is none.
func lastAt(leaps []api.Leap, day int) int {
	i := len(leaps) - 1
	for i >= 0 && leaps[i].At > day*table.DaySeconds {
		i--
	}
	return i
}

// dayBegin is the second of TAI at which a day begins that is not ahead of the first entry.
func dayBegin(leaps []api.Leap, day int) int {
	begin := day * table.DaySeconds
	i := lastAt(leaps, day)
	if i >= 0 {
		begin += leaps[i].Offset
	}
	return begin
}

func dayLength(leaps []api.Leap, day int) int {
	next := (day + 1) * table.DaySeconds
	for i := 1; i < len(leaps); i++ {
		if leaps[i].At == next {
			return table.DaySeconds + leaps[i].Offset - leaps[i-1].Offset
		}
	}
	return table.DaySeconds
}
