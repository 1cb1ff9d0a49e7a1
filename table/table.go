// Package table says which tables of leap seconds can be, and which of their entries holds when.
package table

import (
	"smear/api"
	"smear/calendar"
)

// DaySeconds is how many seconds of UTC a day has.
const DaySeconds = 86400

// IsTable tells whether t is what the document calls a table.
func IsTable(t api.Table) bool {
	if t.Update < 0 || t.Expiry <= t.Update || t.Expiry > api.MaxSec {
		return false
	}
	if len(t.Leaps) < 1 || len(t.Leaps) > api.MaxLeaps {
		return false
	}
	for i := 0; i < len(t.Leaps); i++ {
		if !CanFollow(t.Leaps[:i], t.Leaps[i]) {
			return false
		}
	}
	return true
}

// CanFollow tells whether an entry can stand in a table behind entries of which
// each can stand behind those ahead of it.
func CanFollow(ahead []api.Leap, next api.Leap) bool {
	if len(ahead) >= api.MaxLeaps || !beginsMonth(next.At) {
		return false
	}
	if next.Offset < 0 || next.Offset > api.MaxOffset {
		return false
	}
	if len(ahead) == 0 {
		return true
	}
	last := ahead[len(ahead)-1]
	return next.At > last.At && (next.Offset == last.Offset+1 || next.Offset == last.Offset-1)
}

func beginsMonth(at int) bool {
	if at%DaySeconds != 0 {
		return false
	}
	_, _, d, e := calendar.Civil(at / DaySeconds)
	return e == api.OK && d == 1
}

// Turn is the second of TAI from which on the entry i holds; 0, if there is no such entry.
func Turn(leaps []api.Leap, i int) int {
	if i < 0 || i >= len(leaps) {
		return 0
	}
	offset := leaps[i].Offset
	if i > 0 && leaps[i-1].Offset < offset {
		offset = leaps[i-1].Offset
	}
	return leaps[i].At + offset
}

// Holder tells which entry of a table holds at a second of TAI; -1, if none does yet.
func Holder(leaps []api.Leap, sec int) int {
	i := len(leaps) - 1
	for i >= 0 && Turn(leaps, i) > sec {
		i--
	}
	return i
}
