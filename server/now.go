package server

import (
	"smear/api"
	"smear/label"
	"smear/table"
)

// The leap indicators.
const (
	sameDay    = 0
	longerDay  = 1
	shorterDay = 2
	unknown    = 3
)

// Now tells the time that is served, and the leap indicator (P12, P13).
func (x *Server) Now() (api.Time, int, api.Errno) {
	if !x.state.Loaded {
		return api.Time{}, unknown, api.ErrTable
	}
	indicator := x.indicator()
	n, open := x.openFor()
	if open {
		return x.smeared(n), indicator, api.OK
	}
	return x.unsmeared(), indicator, api.OK
}

// unsmeared is UTC without smear, where there is a table.
func (x *Server) unsmeared() api.Time {
	utc := x.state.Now
	i := table.Holder(x.state.Done, utc.Sec)
	if i >= 0 {
		utc.Sec -= x.state.Done[i].Offset
	}
	return utc
}

func (x *Server) indicator() int {
	if x.mode != api.Step {
		return sameDay
	}
	all := x.entries()
	switch label.Extra(all, x.state.Now.Sec) {
	case 1:
		return longerDay
	case -1:
		return shorterDay
	}
	return sameDay
}

// entries are those that have begun, and those to come.
func (x *Server) entries() []api.Leap {
	all := copyOf(x.state.Done)
	for i := 0; i < len(x.state.Coming); i++ {
		all = append(all, api.Leap{At: x.state.Coming[i].At, Offset: x.state.Coming[i].Offset})
	}
	return all
}
