package server

import (
	"smear/api"
	"smear/clock"
	"smear/pull"
)

// openFor tells for how many parts of a second a window has been open; false, if
// none is. Months are longer than windows: it can only be the last one's that began.
func (x *Server) openFor() (int, bool) {
	if !x.opened {
		return 0, false
	}
	gone := clock.Gone(x.state.Now, x.begin)
	// The seconds are looked at first: the parts of a longer time are too many for an int.
	if gone.Sec >= x.window {
		return 0, false
	}
	return gone.Sec*clock.Parts + gone.Frac, true
}

// smeared is the time that is served when a window has been open for n parts (P13).
func (x *Server) smeared(n int) api.Time {
	last := len(x.state.Done) - 1
	if last < 1 {
		return x.unsmeared()
	}
	ahead := x.state.Done[last-1].Offset
	utc := x.state.Now
	utc.Sec -= ahead
	if x.state.Done[last].Offset > ahead {
		// A pull that is taken away is rounded up, so that the time is rounded down.
		return clock.Moved(utc, -x.pull(n, true))
	}
	return clock.Moved(utc, x.pull(n, false))
}

func (x *Server) pull(n int, up bool) int {
	if x.mode == api.Smooth {
		return pull.Smooth(n, x.window, up)
	}
	return pull.Linear(n, x.window, up)
}
