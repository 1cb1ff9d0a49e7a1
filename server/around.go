package server

import (
	"smear/api"
	"smear/calendar"
	"smear/clock"
	"smear/table"
)

// lookAround lets begin what is due, and asks the sources where the file is silent (P14).
func (x *Server) lookAround() {
	if !x.state.Loaded {
		return
	}
	x.letDueBegin()
	// What is to come is the file's, or the sources': never both.
	if len(x.state.Coming) > 0 && !x.state.Coming[0].Voted {
		return
	}
	x.state.Coming = nil
	next, ok := x.voted()
	if ok {
		x.state.Coming = append(x.state.Coming, next)
		x.letDueBegin()
	}
}

func (x *Server) letDueBegin() {
	var later []api.Coming
	for i := 0; i < len(x.state.Coming); i++ {
		next := x.state.Coming[i]
		if clock.Earlier(x.state.Now, next.Begin) {
			later = append(later, next)
		} else {
			x.letBegin(next)
		}
	}
	x.state.Coming = later
}

// letBegin makes an entry that was to come one that has begun.
func (x *Server) letBegin(next api.Coming) {
	x.state.Done = append(x.state.Done, api.Leap{At: next.At, Offset: next.Offset})
	x.opened = true
	x.begin = next.Begin
}

// voted is the entry that most sources say is to come; false, if there is none.
func (x *Server) voted() (api.Coming, bool) {
	utc := x.unsmeared()
	if utc.Sec < x.state.Expiry {
		return api.Coming{}, false
	}
	change := x.votes.Change(x.state.Now, x.fresh)
	if change == 0 {
		return api.Coming{}, false
	}
	next, ok := x.changeAtMonthEnd(utc.Sec, change)
	if !ok {
		return api.Coming{}, false
	}
	all := copyOf(x.state.Done)
	all = append(all, next)
	turn := table.Turn(all, len(all)-1)
	if turn <= x.state.Now.Sec {
		return api.Coming{}, false
	}
	return api.Coming{At: next.At, Offset: next.Offset, Begin: x.windowBegin(turn), Voted: true}, true
}

// changeAtMonthEnd is the entry by which the Offset changes at the end of the
// month of a second of UTC; false, if it cannot stand behind those that have begun.
func (x *Server) changeAtMonthEnd(sec int, change int) (api.Leap, bool) {
	day, e := calendar.NextMonth(sec / table.DaySeconds)
	last := len(x.state.Done) - 1
	if e != api.OK || last < 0 {
		return api.Leap{}, false
	}
	next := api.Leap{At: day * table.DaySeconds, Offset: x.state.Done[last].Offset + change}
	if !table.CanFollow(x.state.Done, next) {
		return api.Leap{}, false
	}
	return next, true
}
