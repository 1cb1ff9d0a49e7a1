package server

import (
	"smear/api"
	"smear/clock"
	"smear/file"
	"smear/table"
)

// Load takes a file, or refuses it (P11).
func (x *Server) Load(text string) (api.Errno, int) {
	t, e, line := file.Parse(text)
	if e == api.OK {
		e = x.objection(t)
	}
	if e != api.OK {
		x.state.Refused++
		return e, line
	}
	x.take(t)
	x.lookAround()
	return api.OK, 0
}

// objection is the error of a file that can be parsed; OK, if there is nothing against it.
func (x *Server) objection(t api.Table) api.Errno {
	if x.state.Loaded && t.Update < x.state.Update {
		return api.ErrOld
	}
	if !x.agrees(t.Leaps) {
		return api.ErrAgree
	}
	return api.OK
}

// agrees tells whether a file's entries go together with what has begun. Turns
// follow each other as the entries do, so the entry that holds tells which
// turns are above the clock's seconds: those of the entries behind it.
func (x *Server) agrees(leaps []api.Leap) bool {
	holder := table.Holder(leaps, x.state.Now.Sec)
	if !x.state.Loaded {
		return holder >= 0
	}
	return holder < len(x.state.Done) && beginsWith(leaps, x.state.Done)
}

func beginsWith(leaps []api.Leap, begun []api.Leap) bool {
	if len(leaps) < len(begun) {
		return false
	}
	for i := 0; i < len(begun); i++ {
		if leaps[i] != begun[i] {
			return false
		}
	}
	return true
}

// take puts a file that agrees in the place of the last one.
func (x *Server) take(t api.Table) {
	if !x.state.Loaded {
		holder := table.Holder(t.Leaps, x.state.Now.Sec)
		x.state.Done = copyOf(t.Leaps[:holder+1])
	}
	x.state.Loaded = true
	x.state.Update = t.Update
	x.state.Expiry = t.Expiry
	x.state.Coming = nil
	for i := len(x.state.Done); i < len(t.Leaps); i++ {
		begin := x.windowBegin(table.Turn(t.Leaps, i))
		next := api.Coming{At: t.Leaps[i].At, Offset: t.Leaps[i].Offset, Begin: begin}
		x.state.Coming = append(x.state.Coming, next)
	}
}

// windowBegin is when the window of an entry begins that is to come from this
// clock on. Where the server steps, Window is 0: at the turn.
func (x *Server) windowBegin(turn int) api.Time {
	begin := api.Time{Sec: turn - x.window/2}
	if clock.Earlier(begin, x.state.Now) {
		return x.state.Now
	}
	return begin
}
