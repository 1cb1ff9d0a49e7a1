// Package server keeps a clock and what files and sources said of leaps, and serves UTC by them.
package server

import (
	"smear/api"
	"smear/clock"
	"smear/votes"
)

// maxFresh is the greatest Fresh, in seconds: package api has no name for it.
const maxFresh = 604800

// Server is what is kept from call to call.
type Server struct {
	mode, window   int
	sources, fresh int
	state          api.State
	votes          votes.Votes
	// opened tells whether a window has begun on this server's clock, and begin
	// when the last one did. An entry of the first file that turned ahead of it
	// has none.
	opened bool
	begin  api.Time
}

// New makes a server (P9).
func New(c api.Config) (Server, api.Errno) {
	if !isConfig(c) {
		return Server{}, api.ErrConfig
	}
	x := Server{mode: c.Mode, window: c.Window, sources: c.Sources, fresh: c.Fresh}
	x.state.Now = c.Start
	return x, api.OK
}

func isConfig(c api.Config) bool {
	if c.Sources < 0 || c.Sources > api.MaxSource || c.Fresh < 1 || c.Fresh > maxFresh {
		return false
	}
	return isWindow(c.Mode, c.Window) && clock.IsTime(c.Start)
}

// isWindow tells whether a server of that mode can have that window.
func isWindow(mode int, window int) bool {
	switch mode {
	case api.Step:
		return window == 0
	case api.Linear, api.Smooth:
		return window%2 == 0 && window >= api.MinWindow && window <= api.MaxWindow
	}
	return false
}

// See tells all that can be seen (P9).
func (x *Server) See() api.State {
	seen := x.state
	// The caller may write into the lists: they must not be the server's own.
	seen.Done = copyOf(x.state.Done)
	seen.Coming = nil
	for i := 0; i < len(x.state.Coming); i++ {
		seen.Coming = append(seen.Coming, x.state.Coming[i])
	}
	return seen
}

func copyOf(leaps []api.Leap) []api.Leap {
	var list []api.Leap
	for i := 0; i < len(leaps); i++ {
		list = append(list, leaps[i])
	}
	return list
}

// Advance moves the clock (P10).
func (x *Server) Advance(by api.Time) api.Errno {
	now, ok := clock.Sum(x.state.Now, by)
	if !ok {
		return api.ErrTime
	}
	x.state.Now = now
	x.lookAround()
	return api.OK
}
