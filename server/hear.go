package server

import (
	"smear/api"
	"smear/packet"
	"smear/votes"
)

// Hear takes what a source says of leaps (P14).
func (x *Server) Hear(source int, leap int) api.Errno {
	if source < 0 || source >= x.sources {
		return api.ErrSource
	}
	if !votes.IsVote(leap) {
		return api.ErrPacket
	}
	x.votes.Hear(source, leap, x.state.Now)
	x.lookAround()
	return api.OK
}

// Answer answers a client's packet (P15).
func (x *Server) Answer(text string) (string, api.Errno) {
	if !packet.IsClients(text) {
		return "", api.ErrPacket
	}
	utc, indicator, e := x.Now()
	return packet.Answer(text, indicator, e == api.OK, utc), api.OK
}
