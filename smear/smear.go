// Package smear: leap seconds: calendar, files, and a server of smeared time: see DOC.md.
package smear

import (
	"smear/api"
	"smear/calendar"
	"smear/digest"
	"smear/file"
	"smear/label"
	"smear/server"
)

// Server has a clock, a table, and what its sources say.
type Server struct{ inner server.Server }

// Day is the number of a date (P3).
func Day(y int, m int, d int) (int, api.Errno) { return calendar.Day(y, m, d) }

// Civil is the date of a day's number (P3).
func Civil(day int) (int, int, int, api.Errno) { return calendar.Civil(day) }

// Digest is the SHA-1 of bytes, in hexadecimal digits (P4).
func Digest(data string) string { return digest.Of(data) }

// Parse reads a file (P5).
func Parse(text string) (api.Table, api.Errno, int) { return file.Parse(text) }

// Print writes a file (P6).
func Print(t api.Table) (string, api.Errno) { return file.Print(t) }

// Offset tells TAI less UTC at a second of TAI (P7).
func Offset(t api.Table, sec int) (int, api.Errno) { return label.Offset(t, sec) }

// Label tells the day of a second of TAI, and which second of that day it is (P8).
func Label(t api.Table, sec int) (int, int, api.Errno) { return label.Label(t, sec) }

// Second is the second of TAI of such a label (P8).
func Second(t api.Table, day int, second int) (int, api.Errno) { return label.Second(t, day, second) }

// New makes a server (P9).
func New(c api.Config) (*Server, api.Errno) {
	inner, e := server.New(c)
	if e != api.OK {
		return nil, e
	}
	return &Server{inner: inner}, api.OK
}

// See tells all that can be seen (P9).
func (x *Server) See() api.State { return x.inner.See() }

// Advance moves the clock (P10).
func (x *Server) Advance(by api.Time) api.Errno { return x.inner.Advance(by) }

// Load takes a file (P11).
func (x *Server) Load(text string) (api.Errno, int) { return x.inner.Load(text) }

// Now tells the time that is served, and the leap indicator (P12, P13).
func (x *Server) Now() (api.Time, int, api.Errno) { return x.inner.Now() }

// Hear takes what a source says of leaps (P14).
func (x *Server) Hear(source int, leap int) api.Errno { return x.inner.Hear(source, leap) }

// Answer answers a client's packet (P15).
func (x *Server) Answer(packet string) (string, api.Errno) { return x.inner.Answer(packet) }
