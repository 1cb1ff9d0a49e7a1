package server_test

import (
	"encoding/binary"
	"fmt"
	"strings"
	"testing"

	"smear/api"
	"smear/server"
)

// asking is a client's packet of version 4.
var asking = "\x23\x00\x0a" + strings.Repeat("q", 37) + "12345678"

// checkAnswer compares an answer with what Now tells, place by place.
func checkAnswer(t *testing.T, x *server.Server) {
	t.Helper()
	u, indicator, failed := x.Now()
	stratum, name := byte(1), "LEAP"
	if failed != api.OK {
		stratum, name = 0, "INIT"
	}
	s, e := x.Answer(asking)
	if e != api.OK || len(s) != 48 {
		t.Fatalf("P15: Answer = %q, %d", s, e)
	}
	is(t, "P15: the first four bytes", []byte(s[:4]), []byte{byte(indicator<<6 | 4<<3 | 4), stratum, 10, 236})
	is(t, "P15: the next eight", s[4:12], strings.Repeat("\x00", 8))
	is(t, "P15: the name", s[12:16], name)
	is(t, "P15: the packet's own time", s[24:32], "12345678")
	for _, i := range []int{16, 32, 40} {
		is(t, "P15: the seconds", binary.BigEndian.Uint32([]byte(s[i:])), u.Sec%(1<<32))
		is(t, "P15: the parts", binary.BigEndian.Uint32([]byte(s[i+4:])), u.Frac)
	}
}

// TestAnswersOfServers has servers of each mode, ahead of a leap, in it, and behind it.
func TestAnswersOfServers(t *testing.T) {
	for _, mode := range []int{api.Step, api.Linear, api.Smooth} {
		for _, by := range []int{1, -1} {
			turn := at(1972, 7) + 10 + min(by, 0)
			x := asked(t, mode, map[int]int{api.Step: 0, api.Linear: 7200, api.Smooth: 3600}[mode], turn-90000, 77)
			checkAnswer(t, x)
			refused(t, x, "x", api.ErrText, 0)
			checkAnswer(t, x)
			load(t, x, oneLeap(t, 1, by), api.OK)
			for _, sec := range []int{turn - 90000, turn - 86402, turn - 5000, turn - 1700, turn - 1, turn, turn + 1, turn + 1700, turn + 5000} {
				goTo(t, x, sec, 1<<31+sec%1000)
				checkAnswer(t, x)
			}
		}
	}
}

// TestAnswersOfIndicators has the first byte on days of each length, and without a table.
func TestAnswersOfIndicators(t *testing.T) {
	x := asked(t, api.Step, 0, at(1972, 7)-100, 0)
	first := func() string {
		s, e := x.Answer(asking)
		return fmt.Sprintf("%x %d", s[:2], e)
	}
	is(t, "P15: without a table", first(), "e400 0")
	load(t, x, shortText(t, 2, entry72), api.OK)
	is(t, "P15: with a table", first(), "2401 0")
	hear(t, x, 0, 1)
	is(t, "P15: with a second more", first(), "6401 0")
	hear(t, x, 0, 2)
	is(t, "P15: with a second less", first(), "a401 0")
	hear(t, x, 0, 3)
	is(t, "P15: with neither", first(), "2401 0")
}

// TestAnswersAboveFourBytes has seconds about the multiples of 2^32, and the clock's last time.
func TestAnswersAboveFourBytes(t *testing.T) {
	for _, utc := range []int{1<<32 - 1, 1 << 32, 1<<32 + 1, 2<<32 - 1, 2 << 32, 7<<32 + 1<<31, 34000000000 - 10} {
		x := runOut(t, api.Step, 0, utc+10, lastPart)
		checkAnswer(t, x)
	}
}

func TestNoPackets(t *testing.T) {
	x := asked(t, api.Step, 0, at(1972, 7)-100, 0)
	for range 2 {
		before := x.See()
		for _, s := range []string{
			"", "x", asking[:47], asking + "x", "\x24" + asking[1:], "\x22" + asking[1:], "\x03" + asking[1:], "\x2b" + asking[1:],
			asking + strings.Repeat("\x00", 16), asking + strings.Repeat("\x00\x00\x00\x10", 64), strings.Repeat("\x23", 48) + "####",
			strings.Repeat("#", 301), strings.Repeat("#", 100000),
		} {
			if got, e := x.Answer(s); got != "" || e != api.ErrPacket {
				t.Errorf("P1, P15: Answer(%.60q) = %q, %d", s, got, e)
			}
		}
		is(t, "P2: See behind packets that are none", x.See(), before)
		load(t, x, oneLeap(t, 1, 1), api.OK)
	}
}
