package smear_test

import (
	"fmt"
	"strings"
	"testing"
	"unsafe"

	"smear/api"
	"smear/smear"
)

func serverFrom(t *testing.T, c api.Config) *smear.Server {
	t.Helper()
	x, e := smear.New(c)
	if x == nil || e != api.OK {
		t.Fatalf("P9: New(%+v) = %v, %d", c, x, e)
	}
	return x
}

// exampleServer steps, from ten seconds of the clock ahead of a second that is put in.
func exampleServer(t *testing.T) *smear.Server {
	t.Helper()
	x := serverFrom(t, api.Config{Sources: 3, Fresh: 60, Start: api.Time{Sec: 2287785600, Frac: 5}})
	if e, n := x.Load(printed); e != api.OK || n != 0 {
		t.Fatalf("P11: Load(T) = %d, %d", e, n)
	}
	return x
}

// askedServers has one of each mode whose file has run out, half a minute of the
// clock ahead of where a window of 3,600 seconds begins.
func askedServers(t *testing.T) []*smear.Server {
	t.Helper()
	var all []*smear.Server
	for _, mode := range []int{api.Step, api.Linear, api.Smooth} {
		c := api.Config{Mode: mode, Window: 3600, Sources: 3, Fresh: 60, Start: api.Time{Sec: 2400969611 - 1830, Frac: 5}}
		if mode == api.Step {
			c.Window = 0
		}
		x := serverFrom(t, c)
		if e, n := x.Load(printed); e != api.OK || n != 0 {
			t.Fatalf("P11: Load(T) = %d, %d", e, n)
		}
		all = append(all, x)
	}
	return all
}

// exampleServers has one of each mode; those that smear have their window open already, or soon.
func exampleServers(t *testing.T) []*smear.Server {
	t.Helper()
	all := []*smear.Server{exampleServer(t)}
	for _, mode := range []int{api.Linear, api.Smooth} {
		for _, sec := range []int{2287785600, 2287785610 - 1802} {
			x := serverFrom(t, api.Config{Mode: mode, Window: 3600, Sources: 3, Fresh: 60, Start: api.Time{Sec: sec, Frac: 5}})
			if e, n := x.Load(printed); e != api.OK || n != 0 {
				t.Fatalf("P11: Load(T) = %d, %d", e, n)
			}
			all = append(all, x)
		}
	}
	return all
}

// clientPacket is one of version 3, with an extension field.
var clientPacket = "\x1b\x00\x06" + strings.Repeat("q", 37) + "abcdefgh" + "zz\x00\x10" + strings.Repeat("f", 12)

// seen is all that a server shows.
func seen(x *smear.Server) string {
	served, indicator, e := x.Now()
	answer, answered := x.Answer(clientPacket)
	return fmt.Sprintf("%+v %v %d %d %q %d", x.See(), served, indicator, e, answer, answered)
}

func TestExampleOfAServerThatSteps(t *testing.T) {
	x := serverFrom(t, api.Config{Fresh: 1, Start: api.Time{Sec: 2287785608}})
	if e, n := x.Load(printed); e != api.OK || n != 0 {
		t.Fatalf("P11: Load(T) = %d, %d", e, n)
	}
	for i, want := range []string{"2287785598 1", "2287785599 1", "2287785599 1", "2287785600 0"} {
		served, indicator, e := x.Now()
		if got := fmt.Sprint(served.Sec, " ", indicator); got != want || served.Frac != 0 || e != api.OK {
			t.Errorf("P12: Now, %d seconds on = %v, %d, %d, want %s", i, served, indicator, e, want)
		}
		if e := x.Advance(api.Time{Sec: 1}); e != api.OK {
			t.Errorf("P10: Advance = %d", e)
		}
	}
}

// TestExamplesOfServersThatSmear has each time that the document tells, seconds and parts behind Begin.
func TestExamplesOfServersThatSmear(t *testing.T) {
	for _, c := range []struct {
		mode, sec, frac int
		want            api.Time
	}{
		{api.Linear, 0, 0, api.Time{Sec: 2287742400}}, {api.Linear, 0, 1, api.Time{Sec: 2287742400}},
		{api.Linear, 0, 86400, api.Time{Sec: 2287742400, Frac: 86399}}, {api.Linear, 21600, 0, api.Time{Sec: 2287763999, Frac: 3221225472}},
		{api.Linear, 43200, 0, api.Time{Sec: 2287785599, Frac: 2147483648}}, {api.Smooth, 0, 0, api.Time{Sec: 2287742400}},
		{api.Smooth, 21600, 0, api.Time{Sec: 2287763999, Frac: 3623878656}}, {api.Smooth, 43200, 0, api.Time{Sec: 2287785599, Frac: 2147483648}},
	} {
		x := serverFrom(t, api.Config{Mode: c.mode, Window: 86400, Fresh: 1, Start: api.Time{Sec: 2287000000}})
		x.Load(printed)
		if got := fmt.Sprint(x.See().Coming); got != "[{2287785600 11 {2287742410 0} false}]" {
			t.Errorf("P11: Coming = %s", got)
		}
		x.Advance(api.Time{Sec: 742410})
		if got := x.See(); len(got.Done) != 2 || len(got.Coming) != 0 {
			t.Errorf("P11: at Begin: %+v", got)
		}
		x.Advance(api.Time{Sec: c.sec, Frac: c.frac})
		if got, indicator, e := x.Now(); got != c.want || indicator != 0 || e != api.OK {
			t.Errorf("P13: Now, mode %d, %d seconds and %d parts behind Begin = %v, %d, %d, want %v", c.mode, c.sec, c.frac, got, indicator, e, c.want)
		}
	}
}

func TestServersWithoutATable(t *testing.T) {
	x := serverFrom(t, api.Config{Fresh: 1})
	want := "{Now:{Sec:0 Frac:0} Loaded:false Update:0 Expiry:0 Done:[] Coming:[] Refused:0} {0 0} 3 8 "
	if got := seen(x); !strings.HasPrefix(got, want) {
		t.Errorf("P9, P12: a new server: %s, want %s", got, want)
	}
}

func TestConfigurationsAtAllNumbers(t *testing.T) {
	for _, n := range numbers {
		for k, c := range []api.Config{
			{Mode: n, Fresh: 1}, {Mode: n, Window: 3600, Fresh: 1}, {Window: n, Fresh: 1}, {Mode: api.Linear, Window: n, Fresh: 1},
			{Mode: api.Smooth, Window: n, Fresh: 1}, {Sources: n, Fresh: 1}, {Fresh: n},
			{Fresh: 1, Start: api.Time{Sec: n}}, {Fresh: 1, Start: api.Time{Frac: n}},
		} {
			even := n%2 == 0 && n >= 3600 && n <= 604800
			good := []bool{n == 0, n == 1 || n == 2, n == 0, even, even, n >= 0 && n <= 8, n >= 1 && n <= 604800,
				n >= 0 && n <= 34000000000, n >= 0 && n <= 4294967295}[k]
			x, e := smear.New(c)
			if good != (e == api.OK) || good != (x != nil) || !good && e != api.ErrConfig {
				t.Errorf("P9: New(%+v) = %v, %d", c, x, e)
			}
		}
	}
}

func TestAdvanceAtAllNumbers(t *testing.T) {
	for _, sec := range numbers {
		for _, frac := range numbers {
			for _, x := range exampleServers(t) {
				checkAdvance(t, x, sec, frac)
			}
		}
	}
}

func checkAdvance(t *testing.T, x *smear.Server, sec int, frac int) {
	t.Helper()
	before := seen(x)
	good := sec >= 0 && sec <= 34000000000-x.See().Now.Sec && frac >= 0 && frac <= 4294967295
	e := x.Advance(api.Time{Sec: sec, Frac: frac})
	if good != (e == api.OK) || !good && e != api.ErrTime {
		t.Errorf("P10: Advance(%d, %d) = %d", sec, frac, e)
	}
	if !good && seen(x) != before {
		t.Errorf("P2: Advance(%d, %d) was refused and turned %s to %s", sec, frac, before, seen(x))
	}
}

func TestLoadAtAllTexts(t *testing.T) {
	for _, text := range texts {
		for _, x := range exampleServers(t) {
			checkLoad(t, x, text)
		}
	}
}

// checkLoad hands in a text that is the server's own file, or none.
func checkLoad(t *testing.T, x *smear.Server, text string) {
	t.Helper()
	want := x.See()
	served, _, _ := x.Now()
	_, parsed, line := smear.Parse(text)
	e, n := x.Load(text)
	if e != parsed || n != line {
		t.Errorf("P11: Load(%.20q...) = %d, %d, Parse says %d, %d", text, e, n, parsed, line)
	}
	if e != api.OK {
		want.Refused++
	}
	if fmt.Sprint(x.See()) != fmt.Sprint(want) {
		t.Errorf("P11: Load(%.20q...) made %+v, want %+v", text, x.See(), want)
	}
	if now, _, _ := x.Now(); now != served {
		t.Errorf("P13: Load(%.20q...) turned Now from %v to %v", text, served, now)
	}
}

// TestLookingChangesNothing looks once at one server, and often at the other.
func TestLookingChangesNothing(t *testing.T) {
	often, once := exampleServers(t), exampleServers(t)
	for k, x := range often {
		y := once[k]
		for i := range 20 {
			for range 5 {
				seen(x)
			}
			x.Advance(api.Time{Sec: 1, Frac: 1 << 31})
			y.Advance(api.Time{Sec: 1, Frac: 1 << 31})
			if seen(x) != seen(y) {
				t.Fatalf("P2: %d steps on: %s, where nobody looked %s", i, seen(x), seen(y))
			}
		}
	}
}

// TestListsAreTheCallers writes into what See handed out, and over its end.
func TestListsAreTheCallers(t *testing.T) {
	written, kept := exampleServers(t), exampleServers(t)
	for k := range written {
		checkCallersLists(t, written[k], kept[k])
	}
}

func checkCallersLists(t *testing.T, x *smear.Server, y *smear.Server) {
	t.Helper()
	for range 3 {
		first, second := x.See(), x.See()
		want := fmt.Sprint(second)
		for i := range first.Done {
			first.Done[i] = api.Leap{At: 5, Offset: 5}
		}
		for i := range first.Coming {
			first.Coming[i] = api.Coming{At: 5, Offset: 5, Begin: api.Time{Sec: 1}, Voted: true}
		}
		_ = append(first.Done, api.Leap{At: 6})
		_ = append(first.Coming, api.Coming{At: 6})
		if fmt.Sprint(second) != want {
			t.Errorf("P2: two answers of See share memory: %+v", second)
		}
		if seen(x) != seen(y) {
			t.Errorf("P2: what See handed out is the server's: %s, want %s", seen(x), seen(y))
		}
		x.Advance(api.Time{Sec: 5})
		y.Advance(api.Time{Sec: 5})
	}
}

// TestAnswersStay has lists that were handed out before the server went on.
func TestAnswersStay(t *testing.T) {
	x := exampleServer(t)
	before := x.See()
	want := fmt.Sprint(before)
	x.Advance(api.Time{Sec: 20})
	x.Load(printed)
	if fmt.Sprint(before) != want {
		t.Errorf("P2: what See told turned to %v, was %s", before, want)
	}
}

// TestServersAreApart goes on with one server, and looks at another.
func TestServersAreApart(t *testing.T) {
	x, y := exampleServer(t), exampleServer(t)
	want := seen(y)
	x.Advance(api.Time{Sec: 11})
	x.Load("x")
	x.Load(printed)
	x.Hear(0, 1)
	if seen(y) != want {
		t.Errorf("P2: another server turned to %s, was %s", seen(y), want)
	}
	if seen(x) == want {
		t.Errorf("P10, P11: a server did not turn: %s", want)
	}
}

// TestFilesAreNotKept writes over the bytes of a file that was taken.
func TestFilesAreNotKept(t *testing.T) {
	x := serverFrom(t, api.Config{Fresh: 1, Start: api.Time{Sec: 2287785608}})
	data := []byte(printed)
	if e, n := x.Load(unsafe.String(&data[0], len(data))); e != api.OK || n != 0 {
		t.Fatalf("P11: Load(T) = %d, %d", e, n)
	}
	if string(data) != printed {
		t.Error("P2: Load wrote into the file")
	}
	want := seen(x)
	for i := range data {
		data[i] = '7'
	}
	if seen(x) != want {
		t.Errorf("P2: the file was kept: %s, was %s", seen(x), want)
	}
}

func TestExampleOfAServerWithSources(t *testing.T) {
	x := serverFrom(t, api.Config{Sources: 3, Fresh: 1, Start: api.Time{Sec: 2400000100}})
	if e, n := x.Load(printed); e != api.OK || n != 0 {
		t.Fatalf("P11: Load(T) = %d, %d", e, n)
	}
	one := "[{2400969600 12 {2400969611 0} true}]"
	for _, c := range []struct {
		source, leap int
		want         string
	}{{0, 1, one}, {1, 1, one}, {2, 0, one}, {1, 3, "[]"}} {
		if e := x.Hear(c.source, c.leap); e != api.OK {
			t.Errorf("P14: Hear(%d, %d) = %d", c.source, c.leap, e)
		}
		if got := fmt.Sprint(x.See().Coming); got != c.want {
			t.Errorf("P14: Coming behind Hear(%d, %d) = %s, want %s", c.source, c.leap, got, c.want)
		}
	}
}

func TestHearAtAllNumbers(t *testing.T) {
	for _, source := range numbers {
		for _, leap := range numbers {
			for _, x := range append(exampleServers(t), askedServers(t)...) {
				checkHear(t, x, source, leap)
			}
		}
	}
}

func checkHear(t *testing.T, x *smear.Server, source int, leap int) {
	t.Helper()
	before := seen(x)
	want := api.OK
	if source < 0 || source > 2 {
		want = api.ErrSource
	} else if leap < 0 || leap > 3 {
		want = api.ErrPacket
	}
	if e := x.Hear(source, leap); e != want {
		t.Errorf("P14: Hear(%d, %d) = %d, want %d", source, leap, e, want)
	}
	if want != api.OK && seen(x) != before {
		t.Errorf("P2: Hear(%d, %d) was refused and turned %s to %s", source, leap, before, seen(x))
	}
}

func TestAnswerAtAllTexts(t *testing.T) {
	all := append([]string{clientPacket, clientPacket[:48], clientPacket[:47], clientPacket + "x"}, texts...)
	for _, text := range all {
		for _, x := range append(exampleServers(t), serverFrom(t, api.Config{Fresh: 1})) {
			before := seen(x)
			s, e := x.Answer(text)
			good := len(text) >= 48 && (text == clientPacket || text == clientPacket[:48] || text == "\x1b"+strings.Repeat("\x00", 47))
			if good != (e == api.OK) || good != (len(s) == 48) || !good && (s != "" || e != api.ErrPacket) {
				t.Errorf("P15: Answer(%.20q...) of %d bytes = %q, %d", text, len(text), s, e)
			}
			if seen(x) != before {
				t.Errorf("P2: Answer(%.20q...) turned %s to %s", text, before, seen(x))
			}
		}
	}
}

// TestExampleOfAnAnswer has each byte, by hand: half an hour into a smooth window of two hours.
func TestExampleOfAnAnswer(t *testing.T) {
	x := serverFrom(t, api.Config{Mode: api.Smooth, Window: 7200, Fresh: 1, Start: api.Time{Sec: 2287785610 - 3600}})
	empty := "\xdc\x00\x06\xec" + strings.Repeat("\x00", 8) + "INIT" + strings.Repeat("\x00", 8) + "abcdefgh" + strings.Repeat("\x00", 16)
	if s, e := x.Answer(clientPacket); s != empty || e != api.OK {
		t.Errorf("P15: Answer without a table = %q, %d", s, e)
	}
	x.Load(printed)
	x.Advance(api.Time{Sec: 1800})
	// 2287783799 seconds and 3623878656 parts are served.
	when := "\x88\x5c\xcf\x77\xd8\x00\x00\x00"
	full := "\x1c\x01\x06\xec" + strings.Repeat("\x00", 8) + "LEAP" + when + "abcdefgh" + when + when
	if s, e := x.Answer(clientPacket); s != full || e != api.OK {
		t.Errorf("P15: Answer in a window = %q, %d, want %q", s, e, full)
	}
}

// TestPacketsAreNotKept writes over the bytes of a packet that was answered.
func TestPacketsAreNotKept(t *testing.T) {
	x := exampleServer(t)
	data := []byte(clientPacket)
	s, e := x.Answer(unsafe.String(&data[0], len(data)))
	if e != api.OK || string(data) != clientPacket {
		t.Fatalf("P2: Answer = %d, and the packet is %q", e, data)
	}
	want := strings.Clone(s)
	for i := range data {
		data[i] = '7'
	}
	if s != want {
		t.Errorf("P2: the answer is the packet's memory: %q, was %q", s, want)
	}
}

// TestLookingAtVotesChangesNothing looks often at one server with sources, and not at the other; they hear the same.
func TestLookingAtVotesChangesNothing(t *testing.T) {
	often, once := askedServers(t), askedServers(t)
	for k, x := range often {
		y := once[k]
		for i := range 40 {
			for range 5 {
				seen(x)
			}
			source, leap := i%3, []int{1, 1, 0, 1, 3, 2, 2}[i%7]
			x.Hear(source, leap)
			y.Hear(source, leap)
			x.Advance(api.Time{Sec: 7, Frac: 1 << 31})
			y.Advance(api.Time{Sec: 7, Frac: 1 << 31})
			if seen(x) != seen(y) {
				t.Fatalf("P2: %d steps on: %s, where nobody looked %s", i, seen(x), seen(y))
			}
		}
	}
}

// TestVotedListsAreTheCallers writes into what See told of entries that sources said.
func TestVotedListsAreTheCallers(t *testing.T) {
	written, kept := askedServers(t), askedServers(t)
	for k, x := range written {
		y := kept[k]
		x.Hear(0, 1)
		y.Hear(0, 1)
		if got := x.See().Coming; len(got) != 1 || !got[0].Voted {
			t.Errorf("P14: Coming = %v", got)
		}
		for range 10 {
			checkCallersLists(t, x, y)
		}
	}
}
