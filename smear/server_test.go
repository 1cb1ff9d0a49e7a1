package smear_test

import (
	"fmt"
	"testing"
	"unsafe"

	"smear/api"
	"smear/smear"
)

func serverFrom(t *testing.T, c api.Config) *smear.Server {
	t.Helper()
	x, e := smear.New(c)
	if x == nil || e != api.OK {
		t.Fatalf("P9: New(%+v) = %v, %d", c, x, e)
	}
	return x
}

// exampleServer steps, from ten seconds of the clock ahead of a second that is put in.
func exampleServer(t *testing.T) *smear.Server {
	t.Helper()
	x := serverFrom(t, api.Config{Sources: 3, Fresh: 60, Start: api.Time{Sec: 2287785600, Frac: 5}})
	if e, n := x.Load(printed); e != api.OK || n != 0 {
		t.Fatalf("P11: Load(T) = %d, %d", e, n)
	}
	return x
}

// exampleServers has one of each mode; those that smear have their window open already, or soon.
func exampleServers(t *testing.T) []*smear.Server {
	t.Helper()
	all := []*smear.Server{exampleServer(t)}
	for _, mode := range []int{api.Linear, api.Smooth} {
		for _, sec := range []int{2287785600, 2287785610 - 1802} {
			x := serverFrom(t, api.Config{Mode: mode, Window: 3600, Fresh: 60, Start: api.Time{Sec: sec, Frac: 5}})
			if e, n := x.Load(printed); e != api.OK || n != 0 {
				t.Fatalf("P11: Load(T) = %d, %d", e, n)
			}
			all = append(all, x)
		}
	}
	return all
}

// seen is all that a server shows.
func seen(x *smear.Server) string {
	served, indicator, e := x.Now()
	return fmt.Sprintf("%+v %v %d %d", x.See(), served, indicator, e)
}

func TestExampleOfAServerThatSteps(t *testing.T) {
	x := serverFrom(t, api.Config{Fresh: 1, Start: api.Time{Sec: 2287785608}})
	if e, n := x.Load(printed); e != api.OK || n != 0 {
		t.Fatalf("P11: Load(T) = %d, %d", e, n)
	}
	for i, want := range []string{"2287785598 1", "2287785599 1", "2287785599 1", "2287785600 0"} {
		served, indicator, e := x.Now()
		if got := fmt.Sprint(served.Sec, " ", indicator); got != want || served.Frac != 0 || e != api.OK {
			t.Errorf("P12: Now, %d seconds on = %v, %d, %d, want %s", i, served, indicator, e, want)
		}
		if e := x.Advance(api.Time{Sec: 1}); e != api.OK {
			t.Errorf("P10: Advance = %d", e)
		}
	}
}

// TestExamplesOfServersThatSmear has each time that the document tells, seconds and parts behind Begin.
func TestExamplesOfServersThatSmear(t *testing.T) {
	for _, c := range []struct {
		mode, sec, frac int
		want            api.Time
	}{
		{api.Linear, 0, 0, api.Time{Sec: 2287742400}}, {api.Linear, 0, 1, api.Time{Sec: 2287742400}},
		{api.Linear, 0, 86400, api.Time{Sec: 2287742400, Frac: 86399}}, {api.Linear, 21600, 0, api.Time{Sec: 2287763999, Frac: 3221225472}},
		{api.Linear, 43200, 0, api.Time{Sec: 2287785599, Frac: 2147483648}}, {api.Smooth, 0, 0, api.Time{Sec: 2287742400}},
		{api.Smooth, 21600, 0, api.Time{Sec: 2287763999, Frac: 3623878656}}, {api.Smooth, 43200, 0, api.Time{Sec: 2287785599, Frac: 2147483648}},
	} {
		x := serverFrom(t, api.Config{Mode: c.mode, Window: 86400, Fresh: 1, Start: api.Time{Sec: 2287000000}})
		x.Load(printed)
		if got := fmt.Sprint(x.See().Coming); got != "[{2287785600 11 {2287742410 0} false}]" {
			t.Errorf("P11: Coming = %s", got)
		}
		x.Advance(api.Time{Sec: 742410})
		if got := x.See(); len(got.Done) != 2 || len(got.Coming) != 0 {
			t.Errorf("P11: at Begin: %+v", got)
		}
		x.Advance(api.Time{Sec: c.sec, Frac: c.frac})
		if got, indicator, e := x.Now(); got != c.want || indicator != 0 || e != api.OK {
			t.Errorf("P13: Now, mode %d, %d seconds and %d parts behind Begin = %v, %d, %d, want %v", c.mode, c.sec, c.frac, got, indicator, e, c.want)
		}
	}
}

func TestServersWithoutATable(t *testing.T) {
	x := serverFrom(t, api.Config{Fresh: 1})
	want := "{Now:{Sec:0 Frac:0} Loaded:false Update:0 Expiry:0 Done:[] Coming:[] Refused:0} {0 0} 3 8"
	if got := seen(x); got != want {
		t.Errorf("P9, P12: a new server: %s, want %s", got, want)
	}
}

func TestConfigurationsAtAllNumbers(t *testing.T) {
	for _, n := range numbers {
		for k, c := range []api.Config{
			{Mode: n, Fresh: 1}, {Mode: n, Window: 3600, Fresh: 1}, {Window: n, Fresh: 1}, {Mode: api.Linear, Window: n, Fresh: 1},
			{Mode: api.Smooth, Window: n, Fresh: 1}, {Sources: n, Fresh: 1}, {Fresh: n},
			{Fresh: 1, Start: api.Time{Sec: n}}, {Fresh: 1, Start: api.Time{Frac: n}},
		} {
			even := n%2 == 0 && n >= 3600 && n <= 604800
			good := []bool{n == 0, n == 1 || n == 2, n == 0, even, even, n >= 0 && n <= 8, n >= 1 && n <= 604800,
				n >= 0 && n <= 34000000000, n >= 0 && n <= 4294967295}[k]
			x, e := smear.New(c)
			if good != (e == api.OK) || good != (x != nil) || !good && e != api.ErrConfig {
				t.Errorf("P9: New(%+v) = %v, %d", c, x, e)
			}
		}
	}
}

func TestAdvanceAtAllNumbers(t *testing.T) {
	for _, sec := range numbers {
		for _, frac := range numbers {
			for _, x := range exampleServers(t) {
				checkAdvance(t, x, sec, frac)
			}
		}
	}
}

func checkAdvance(t *testing.T, x *smear.Server, sec int, frac int) {
	t.Helper()
	before := seen(x)
	good := sec >= 0 && sec <= 34000000000-x.See().Now.Sec && frac >= 0 && frac <= 4294967295
	e := x.Advance(api.Time{Sec: sec, Frac: frac})
	if good != (e == api.OK) || !good && e != api.ErrTime {
		t.Errorf("P10: Advance(%d, %d) = %d", sec, frac, e)
	}
	if !good && seen(x) != before {
		t.Errorf("P2: Advance(%d, %d) was refused and turned %s to %s", sec, frac, before, seen(x))
	}
}

func TestLoadAtAllTexts(t *testing.T) {
	for _, text := range texts {
		for _, x := range exampleServers(t) {
			checkLoad(t, x, text)
		}
	}
}

// checkLoad hands in a text that is the server's own file, or none.
func checkLoad(t *testing.T, x *smear.Server, text string) {
	t.Helper()
	want := x.See()
	served, _, _ := x.Now()
	_, parsed, line := smear.Parse(text)
	e, n := x.Load(text)
	if e != parsed || n != line {
		t.Errorf("P11: Load(%.20q...) = %d, %d, Parse says %d, %d", text, e, n, parsed, line)
	}
	if e != api.OK {
		want.Refused++
	}
	if fmt.Sprint(x.See()) != fmt.Sprint(want) {
		t.Errorf("P11: Load(%.20q...) made %+v, want %+v", text, x.See(), want)
	}
	if now, _, _ := x.Now(); now != served {
		t.Errorf("P13: Load(%.20q...) turned Now from %v to %v", text, served, now)
	}
}

// TestLookingChangesNothing looks once at one server, and often at the other.
func TestLookingChangesNothing(t *testing.T) {
	often, once := exampleServers(t), exampleServers(t)
	for k, x := range often {
		y := once[k]
		for i := range 20 {
			for range 5 {
				seen(x)
			}
			x.Advance(api.Time{Sec: 1, Frac: 1 << 31})
			y.Advance(api.Time{Sec: 1, Frac: 1 << 31})
			if seen(x) != seen(y) {
				t.Fatalf("P2: %d steps on: %s, where nobody looked %s", i, seen(x), seen(y))
			}
		}
	}
}

// TestListsAreTheCallers writes into what See handed out, and over its end.
func TestListsAreTheCallers(t *testing.T) {
	written, kept := exampleServers(t), exampleServers(t)
	for k := range written {
		checkCallersLists(t, written[k], kept[k])
	}
}

func checkCallersLists(t *testing.T, x *smear.Server, y *smear.Server) {
	t.Helper()
	for range 3 {
		first, second := x.See(), x.See()
		want := fmt.Sprint(second)
		for i := range first.Done {
			first.Done[i] = api.Leap{At: 5, Offset: 5}
		}
		for i := range first.Coming {
			first.Coming[i] = api.Coming{At: 5, Offset: 5, Begin: api.Time{Sec: 1}, Voted: true}
		}
		_ = append(first.Done, api.Leap{At: 6})
		_ = append(first.Coming, api.Coming{At: 6})
		if fmt.Sprint(second) != want {
			t.Errorf("P2: two answers of See share memory: %+v", second)
		}
		if seen(x) != seen(y) {
			t.Errorf("P2: what See handed out is the server's: %s, want %s", seen(x), seen(y))
		}
		x.Advance(api.Time{Sec: 5})
		y.Advance(api.Time{Sec: 5})
	}
}

// TestAnswersStay has lists that were handed out before the server went on.
func TestAnswersStay(t *testing.T) {
	x := exampleServer(t)
	before := x.See()
	want := fmt.Sprint(before)
	x.Advance(api.Time{Sec: 20})
	x.Load(printed)
	if fmt.Sprint(before) != want {
		t.Errorf("P2: what See told turned to %v, was %s", before, want)
	}
}

// TestServersAreApart goes on with one server, and looks at another.
func TestServersAreApart(t *testing.T) {
	x, y := exampleServer(t), exampleServer(t)
	want := seen(y)
	x.Advance(api.Time{Sec: 11})
	x.Load("x")
	x.Load(printed)
	if seen(y) != want {
		t.Errorf("P2: another server turned to %s, was %s", seen(y), want)
	}
	if seen(x) == want {
		t.Errorf("P10, P11: a server did not turn: %s", want)
	}
}

// TestFilesAreNotKept writes over the bytes of a file that was taken.
func TestFilesAreNotKept(t *testing.T) {
	x := serverFrom(t, api.Config{Fresh: 1, Start: api.Time{Sec: 2287785608}})
	data := []byte(printed)
	if e, n := x.Load(unsafe.String(&data[0], len(data))); e != api.OK || n != 0 {
		t.Fatalf("P11: Load(T) = %d, %d", e, n)
	}
	if string(data) != printed {
		t.Error("P2: Load wrote into the file")
	}
	want := seen(x)
	for i := range data {
		data[i] = '7'
	}
	if seen(x) != want {
		t.Errorf("P2: the file was kept: %s, was %s", seen(x), want)
	}
}
