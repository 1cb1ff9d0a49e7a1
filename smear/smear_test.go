package smear_test

import (
	"crypto/sha1"
	"fmt"
	"math"
	"reflect"
	"strings"
	"testing"
	"time"
	"unsafe"

	"smear/api"
	"smear/smear"
)

// Numbers at the edges of days, months, years, and of what an int can hold.
var numbers = []int{0, 1, 2, 3, 12, 13, 28, 29, 30, 31, 32, 86399, 86400, 1899, 1900, 1904, 2000, 2100, 2999, 3000,
	401766, 401767, 2272060800, 2287785610, api.MaxSec, api.MaxSec + 1, 1 << 31, 1 << 32, 1 << 62,
	math.MaxInt - 1, math.MaxInt, -1, -2, -31, -1900, -401766, -1 << 31, -1 << 32, -1 << 62, math.MinInt + 1, math.MinInt}

var texts = []string{"", "\n", "#", "#$", "#@ ", "#h", "#$ 1\n#@ 2\n", "0 0", "\x00\xff", "\t \t", "abc",
	printed,
	"#$ 99999999999\n#@ 99999999999\n99999999999 99999999999\n", "#$ 999999999999999999999999999999",
	strings.Repeat("\n", api.MaxText), strings.Repeat("9", api.MaxText+1), strings.Repeat("#h ", 5000),
	"\x1b" + strings.Repeat("\x00", 47), "\xe3" + strings.Repeat("\xff", 299)}

// tables makes fresh ones: right ones, empty ones, and ones of no sense.
func tables() []api.Table {
	all := []api.Table{
		{},
		exampleTable(),
		{Update: math.MinInt, Expiry: math.MaxInt, Leaps: []api.Leap{{At: math.MaxInt, Offset: math.MaxInt}, {At: math.MinInt, Offset: math.MinInt}}},
		{Update: 0, Expiry: 1, Leaps: make([]api.Leap, api.MaxLeaps)},
		{Update: 0, Expiry: 1, Leaps: make([]api.Leap, 1000)},
		{Update: 0, Expiry: 1, Leaps: []api.Leap{}},
	}
	for _, n := range numbers {
		all = append(all, api.Table{Update: n, Expiry: n, Leaps: []api.Leap{{At: n, Offset: n}}})
	}
	return all
}

func TestErrorNumbers(t *testing.T) {
	all := []api.Errno{api.OK, api.ErrDate, api.ErrLong, api.ErrText, api.ErrTwice, api.ErrEntry, api.ErrMissing, api.ErrHash,
		api.ErrTable, api.ErrTime, api.ErrConfig, api.ErrOld, api.ErrAgree, api.ErrSource, api.ErrPacket}
	for i, e := range all {
		if int(e) != i {
			t.Errorf("Words: the error %d has the number %d", i, e)
		}
	}
}

func TestBounds(t *testing.T) {
	got := []int{api.MaxDays, api.MaxSec, api.MaxText, api.MaxLeaps, api.MaxOffset, api.MaxSource, api.MinWindow, api.MaxWindow, api.MaxPacket}
	want := []int{401767, 34000000000, 2000, 40, 200, 8, 3600, 604800, 300}
	if !reflect.DeepEqual(got, want) {
		t.Errorf("Words: the bounds are %d, want %d", got, want)
	}
}

func TestExamples(t *testing.T) {
	days := []struct {
		y, m, d, day int
		e            api.Errno
	}{{1900, 1, 1, 0, api.OK}, {2999, 12, 31, 401766, api.OK}, {1900, 2, 29, 0, api.ErrDate}, {2000, 2, 29, 36583, api.OK}}
	for _, c := range days {
		if day, e := smear.Day(c.y, c.m, c.d); e != c.e || day != c.day {
			t.Errorf("P3: Day(%d, %d, %d) = %d, %d, want %d, %d", c.y, c.m, c.d, day, e, c.day, c.e)
		}
	}
	if y, m, d, e := smear.Civil(36583); y != 2000 || m != 2 || d != 29 || e != api.OK {
		t.Errorf("P3: Civil(36583) = %d, %d, %d, %d", y, m, d, e)
	}
	if text := smear.Digest("abc"); text != "a9993e364706816aba3e25717850c26c9cd0d89d" {
		t.Errorf("P4: Digest(abc) = %q", text)
	}
	if text := smear.Digest(""); text != "da39a3ee5e6b4b0d3255bfef95601890afd80709" {
		t.Errorf("P4: Digest of nothing = %q", text)
	}
}

// printed is the file of the document's table T.
const printed = "#$ 2272060800\n#@ 2400000000\n2272060800 10\n2287785600 11\n#h 7679b25e 31e5a773 1a6a8652 3cab6ca6 41f6a862\n"

// exampleTable is the document's table T.
func exampleTable() api.Table {
	return api.Table{Update: 2272060800, Expiry: 2400000000, Leaps: []api.Leap{{At: 2272060800, Offset: 10}, {At: 2287785600, Offset: 11}}}
}

func TestExampleOfAFile(t *testing.T) {
	if text, e := smear.Print(exampleTable()); text != printed || e != api.OK {
		t.Errorf("P6: Print(T) = %q, %d", text, e)
	}
	if table, e, n := smear.Parse(printed); e != api.OK || n != 0 || !reflect.DeepEqual(table, exampleTable()) {
		t.Errorf("P5: Parse(Print(T)) = %v, %d, %d", table, e, n)
	}
	if table, e, n := smear.Parse(printed + "\n# x\nx\n"); e != api.ErrText || n != 7 || !reflect.DeepEqual(table, api.Table{}) {
		t.Errorf("P5: Parse of a line that is none = %v, %d, %d", table, e, n)
	}
}

func TestExampleOfLabels(t *testing.T) {
	for sec, want := range map[int]int{2287785609: 10, 2287785610: 11} {
		if offset, e := smear.Offset(exampleTable(), sec); offset != want || e != api.OK {
			t.Errorf("P7: Offset(T, %d) = %d, %d", sec, offset, e)
		}
	}
	for _, c := range []struct {
		sec, day, second int
		e                api.Errno
	}{{2287785610, 26478, 86400, api.OK}, {2287785611, 26479, 0, api.OK}, {2272060809, 0, 0, api.ErrTime}} {
		if day, second, e := smear.Label(exampleTable(), c.sec); day != c.day || second != c.second || e != c.e {
			t.Errorf("P8: Label(T, %d) = %d, %d, %d", c.sec, day, second, e)
		}
	}
	if sec, e := smear.Second(exampleTable(), 26478, 86400); sec != 2287785610 || e != api.OK {
		t.Errorf("P8: Second(T, 26478, 86400) = %d, %d", sec, e)
	}
	if sec, e := smear.Second(exampleTable(), 26477, 86400); sec != 0 || e != api.ErrTime {
		t.Errorf("P8: Second(T, 26477, 86400) = %d, %d", sec, e)
	}
}

// isDate asks the library's calendar, within bounds at which it cannot overflow.
func isDate(y int, m int, d int) bool {
	if y < 1900 || y > 2999 || m < 1 || m > 12 || d < 1 || d > 31 {
		return false
	}
	return time.Date(y, time.Month(m), d, 0, 0, 0, 0, time.UTC).Day() == d
}

func TestDayAtAllNumbers(t *testing.T) {
	for _, y := range numbers {
		for _, m := range numbers {
			for _, d := range numbers {
				day, e := smear.Day(y, m, d)
				want := api.ErrDate
				if isDate(y, m, d) {
					want = api.OK
				}
				if e != want || e != api.OK && day != 0 {
					t.Fatalf("P1, P3: Day(%d, %d, %d) = %d, %d, want the error %d", y, m, d, day, e, want)
				}
			}
		}
	}
}

func TestCivilAtAllNumbers(t *testing.T) {
	for _, n := range numbers {
		y, m, d, e := smear.Civil(n)
		if n < 0 || n > 401766 {
			if e != api.ErrDate || y != 0 || m != 0 || d != 0 {
				t.Errorf("P1, P3: Civil(%d) = %d, %d, %d, %d", n, y, m, d, e)
			}
			continue
		}
		at := time.Date(1900, 1, 1+n, 0, 0, 0, 0, time.UTC)
		if e != api.OK || y != at.Year() || m != int(at.Month()) || d != at.Day() {
			t.Errorf("P3: Civil(%d) = %d, %d, %d, %d, want %s", n, y, m, d, e, at)
		}
	}
}

func TestDigestAtAllTexts(t *testing.T) {
	for _, text := range texts {
		want := fmt.Sprintf("%x", sha1.Sum([]byte(text)))
		if got := smear.Digest(text); got != want {
			t.Errorf("P4: Digest(%.20q...) of %d bytes = %q, want %q", text, len(text), got, want)
		}
	}
}

func TestNothingBesideAnErrorOfAText(t *testing.T) {
	for _, text := range texts {
		table, e, _ := smear.Parse(text)
		if e != api.OK && (table.Update != 0 || table.Expiry != 0 || len(table.Leaps) != 0) {
			t.Errorf("P1: Parse(%.20q...) = %v beside the error %d", text, table, e)
		}
	}
}

func TestNothingBesideAnErrorOfATable(t *testing.T) {
	for _, table := range tables() {
		if text, e := smear.Print(table); e != api.OK && text != "" {
			t.Errorf("P1: Print(%v) = %q beside the error %d", table, text, e)
		}
		for _, n := range numbers {
			if o, e := smear.Offset(table, n); e != api.OK && o != 0 {
				t.Errorf("P1: Offset(%v, %d) = %d beside the error %d", table, n, o, e)
			}
			if day, s, e := smear.Label(table, n); e != api.OK && (day != 0 || s != 0) {
				t.Errorf("P1: Label(%v, %d) = %d, %d beside the error %d", table, n, day, s, e)
			}
			for _, k := range numbers {
				if s, e := smear.Second(table, n, k); e != api.OK && s != 0 {
					t.Errorf("P1: Second(%v, %d, %d) = %d beside the error %d", table, n, k, s, e)
				}
			}
		}
	}
}

func TestNoServerBesideAnError(t *testing.T) {
	for _, n := range numbers {
		for _, k := range numbers {
			c := api.Config{Mode: n, Window: k, Sources: n, Fresh: k, Start: api.Time{Sec: n, Frac: k}}
			if x, e := smear.New(c); e != api.OK && x != nil {
				t.Errorf("P1: New(%v) made a server beside the error %d", c, e)
			}
		}
	}
}

func TestTablesStayAsTheyAre(t *testing.T) {
	before := tables()
	after := tables()
	for _, table := range after {
		smear.Print(table)
		for _, n := range numbers {
			smear.Offset(table, n)
			smear.Label(table, n)
			smear.Second(table, n, n)
		}
	}
	if !reflect.DeepEqual(before, after) {
		t.Error("P2: a table that was handed in was written into")
	}
}

// TestDataStaysAsItIs looks behind the string at the bytes that it is made of.
func TestDataStaysAsItIs(t *testing.T) {
	for _, n := range []int{1, 55, 56, 63, 64, 65, 120, 1000} {
		data := []byte(strings.Repeat("z", n))
		digest := smear.Digest(unsafe.String(&data[0], n))
		want := strings.Clone(digest)
		if string(data) != strings.Repeat("z", n) {
			t.Errorf("P2: Digest wrote into %d bytes that were handed in", n)
		}
		for i := range data {
			data[i] = 'y'
		}
		if digest != want {
			t.Errorf("P2: the digest of %d bytes changed with the bytes", n)
		}
		if again := smear.Digest(string(data)); again == want {
			t.Errorf("P2: Digest kept %d bytes from the call before", n)
		}
	}
}

// TestCallsLeaveNoTrace asks again behind other calls, right and wrong ones.
func TestCallsLeaveNoTrace(t *testing.T) {
	first := smear.Digest("abc")
	for _, n := range numbers {
		smear.Civil(n)
		smear.Day(n, n, n)
		smear.Digest(strings.Repeat("a", n&255))
		if again := smear.Digest("abc"); again != first {
			t.Fatalf("P2: Digest(abc) = %q behind other calls, %q at first", again, first)
		}
		if day, e := smear.Day(2000, 2, 29); e != api.OK || day != 36583 {
			t.Fatalf("P2: Day(2000, 2, 29) = %d, %d behind other calls", day, e)
		}
		if y, m, d, e := smear.Civil(36583); e != api.OK || y != 2000 || m != 2 || d != 29 {
			t.Fatalf("P2: Civil(36583) = %d, %d, %d, %d behind other calls", y, m, d, e)
		}
		smear.Parse(fmt.Sprintf("#$ %d\n#@ %d\n%d %d", n, n, n, n))
		smear.Print(api.Table{Update: n, Expiry: n, Leaps: []api.Leap{{At: n, Offset: n}}})
		if text, e := smear.Print(exampleTable()); text != printed || e != api.OK {
			t.Fatalf("P2: Print(T) = %q, %d behind other calls", text, e)
		}
		if table, e, k := smear.Parse(printed); e != api.OK || k != 0 || !reflect.DeepEqual(table, exampleTable()) {
			t.Fatalf("P2: Parse(Print(T)) = %v, %d, %d behind other calls", table, e, k)
		}
	}
}
