package file_test

import (
	"crypto/sha1"
	"fmt"
	"reflect"
	"strings"
	"testing"
	"unsafe"

	"smear/api"
	"smear/calendar"
	"smear/file"
)

const (
	update = "#$ 2272060800"
	expiry = "#@ 2400000000"
	first  = "2272060800 10"
	second = "2287785600 11"
	hash   = "#h 7679b25e 31e5a773 1a6a8652 3cab6ca6 41f6a862"
	filler = "#h 1 2 3 4 5" // a digest that stands right, but is that of nothing
)

func example() api.Table {
	return api.Table{Update: 2272060800, Expiry: 2400000000,
		Leaps: []api.Leap{{At: 2272060800, Offset: 10}, {At: 2287785600, Offset: 11}}}
}

func lines(l ...string) string { return strings.Join(l, "\n") }

// hashOf is the line of the digest of some digits.
func hashOf(digits string) string {
	h := fmt.Sprintf("%x", sha1.Sum([]byte(digits)))
	return fmt.Sprintf("#h %s %s %s %s %s", h[:8], h[8:16], h[16:24], h[24:32], h[32:])
}

// monthAt is the second of UTC at which the month begins that is that many months behind January 1960.
func monthAt(months int) int {
	day, _ := calendar.Day(1960+months/12, 1+months%12, 1)
	return 86400 * day
}

func wantTable(t *testing.T, text string, want api.Table) {
	t.Helper()
	got, e, n := file.Parse(text)
	if e != api.OK || n != 0 || !reflect.DeepEqual(got, want) {
		t.Errorf("P5: Parse(%q) = %v, %d, %d, want %v", text, got, e, n, want)
	}
}

func wantRefusal(t *testing.T, text string, want api.Errno, line int) {
	t.Helper()
	got, e, n := file.Parse(text)
	if e != want || n != line {
		t.Errorf("P5: Parse(%.200q) = %d, %d, want %d, %d", text, e, n, want, line)
	}
	if !reflect.DeepEqual(got, api.Table{}) {
		t.Errorf("P1: Parse(%.200q) = %v beside an error", text, got)
	}
}

func TestRightFiles(t *testing.T) {
	for _, text := range []string{
		lines(update, expiry, first, second, hash),
		lines(update, expiry, first, second, hash, ""),
		lines("", "#", "# a remark", "##$ 1", "#x", "#H 1", "# $", " ", "\t", update, " \t ", expiry, first, "#", second, hash, "", ""),
		lines("#$2272060800", "#@2400000000", first, second, "#h7679b25e 31e5a773 1a6a8652 3cab6ca6 41f6a862"),
		lines("#$\t 2272060800\t ", "#@ \t2400000000 \t", " 2272060800\t10", "\t2287785600  \t 11 ", "#h\t7679b25e  31e5a773\t1a6a8652 \t3cab6ca6 41f6a862 \t"),
		lines(update, expiry, first+" #", second+"\t# 1 Jul 1972", hash),
		lines(update, expiry, first+" #1 2 3 \x00\xff\r", second+" ## #", hash),
		lines(hash, update, expiry, first, second),
		lines(update, hash, expiry, first, second),
		lines(update, expiry, first, hash, second),
	} {
		wantTable(t, text, example())
	}
}

// TestOrderOfLines has the digest hang on where the lines stand.
func TestOrderOfLines(t *testing.T) {
	wantTable(t, lines(expiry, update, first, second, hashOf("2400000000"+"2272060800"+"227206080010"+"228778560011")), example())
	wantTable(t, lines(first, expiry, second, update, hashOf("227206080010"+"2400000000"+"228778560011"+"2272060800")), example())
	wantTable(t, lines(first, second, hashOf("227206080010"+"228778560011"+"2272060800"+"2400000000"), update, expiry), example())
	wantRefusal(t, lines(expiry, update, first, second, hash), api.ErrHash, 0)
	wantRefusal(t, lines(first, second, update, expiry, hash), api.ErrHash, 0)
}

func TestNoughtsAhead(t *testing.T) {
	wantTable(t, lines("#$ 02272060800", expiry, first, second, hashOf("02272060800"+"2400000000"+"227206080010"+"228778560011")), example())
	wantTable(t, lines(update, "#@ 02400000000", first, second, hashOf("2272060800"+"02400000000"+"227206080010"+"228778560011")), example())
	wantTable(t, lines(update, expiry, "02272060800 10", second, hashOf("2272060800"+"2400000000"+"0227206080010"+"228778560011")), example())
	wantTable(t, lines(update, expiry, first, "2287785600 00000000011", hashOf("2272060800"+"2400000000"+"227206080010"+"228778560000000000011")), example())
	for _, text := range []string{
		lines("#$ 02272060800", expiry, first, second, hash), lines(update, "#@ 02400000000", first, second, hash),
		lines(update, expiry, "02272060800 10", second, hash), lines(update, expiry, first, "2287785600 011", hash),
	} {
		wantRefusal(t, text, api.ErrHash, 0)
	}
	none := api.Table{Update: 0, Expiry: 1, Leaps: []api.Leap{{At: 0, Offset: 0}}}
	wantTable(t, lines("#$ 00000000000", "#@ 00000000001", "00000000000 00000000000", hashOf("00000000000"+"00000000001"+"00000000000"+"00000000000")), none)
	wantTable(t, lines("#$ 0", "#@ 1", "0 0", hashOf("0100")), none)
}

// TestShortWordsOfTheDigest has a file whose digest has words that begin with noughts.
func TestShortWordsOfTheDigest(t *testing.T) {
	met := 0
	for u := 0; u < 200; u++ {
		digits := fmt.Sprintf("%d%d%d%d", u, 34000000000, 2272060800, 10)
		want := api.Table{Update: u, Expiry: 34000000000, Leaps: []api.Leap{{At: 2272060800, Offset: 10}}}
		long := hashOf(digits)
		short := long
		for strings.Contains(short, " 0") {
			short = strings.ReplaceAll(short, " 0", " ")
		}
		if short != long {
			met++
		}
		top := fmt.Sprintf("#$ %d\n#@ 34000000000\n2272060800 10\n", u)
		wantTable(t, top+long, want)
		wantTable(t, top+short, want)
	}
	if met < 20 {
		t.Errorf("only %d digests had a word that begins with a nought", met)
	}
}

// TestNoughtsStandAhead has each word of the digest cut at its end, where no nought may be added.
func TestNoughtsStandAhead(t *testing.T) {
	for _, end := range []int{11, 20, 29, 38, 47} {
		wantRefusal(t, lines(update, expiry, first, second, hash[:end-1]+hash[end:]), api.ErrHash, 0)
	}
}

func TestLinesThatAreNone(t *testing.T) {
	for _, line := range []string{
		"#$", "#$ ", "#$ 1 2", "#$ 1 # 2", "#$ 1 #", "#$ -1", "#$ +1", "#$ x", "#$ 1x", "#$ x1", "#$ 1.", "#$ 0x1", "#$ 123456789012", "#$ 000000000001", "#$ 1\r", "#$\v1", "#$#", "#$$ 1", "#$ \xd9\xa1", "#$ 1\x00",
		"#@", "#@\t", "#@ 1 2", "#@ 1 # 2", "#@ -1", "#@ x", "#@ 123456789012", "#@ 1\r", "#@@ 1", "#@ 1/", "#@ 1:",
		"#h", "#h ", "#hello", "#h 1", "#h 1 2 3 4", "#h 1 2 3 4 5 6", "#h 1 2 3 4 5 #", "#h 1 2 3 4 123456789", "#h 123456789 2 3 4 5", "#h 1 2 3 4 000000001", "#h 1 2 3 4 A", "#h 1 2 F 4 5", "#h 1 2 3 4 g", "#h 1 2 3 4 `", "#h 1 2 3 4 /", "#h 1 2 3 4 :", "#h 1 2 3 4 0x1", "#h 1 2 3 4 5\r", "#hh 1 2 3 4 5",
		"7679b25e31e5a7731a6a86523cab6ca641f6a862", "#h 7679b25e31e5a7731a6a86523cab6ca641f6a862",
		"2287785600", "2287785600 ", "2287785600 x", "x 11", "2287785600 -11", "-2287785600 11", "2287785600 +11", "2287785600 11 12", "2287785600 11 x", "2287785600 11 x #", "2287785600 11#", "2287785600 11# x", "2287785600 # 11", "2287785600 #", " #", " # x", "\t#$ 1", " #h 1 2 3 4 5", "2287785600 11\r", "\r", "2287785600\v11", "2287785600,11", "x", "\x00", "\xff", "\xc2\xa0", "000002287785600 11", "002287785600 11", "2287785600 000000000011", "2287785600 1e1", "2287785600 0xb", "999999999999999999999999 11", "2287785600 999999999999999999999999",
	} {
		wantRefusal(t, lines(line, update, expiry, first, hash), api.ErrText, 0)
		wantRefusal(t, lines(update, expiry, first, line), api.ErrText, 3)
		wantRefusal(t, lines(update, expiry, first, hash, "", line, "x"), api.ErrText, 5)
	}
}

// TestElevenDigits has the longest numbers, which are too great, but are numbers.
func TestElevenDigits(t *testing.T) {
	wantRefusal(t, lines("#$ 99999999999", expiry, first, filler), api.ErrTable, 0)
	wantRefusal(t, lines(update, "#@ 99999999999", first, filler), api.ErrTable, 0)
	wantRefusal(t, lines(update, expiry, "99999999999 10", filler), api.ErrEntry, 2)
	wantRefusal(t, lines(update, expiry, "2272060800 99999999999", filler), api.ErrEntry, 2)
	wantRefusal(t, lines("#$ 999999999999", expiry, first, filler), api.ErrText, 0)
	wantRefusal(t, lines(update, "#@ 999999999999", first, filler), api.ErrText, 1)
	wantRefusal(t, lines(update, expiry, "999999999999 10", filler), api.ErrText, 2)
	wantRefusal(t, lines(update, expiry, "2272060800 999999999999", filler), api.ErrText, 2)
}

func TestLinesTwice(t *testing.T) {
	wantRefusal(t, lines(update, update, expiry, first, second, hash), api.ErrTwice, 1)
	wantRefusal(t, lines(update, expiry, first, "#$ 1", second, hash), api.ErrTwice, 3)
	wantRefusal(t, lines(update, expiry, expiry, first, second, hash), api.ErrTwice, 2)
	wantRefusal(t, lines(update, expiry, first, second, hash, "", "#@5"), api.ErrTwice, 6)
	wantRefusal(t, lines(update, expiry, first, second, hash, hash), api.ErrTwice, 5)
	wantRefusal(t, lines(filler, update, expiry, "#h 0 0 0 0 0", first), api.ErrTwice, 3)
	wantRefusal(t, lines("#h 0 0 0 0 0", "#h 0 0 0 0 0"), api.ErrTwice, 1)
	wantRefusal(t, lines("#$ 0", "#$ 0"), api.ErrTwice, 1)
	wantRefusal(t, lines("#@ 0", "#@ 0"), api.ErrTwice, 1)
	// A line that is none is that first, though there was one of its kind.
	wantRefusal(t, lines(update, "#$ x"), api.ErrText, 1)
	wantRefusal(t, lines(expiry, "#@"), api.ErrText, 1)
	wantRefusal(t, lines(hash, "#h 1 2 3 4"), api.ErrText, 1)
	wantRefusal(t, lines(hash, "#h 1 2 3 4 g"), api.ErrText, 1)
}

func TestEntriesThatCannotStand(t *testing.T) {
	for _, entry := range []string{
		"2287785601 11", "2287785599 11", "2287872000 11", "2287785600 10", "2287785600 12", "2287785600 8", "2287785600 200",
		first, "2272060800 11", "2269382400 11", "2269382400 9", "34712668800 11", "99999999999 11", "0 11", "1 1", "2287785600 0",
	} {
		wantRefusal(t, lines(update, expiry, first, entry), api.ErrEntry, 3)
		wantRefusal(t, lines(update, expiry, first, entry+" # x", "x"), api.ErrEntry, 3)
		// A line that is none is that first, though the entry could not stand there.
		wantRefusal(t, lines(update, expiry, first, entry+" x"), api.ErrText, 3)
	}
	for _, entry := range []string{"2272060800 201", "1 0", "86400 0", "34712668800 10", "34709990400 201", "99999999999 0"} {
		wantRefusal(t, lines(entry, update, expiry), api.ErrEntry, 0)
	}
}

// TestEdgesOfEntries has the first month and the last, and the least Offset and the greatest.
func TestEdgesOfEntries(t *testing.T) {
	for _, leaps := range [][]api.Leap{
		{{At: 0, Offset: 0}}, {{At: 0, Offset: 200}}, {{At: 34709990400, Offset: 0}}, {{At: 34709990400, Offset: 200}},
		{{At: 0, Offset: 199}, {At: 2678400, Offset: 200}, {At: 34709990400, Offset: 199}},
		{{At: 0, Offset: 1}, {At: 2678400, Offset: 0}, {At: 5097600, Offset: 1}},
	} {
		text := "#$ 0\n#@ 34000000000\n"
		digits := "034000000000"
		for _, l := range leaps {
			text += fmt.Sprintf("%d %d\n", l.At, l.Offset)
			digits += fmt.Sprintf("%d%d", l.At, l.Offset)
		}
		wantTable(t, text+hashOf(digits), api.Table{Update: 0, Expiry: 34000000000, Leaps: leaps})
	}
	wantRefusal(t, lines("0 200", "2678400 201"), api.ErrEntry, 1)
	wantRefusal(t, lines("0 0", "2678400 0"), api.ErrEntry, 1)
}

func TestFortyEntries(t *testing.T) {
	want := api.Table{Update: 5, Expiry: 6}
	text := "#$ 5\n#@ 6\n"
	digits := "56"
	for i := 0; i < 40; i++ {
		l := api.Leap{At: monthAt(i), Offset: 160 + i}
		want.Leaps = append(want.Leaps, l)
		text += fmt.Sprintf("%d %d\n", l.At, l.Offset)
		digits += fmt.Sprintf("%d%d", l.At, l.Offset)
	}
	wantTable(t, text+hashOf(digits), want)
	more := fmt.Sprintf("%d %d", monthAt(40), 200)
	wantRefusal(t, text+more+"\n"+hashOf(digits+strings.ReplaceAll(more, " ", "")), api.ErrEntry, 42)
}

func TestMissingLines(t *testing.T) {
	for _, text := range []string{
		"", "\n", " \t", "#", "# nothing\n", strings.Repeat("\n", 2000), strings.Repeat("#\n", 1000),
		lines(expiry, first, second, hash), lines(update, first, second, hash),
		lines(update, expiry, hash), lines(update, expiry, first, second),
		lines("#$ 5", "#@ 4", filler), lines("#$ 5", "#@ 4", first), // ErrMissing ahead of ErrTable
		lines(update), lines(expiry), lines(first), lines(hash), lines("# $ 1", expiry, first, second, hash),
		lines("#$ 0", "#@ 0", "0 0"), lines("#h 0 0 0 0 0", "#@ 1", "0 0"), lines("#h 0 0 0 0 0", "#$ 0", "0 0"),
	} {
		wantRefusal(t, text, api.ErrMissing, 0)
	}
}

// TestNoTable has the right digest beside, and a wrong one: that is told of only if it is a table.
func TestNoTable(t *testing.T) {
	for _, c := range [][2]string{{"2400000000", "2400000000"}, {"2400000001", "2400000000"}, {"0", "0"}, {"0", "34000000001"},
		{"34000000000", "34000000000"}, {"99999999999", "99999999999"}, {"1", "00000000001"}} {
		wantRefusal(t, lines("#$ "+c[0], "#@ "+c[1], first, hashOf(c[0]+c[1]+"227206080010")), api.ErrTable, 0)
		wantRefusal(t, lines("#$ "+c[0], "#@ "+c[1], first, filler), api.ErrTable, 0)
	}
	for _, c := range [][2]string{{"0", "1"}, {"2399999999", "2400000000"}, {"33999999999", "34000000000"}, {"0", "34000000000"}} {
		if _, e, n := file.Parse(lines("#$ "+c[0], "#@ "+c[1], first, hashOf(c[0]+c[1]+"227206080010"))); e != api.OK || n != 0 {
			t.Errorf("P5: Update %s, Expiry %s = %d, %d", c[0], c[1], e, n)
		}
	}
}

func TestOtherDigests(t *testing.T) {
	for i := 3; i < len(hash); i++ {
		if hash[i] == ' ' {
			continue
		}
		other := byte('0')
		if hash[i] == '0' {
			other = 'f'
		}
		wantRefusal(t, lines(update, expiry, first, second, hash[:i]+string(other)+hash[i+1:]), api.ErrHash, 0)
	}
	for _, text := range []string{
		lines("#$ 2272060801", expiry, first, second, hash), lines(update, "#@ 2400000001", first, second, hash),
		lines(update, expiry, first, hash), lines(update, expiry, second, hash), lines(update, expiry, first, "2287785600 9", hash),
		lines(update, expiry, "2272060800 9", "2287785600 10", hash), lines(update, expiry, first, "2290464000 11", hash),
		lines(update, expiry, first, second, "#h 31e5a773 7679b25e 1a6a8652 3cab6ca6 41f6a862"),
		lines(update, expiry, first, second, "#h 0 0 0 0 0"),
	} {
		wantRefusal(t, text, api.ErrHash, 0)
	}
}

func TestLength(t *testing.T) {
	text := lines(update, expiry, first, second, hash)
	pad := strings.Repeat("#", 2000-len(text)-1)
	wantTable(t, text+"\n"+pad, example())
	wantTable(t, pad+"\n"+text, example())
	wantTable(t, text+strings.Repeat(" ", 2000-len(text)), example())
	wantRefusal(t, text+"\n"+pad+"#", api.ErrLong, 0)
	wantRefusal(t, text+strings.Repeat("\n", 2001-len(text)), api.ErrLong, 0)
	wantRefusal(t, strings.Repeat("x\n", 1000), api.ErrText, 0)
	wantRefusal(t, strings.Repeat("x\n", 1000)+"x", api.ErrLong, 0)
	wantRefusal(t, strings.Repeat("\n", 1999)+"x", api.ErrText, 1999)
	wantRefusal(t, strings.Repeat("\n", 1999)+"\n", api.ErrMissing, 0)
	wantRefusal(t, strings.Repeat("9", 2000), api.ErrText, 0)
	wantRefusal(t, strings.Repeat("9", 1<<20), api.ErrLong, 0)
}

func TestFirstWrongLine(t *testing.T) {
	wrong := []struct {
		line string
		e    api.Errno
	}{{"x", api.ErrText}, {update, api.ErrTwice}, {first, api.ErrEntry}}
	for _, a := range wrong {
		for _, b := range wrong {
			wantRefusal(t, lines(update, expiry, first, a.line, "", b.line), a.e, 3)
		}
		wantRefusal(t, lines(update, "#@ 1", first, "", a.line), a.e, 4)
		wantRefusal(t, lines(update, first, a.line), a.e, 2)
	}
}

// TestTextAndListAreTheCallers changes the text's bytes behind the call, and the list of one answer.
func TestTextAndListAreTheCallers(t *testing.T) {
	text := lines(update, expiry, first, second, hash)
	data := []byte(text)
	a, _, _ := file.Parse(unsafe.String(&data[0], len(data)))
	if string(data) != text {
		t.Errorf("P2: Parse wrote into what was handed in: %q", data)
	}
	for i := range data {
		data[i] = '1'
	}
	if !reflect.DeepEqual(a, example()) {
		t.Errorf("P2: the table changed with the text: %v", a)
	}
	b, _, _ := file.Parse(text)
	a.Leaps[0].At = 7
	_ = append(a.Leaps[:1], api.Leap{At: 8, Offset: 8})
	c, _, _ := file.Parse(text)
	if !reflect.DeepEqual(b, example()) || !reflect.DeepEqual(c, example()) {
		t.Errorf("P2: one answer changed another: %v, %v", b, c)
	}
}
