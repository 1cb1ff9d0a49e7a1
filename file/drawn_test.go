package file_test

import (
	"crypto/sha1"
	"fmt"
	"math/rand"
	"reflect"
	"regexp"
	"strconv"
	"strings"
	"testing"
	"time"

	"smear/api"
	"smear/file"
)

// What a line may be, once more, in another language than the program's.
var (
	numberLine = regexp.MustCompile(`^#[$@][ \t]*([0-9]{1,11})[ \t]*$`)
	hexLine    = regexp.MustCompile(`^#h[ \t]*([0-9a-f]{1,8})[ \t]+([0-9a-f]{1,8})[ \t]+([0-9a-f]{1,8})[ \t]+([0-9a-f]{1,8})[ \t]+([0-9a-f]{1,8})[ \t]*$`)
	entryLine  = regexp.MustCompile(`^[ \t]*([0-9]{1,11})[ \t]+([0-9]{1,11})[ \t]*([ \t]#.*)?$`)
	emptyLine  = regexp.MustCompile(`^[ \t]*$`)
)

// expected is what the words of P5 ask for, line by line.
type expected struct {
	table  api.Table
	digits string
	found  map[byte]int
	hash   string
}

func (x *expected) line(line string) api.Errno {
	if strings.HasPrefix(line, "#$") || strings.HasPrefix(line, "#@") {
		m := numberLine.FindStringSubmatch(line)
		if m == nil {
			return api.ErrText
		}
		x.digits += m[1]
		n, _ := strconv.Atoi(m[1])
		if line[1] == '$' {
			x.table.Update = n
		} else {
			x.table.Expiry = n
		}
	} else if strings.HasPrefix(line, "#h") {
		m := hexLine.FindStringSubmatch(line)
		if m == nil {
			return api.ErrText
		}
		x.hash = ""
		for _, w := range m[1:] {
			x.hash += fmt.Sprintf("%8s", w)
		}
		x.hash = strings.ReplaceAll(x.hash, " ", "0")
	} else if strings.HasPrefix(line, "#") || emptyLine.MatchString(line) {
		return api.OK
	} else {
		return x.entry(line)
	}
	x.found[line[1]]++
	if x.found[line[1]] > 1 {
		return api.ErrTwice
	}
	return api.OK
}

func (x *expected) entry(line string) api.Errno {
	m := entryLine.FindStringSubmatch(line)
	if m == nil {
		return api.ErrText
	}
	at, _ := strconv.Atoi(m[1])
	offset, _ := strconv.Atoi(m[2])
	date := time.Date(1900, 1, 1+at/86400, 0, 0, 0, 0, time.UTC)
	right := at%86400 == 0 && date.Day() == 1 && date.Year() < 3000 && offset <= 200 && len(x.table.Leaps) < 40
	if n := len(x.table.Leaps); n > 0 {
		last := x.table.Leaps[n-1]
		right = right && at > last.At && (offset-last.Offset)*(offset-last.Offset) == 1
	}
	if !right {
		return api.ErrEntry
	}
	x.table.Leaps = append(x.table.Leaps, api.Leap{At: at, Offset: offset})
	x.digits += m[1] + m[2]
	return api.OK
}

func expect(text string) (api.Table, api.Errno, int) {
	if len(text) > 2000 {
		return api.Table{}, api.ErrLong, 0
	}
	x := expected{found: map[byte]int{}}
	for i, line := range strings.Split(text, "\n") {
		if e := x.line(line); e != api.OK {
			return api.Table{}, e, i
		}
	}
	if len(x.found) < 3 || len(x.table.Leaps) == 0 {
		return api.Table{}, api.ErrMissing, 0
	}
	if x.table.Expiry <= x.table.Update || x.table.Expiry > 34000000000 {
		return api.Table{}, api.ErrTable, 0
	}
	if x.hash != fmt.Sprintf("%x", sha1.Sum([]byte(x.digits))) {
		return api.Table{}, api.ErrHash, 0
	}
	return x.table, api.OK, 0
}

// spoil changes a file a little: bytes, or whole lines.
func spoil(r *rand.Rand, text string) string {
	const bytes = "0123456789 \t\n#$@hafgAF-\r\x00\xff"
	l := strings.Split(text, "\n")
	i, j := r.Intn(len(l)), r.Intn(len(l))
	k := r.Intn(len(text))
	c := string(bytes[r.Intn(len(bytes))])
	switch r.Intn(9) {
	case 0:
		return text[:k] + c + text[k+1:]
	case 1:
		return text[:k] + c + text[k:]
	case 2:
		return text[:k] + text[k+1:]
	case 3:
		l[i], l[j] = l[j], l[i]
	case 4:
		l[i] = l[j]
	case 5:
		l[i] += " # " + c
	case 6:
		l[i] = " " + l[i]
	case 7:
		l[i] += "\n"
	case 8:
		l[i] = strings.ReplaceAll(l[i], " ", "\t ")
	}
	return strings.Join(l, "\n")
}

// TestDrawnFiles reads files that were spoilt, or not, each as its lines ask for.
func TestDrawnFiles(t *testing.T) {
	r := rand.New(rand.NewSource(4))
	met := map[api.Errno]int{}
	for range 30000 {
		text, _ := file.Print(drawn(r, 1+r.Intn(4)))
		for range r.Intn(4) {
			text = spoil(r, text)
		}
		want, wantE, wantN := expect(text)
		got, e, n := file.Parse(text)
		if e != wantE || n != wantN || !reflect.DeepEqual(got, want) {
			t.Fatalf("P5: Parse(%q) = %v, %d, %d, want %v, %d, %d", text, got, e, n, want, wantE, wantN)
		}
		met[e]++
	}
	for _, e := range []api.Errno{api.OK, api.ErrText, api.ErrTwice, api.ErrEntry, api.ErrMissing, api.ErrHash} {
		if met[e] < 100 {
			t.Errorf("the error %d was met but %d times", e, met[e])
		}
	}
}
