package file_test

import (
	"fmt"
	"math"
	"math/rand"
	"reflect"
	"testing"

	"smear/api"
	"smear/file"
)

func TestPrintExample(t *testing.T) {
	want := lines(update, expiry, first, second, hash, "")
	if text, e := file.Print(example()); text != want || e != api.OK {
		t.Errorf("P6: Print(T) = %q, %d, want %q", text, e, want)
	}
}

// drawn draws a table of n entries.
func drawn(r *rand.Rand, n int) api.Table {
	u := api.Table{Update: r.Intn(1 << r.Intn(34))}
	u.Expiry = u.Update + 1 + r.Intn(api.MaxSec-u.Update)
	months, offset := r.Intn(12000), r.Intn(201)
	for range n {
		u.Leaps = append(u.Leaps, api.Leap{At: monthAt(months), Offset: offset})
		months += 1 + r.Intn(10)
		if offset == 0 || offset < 200 && r.Intn(2) == 0 {
			offset++
		} else {
			offset--
		}
	}
	return u
}

func checkPrint(t *testing.T, u api.Table) {
	t.Helper()
	digits := fmt.Sprint(u.Update) + fmt.Sprint(u.Expiry)
	want := fmt.Sprintf("#$ %d\n#@ %d\n", u.Update, u.Expiry)
	for _, l := range u.Leaps {
		want += fmt.Sprintf("%d %d\n", l.At, l.Offset)
		digits += fmt.Sprint(l.At) + fmt.Sprint(l.Offset)
	}
	want += hashOf(digits) + "\n"
	text, e := file.Print(u)
	if text != want || e != api.OK {
		t.Errorf("P6: Print(%v) = %q, %d, want %q", u, text, e, want)
	}
	wantTable(t, text, u)
}

func TestPrintAndParse(t *testing.T) {
	r := rand.New(rand.NewSource(2))
	for i := range 400 {
		checkPrint(t, drawn(r, 1+i%40))
	}
}

func TestPrintEdges(t *testing.T) {
	checkPrint(t, api.Table{Update: 0, Expiry: 1, Leaps: []api.Leap{{At: 0, Offset: 0}}})
	checkPrint(t, api.Table{Update: 33999999999, Expiry: 34000000000, Leaps: []api.Leap{{At: 34707398400, Offset: 199}, {At: 34709990400, Offset: 200}}})
	long := api.Table{Update: 33999999999, Expiry: 34000000000}
	for i := 0; i < 40; i++ {
		long.Leaps = append(long.Leaps, api.Leap{At: monthAt(12480 - 40 + i), Offset: 161 + i})
	}
	checkPrint(t, long)
}

func TestPrintNoTable(t *testing.T) {
	long := drawn(rand.New(rand.NewSource(3)), 41)
	for i, u := range []api.Table{
		{}, long,
		{Update: -1, Expiry: 1, Leaps: example().Leaps},
		{Update: 1, Expiry: 1, Leaps: example().Leaps},
		{Update: 0, Expiry: 34000000001, Leaps: example().Leaps},
		{Update: math.MinInt, Expiry: math.MaxInt, Leaps: example().Leaps},
		{Update: 0, Expiry: 1},
		{Update: 0, Expiry: 1, Leaps: []api.Leap{}},
		{Update: 0, Expiry: 1, Leaps: []api.Leap{{At: 1, Offset: 0}}},
		{Update: 0, Expiry: 1, Leaps: []api.Leap{{At: 0, Offset: 201}}},
		{Update: 0, Expiry: 1, Leaps: []api.Leap{{At: 0, Offset: -1}}},
		{Update: 0, Expiry: 1, Leaps: []api.Leap{{At: 0, Offset: 10}, {At: 2678400, Offset: 10}}},
		{Update: 0, Expiry: 1, Leaps: []api.Leap{{At: 2678400, Offset: 10}, {At: 0, Offset: 11}}},
		{Update: 0, Expiry: 1, Leaps: []api.Leap{{At: math.MaxInt, Offset: math.MaxInt}}},
		{Update: 0, Expiry: 1, Leaps: []api.Leap{{At: math.MinInt, Offset: math.MinInt}}},
	} {
		if text, e := file.Print(u); text != "" || e != api.ErrTable {
			t.Errorf("P6: case %d: Print(%v) = %q, %d", i, u, text, e)
		}
	}
}

// TestPrintLeavesTheTable looks at what stands behind the list, too.
func TestPrintLeavesTheTable(t *testing.T) {
	back := append(example().Leaps, api.Leap{At: 5, Offset: 6})
	u := example()
	u.Leaps = back[:2]
	text, _ := file.Print(u)
	if !reflect.DeepEqual(back, append(example().Leaps, api.Leap{At: 5, Offset: 6})) {
		t.Errorf("P2: Print wrote into what was handed in: %v", back)
	}
	back[0].At = 0
	if again, _ := file.Print(example()); again != text {
		t.Errorf("P2: Print(T) = %q, and at first %q", again, text)
	}
}
