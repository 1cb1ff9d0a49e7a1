package table_test

import (
	"math"
	"testing"
	"time"

	"smear/api"
	"smear/table"
)

// at is the second of UTC at which a date begins, by the library's calendar.
func at(y int, m int, d int) int {
	begin := time.Date(1900, 1, 1, 0, 0, 0, 0, time.UTC).Unix()
	return int(time.Date(y, time.Month(m), d, 0, 0, 0, 0, time.UTC).Unix() - begin)
}

func example() api.Table {
	return api.Table{Update: 2272060800, Expiry: 2400000000,
		Leaps: []api.Leap{{At: at(1972, 1, 1), Offset: 10}, {At: at(1972, 7, 1), Offset: 11}}}
}

// zigzag has n entries, month by month, whose Offsets go up and down.
func zigzag(n int) []api.Leap {
	var leaps []api.Leap
	for i := 0; i < n; i++ {
		leaps = append(leaps, api.Leap{At: at(1972, 1+i, 1), Offset: i % 2})
	}
	return leaps
}

// staircase has n entries, month by month, of which each has an Offset greater by step.
func staircase(n int, offset int, step int) []api.Leap {
	var leaps []api.Leap
	for i := 0; i < n; i++ {
		leaps = append(leaps, api.Leap{At: at(1972, 1+i, 1), Offset: offset + i*step})
	}
	return leaps
}

func TestTables(t *testing.T) {
	for i, turn := range []func(u *api.Table){
		func(u *api.Table) {},
		func(u *api.Table) { u.Update = 0 },
		func(u *api.Table) { u.Update = u.Expiry - 1 },
		func(u *api.Table) { u.Expiry = u.Update + 1 },
		func(u *api.Table) { u.Expiry = 34000000000 },
		func(u *api.Table) { u.Update, u.Expiry = 0, 1 },
		func(u *api.Table) { u.Update, u.Expiry = 33999999999, 34000000000 },
		func(u *api.Table) { u.Leaps = u.Leaps[:1] },
		func(u *api.Table) { u.Leaps = u.Leaps[1:] },
		func(u *api.Table) { u.Leaps[0].At = 0 },
		func(u *api.Table) { u.Leaps[1].At = at(2999, 12, 1) },
		func(u *api.Table) { u.Leaps[1].Offset = 9 },
		func(u *api.Table) { u.Leaps[0].Offset, u.Leaps[1].Offset = 0, 1 },
		func(u *api.Table) { u.Leaps[0].Offset, u.Leaps[1].Offset = 1, 0 },
		func(u *api.Table) { u.Leaps[0].Offset, u.Leaps[1].Offset = 199, 200 },
		func(u *api.Table) { u.Leaps[0].Offset, u.Leaps[1].Offset = 200, 199 },
		func(u *api.Table) { u.Leaps[1].At = at(1972, 2, 1) },
		func(u *api.Table) { u.Leaps = zigzag(40) },
		func(u *api.Table) { u.Leaps = staircase(40, 161, 1) },
		func(u *api.Table) { u.Leaps = staircase(40, 39, -1) },
	} {
		u := example()
		turn(&u)
		if !table.IsTable(u) {
			t.Errorf("A table: case %d is none: %v", i, u)
		}
	}
}

func TestNoTables(t *testing.T) {
	for i, turn := range []func(u *api.Table){
		func(u *api.Table) { *u = api.Table{} },
		func(u *api.Table) { u.Update = -1 },
		func(u *api.Table) { u.Update = math.MinInt },
		func(u *api.Table) { u.Update = math.MaxInt },
		func(u *api.Table) { u.Update = u.Expiry },
		func(u *api.Table) { u.Expiry = u.Update },
		func(u *api.Table) { u.Expiry = u.Update - 1 },
		func(u *api.Table) { u.Update, u.Expiry = 0, 0 },
		func(u *api.Table) { u.Expiry = 34000000001 },
		func(u *api.Table) { u.Expiry = math.MaxInt },
		func(u *api.Table) { u.Expiry = math.MinInt },
		func(u *api.Table) { u.Leaps = nil },
		func(u *api.Table) { u.Leaps = []api.Leap{} },
		func(u *api.Table) { u.Leaps = zigzag(41) },
		func(u *api.Table) { u.Leaps = zigzag(1000) },
		func(u *api.Table) { u.Leaps = staircase(40, 162, 1) },
		func(u *api.Table) { u.Leaps = staircase(40, 38, -1) },
		func(u *api.Table) { u.Leaps = staircase(3, 10, 0) },
		func(u *api.Table) { u.Leaps = staircase(3, 10, 2) },
		func(u *api.Table) { u.Leaps = staircase(3, 10, -2) },
		func(u *api.Table) { u.Leaps[0].At-- },
		func(u *api.Table) { u.Leaps[0].At += 86400 },
		func(u *api.Table) { u.Leaps[1].At++ },
		func(u *api.Table) { u.Leaps[1].At -= 86400 },
		func(u *api.Table) { u.Leaps[1].At = u.Leaps[0].At },
		func(u *api.Table) { u.Leaps[1].At = at(1971, 12, 1) },
		func(u *api.Table) { u.Leaps[1].At = at(3000, 1, 1) },
		func(u *api.Table) { u.Leaps[0].At = at(1899, 12, 1) },
		func(u *api.Table) { u.Leaps[0].At = math.MinInt },
		func(u *api.Table) { u.Leaps[1].At = math.MaxInt },
		func(u *api.Table) { u.Leaps[1].At = math.MaxInt / 86400 * 86400 },
		func(u *api.Table) { u.Leaps[0].At = math.MinInt / 86400 * 86400 },
		func(u *api.Table) { u.Leaps[0].Offset, u.Leaps[1].Offset = -1, 0 },
		func(u *api.Table) { u.Leaps[0].Offset, u.Leaps[1].Offset = 0, -1 },
		func(u *api.Table) { u.Leaps[0].Offset, u.Leaps[1].Offset = 200, 201 },
		func(u *api.Table) { u.Leaps[0].Offset, u.Leaps[1].Offset = 201, 200 },
		func(u *api.Table) { u.Leaps[1].Offset = 10 },
		func(u *api.Table) { u.Leaps[1].Offset = 12 },
		func(u *api.Table) { u.Leaps[1].Offset = 8 },
		func(u *api.Table) { u.Leaps[0].Offset = math.MaxInt; u.Leaps[1].Offset = math.MinInt },
		func(u *api.Table) { u.Leaps[1].Offset = math.MaxInt },
		func(u *api.Table) { u.Leaps[1].Offset = math.MinInt },
	} {
		u := example()
		turn(&u)
		if table.IsTable(u) {
			t.Errorf("A table: case %d is one: %v", i, u)
		}
	}
}

// TestBeginningsOfMonths asks at every day of the calendar, and some beside it.
func TestBeginningsOfMonths(t *testing.T) {
	for day := -1000; day < api.MaxDays+1000; day++ {
		want := day >= 0 && day < api.MaxDays && time.Date(1900, 1, 1+day, 0, 0, 0, 0, time.UTC).Day() == 1
		if got := table.CanFollow(nil, api.Leap{At: 86400 * day}); got != want {
			t.Fatalf("An entry: at the day %d = %t, want %t", day, got, want)
		}
		for _, beside := range []int{-1, 1, 43200} {
			if table.CanFollow(nil, api.Leap{At: 86400*day + beside}) {
				t.Fatalf("An entry: %d seconds beside the day %d = true", beside, day)
			}
		}
	}
}

func TestCanFollow(t *testing.T) {
	ahead := example().Leaps
	for _, c := range []struct {
		next api.Leap
		want bool
	}{
		{api.Leap{At: at(1973, 1, 1), Offset: 12}, true}, {api.Leap{At: at(1973, 1, 1), Offset: 10}, true},
		{api.Leap{At: at(1972, 8, 1), Offset: 12}, true}, {api.Leap{At: at(1973, 1, 1), Offset: 11}, false},
		{api.Leap{At: at(1973, 1, 1), Offset: 13}, false}, {api.Leap{At: at(1972, 7, 1), Offset: 12}, false},
		{api.Leap{At: at(1972, 6, 1), Offset: 12}, false}, {api.Leap{At: at(1973, 1, 2), Offset: 12}, false},
	} {
		if got := table.CanFollow(ahead, c.next); got != c.want {
			t.Errorf("A table: %v behind %v = %t", c.next, ahead, got)
		}
	}
	if !table.CanFollow(zigzag(39), api.Leap{At: at(1990, 1, 1), Offset: 1}) {
		t.Error("A table: the 40th entry cannot stand there")
	}
	if table.CanFollow(zigzag(40), api.Leap{At: at(1990, 1, 1), Offset: 0}) {
		t.Error("A table: the 41st entry can stand there")
	}
}

func TestTurns(t *testing.T) {
	leaps := []api.Leap{{At: at(1972, 1, 1), Offset: 10}, {At: at(1972, 7, 1), Offset: 11}, {At: at(1973, 1, 1), Offset: 10}}
	turns := []int{at(1972, 1, 1) + 10, at(1972, 7, 1) + 10, at(1973, 1, 1) + 10}
	for i, want := range turns {
		if got := table.Turn(leaps, i); got != want {
			t.Errorf("An entry's turn: of the entry %d = %d, want %d", i, got, want)
		}
		if got := table.Holder(leaps, want-1); got != i-1 {
			t.Errorf("An entry's turn: a second ahead of %d holds %d", want, got)
		}
		if got := table.Holder(leaps, want); got != i {
			t.Errorf("An entry's turn: at %d holds %d", want, got)
		}
	}
	for _, i := range []int{-1, 3, math.MinInt, math.MaxInt} {
		if got := table.Turn(leaps, i); got != 0 {
			t.Errorf("P1: the turn of the entry %d = %d", i, got)
		}
	}
	for sec, want := range map[int]int{math.MinInt: -1, -1: -1, 0: -1, math.MaxInt: 2} {
		if got := table.Holder(leaps, sec); got != want {
			t.Errorf("An entry's turn: at %d holds %d, want %d", sec, got, want)
		}
	}
	if got := table.Holder(nil, math.MaxInt); got != -1 {
		t.Errorf("An entry's turn: of no entries holds %d", got)
	}
}
