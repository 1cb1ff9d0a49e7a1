package server_test

import (
	"fmt"
	"math/big"
	"math/rand"
	"slices"
	"testing"
	"time"

	"smear/api"
	"smear/file"
	"smear/server"
)

// model is a second reading of P9 to P14: times are counted in parts, and all
// entries stand in one list, of which it is kept how many have begun, when each
// one's window begins (nil, if it was over at the first file), and whether the
// last one is the sources'.
type model struct {
	mode, window   int
	sources, fresh int
	clock          *big.Int
	file           *api.Table
	leaps          []api.Leap
	begins         []*big.Int
	begun          int
	voted          bool
	said           map[int]saying
	refused        int
}

type saying struct {
	leap int
	at   *big.Int
}

func modelOf(c api.Config) *model {
	return &model{mode: c.Mode, window: c.Window, sources: c.Sources, fresh: c.Fresh, clock: inParts(c.Start), said: map[int]saying{}}
}

func inParts(u api.Time) *big.Int {
	n := new(big.Int).Lsh(big.NewInt(int64(u.Sec)), 32)
	return n.Add(n, big.NewInt(int64(u.Frac)))
}

func asTime(n *big.Int) api.Time {
	sec, frac := new(big.Int).DivMod(n, big.NewInt(1<<32), new(big.Int))
	return api.Time{Sec: int(sec.Int64()), Frac: int(frac.Int64())}
}

func (m *model) sec() int { return asTime(m.clock).Sec }

func turnOf(leaps []api.Leap, i int) int {
	if i == 0 {
		return leaps[0].At + leaps[0].Offset
	}
	return leaps[i].At + min(leaps[i].Offset, leaps[i-1].Offset)
}

func (m *model) look() {
	if m.file == nil {
		return
	}
	m.begin()
	if m.begun < len(m.leaps) && !m.voted {
		return
	}
	m.forget()
	if by := m.vote(); by != 0 && m.utc() >= m.file.Expiry {
		next := api.Leap{At: monthBehind(m.utc()), Offset: m.leaps[m.begun-1].Offset + by}
		_, e := file.Print(api.Table{Expiry: 1, Leaps: append(slices.Clone(m.leaps), next)})
		if e == api.OK && next.At+min(next.Offset, next.Offset-by) > m.sec() {
			m.expect(next)
			m.voted = true
		}
	}
	m.begin()
}

func (m *model) begin() {
	for m.begun < len(m.leaps) && m.begins[m.begun].Cmp(m.clock) <= 0 {
		m.begun++
	}
}

// forget: nothing is to come.
func (m *model) forget() {
	m.leaps, m.begins, m.voted = slices.Clone(m.leaps[:m.begun]), m.begins[:m.begun], false
}

// expect: one more entry is to come.
func (m *model) expect(next api.Leap) {
	m.leaps = append(m.leaps, next)
	begin := inParts(api.Time{Sec: turnOf(m.leaps, len(m.leaps)-1) - m.window/2})
	if begin.Cmp(m.clock) < 0 {
		begin = m.clock
	}
	m.begins = append(m.begins, begin)
}

// vote is 1, -1 or 0, as the sources have it.
func (m *model) vote() int {
	heard := map[int]int{}
	for _, s := range m.said {
		until := new(big.Int).Add(s.at, inParts(api.Time{Sec: m.fresh}))
		if m.clock.Cmp(until) <= 0 {
			heard[s.leap]++
		}
	}
	switch {
	case heard[1] > heard[0]+heard[2]:
		return 1
	case heard[2] > heard[0]+heard[1]:
		return -1
	}
	return 0
}

// monthBehind is the beginning of the month behind that of a second of UTC, by the library's calendar.
func monthBehind(utc int) int {
	u := time.Date(1900, 1, 1+utc/86400, 0, 0, 0, 0, time.UTC)
	return at(u.Year(), int(u.Month())+1)
}

func (m *model) hear(source int, leap int) api.Errno {
	if source < 0 || source >= m.sources {
		return api.ErrSource
	}
	if leap < 0 || leap > 3 {
		return api.ErrPacket
	}
	m.said[source] = saying{leap, m.clock}
	m.look()
	return api.OK
}

func (m *model) advance(by api.Time) api.Errno {
	if by.Sec < 0 || by.Frac < 0 || by.Frac > 4294967295 {
		return api.ErrTime
	}
	sum := new(big.Int).Add(m.clock, inParts(by))
	if sum.Cmp(inParts(api.Time{Sec: 34000000001})) >= 0 {
		return api.ErrTime
	}
	m.clock = sum
	m.look()
	return api.OK
}

// verdict is the error of a file that can be parsed.
func (m *model) verdict(u api.Table) api.Errno {
	if m.file == nil {
		if turnOf(u.Leaps, 0) > m.sec() {
			return api.ErrAgree
		}
		return api.OK
	}
	if u.Update < m.file.Update {
		return api.ErrOld
	}
	for i := range m.begun {
		if i >= len(u.Leaps) || u.Leaps[i] != m.leaps[i] {
			return api.ErrAgree
		}
	}
	for i := range u.Leaps {
		if i >= m.begun && turnOf(u.Leaps, i) <= m.sec() {
			return api.ErrAgree
		}
	}
	return api.OK
}

func (m *model) load(s string) (api.Errno, int) {
	u, e, line := file.Parse(s)
	if e == api.OK {
		e = m.verdict(u)
	}
	if e != api.OK {
		m.refused++
		return e, line
	}
	for i := range u.Leaps {
		if m.file == nil && turnOf(u.Leaps, i) <= m.sec() {
			m.leaps = append(m.leaps, u.Leaps[i])
			m.begins = append(m.begins, nil)
			m.begun++
		}
	}
	m.file = &u
	m.forget()
	for i := m.begun; i < len(u.Leaps); i++ {
		m.expect(u.Leaps[i])
	}
	m.look()
	return api.OK, 0
}

func (m *model) see() api.State {
	s := api.State{Now: asTime(m.clock), Refused: m.refused}
	if m.file == nil {
		return s
	}
	s.Loaded, s.Update, s.Expiry, s.Done = true, m.file.Update, m.file.Expiry, m.leaps[:m.begun]
	for i := m.begun; i < len(m.leaps); i++ {
		s.Coming = append(s.Coming, api.Coming{At: m.leaps[i].At, Offset: m.leaps[i].Offset, Begin: asTime(m.begins[i]), Voted: m.voted})
	}
	return s
}

// served is what Now tells.
func (m *model) served() string {
	if m.file == nil {
		return "0 0 3 8"
	}
	utc := asTime(m.clock)
	utc.Sec = m.utc()
	for i := range m.begun {
		if n := m.openFor(i); n != nil {
			utc = m.smeared(i, n)
		}
	}
	return fmt.Sprint(utc.Sec, " ", utc.Frac, " ", m.indicator(), " 0")
}

// utc is the second of UTC without smear.
func (m *model) utc() int {
	utc := 0
	for i := range m.begun {
		if turnOf(m.leaps, i) <= m.sec() {
			utc = m.sec() - m.leaps[i].Offset
		}
	}
	return utc
}

// openFor is for how many parts the window of an entry has been open; nil, if it is not.
func (m *model) openFor(i int) *big.Int {
	if m.mode == api.Step || m.begins[i] == nil {
		return nil
	}
	n := new(big.Int).Sub(m.clock, m.begins[i])
	if n.Cmp(inParts(api.Time{Sec: m.window})) >= 0 {
		return nil
	}
	return n
}

// smeared reckons in fractions, and rounds once, at the end.
func (m *model) smeared(i int, n *big.Int) api.Time {
	served := new(big.Rat).SetInt(new(big.Int).Sub(m.clock, inParts(api.Time{Sec: m.leaps[i-1].Offset})))
	pull := m.pull(n)
	if m.leaps[i].Offset > m.leaps[i-1].Offset {
		pull.Neg(pull)
	}
	served.Add(served, pull)
	return asTime(new(big.Int).Div(served.Num(), served.Denom()))
}

func (m *model) pull(n *big.Int) *big.Rat {
	if m.mode == api.Linear {
		return new(big.Rat).SetFrac(n, big.NewInt(int64(m.window)))
	}
	all := inParts(api.Time{Sec: m.window})
	i, r := new(big.Int).DivMod(new(big.Int).Mul(n, big.NewInt(1024)), all, new(big.Int))
	k := int(i.Int64())
	g := func(i int) int64 { return int64(4 * i * i * (3072 - 2*i)) }
	share := new(big.Rat).SetFrac(r.Mul(r, big.NewInt(g(k+1)-g(k))), all)
	return share.Add(share, new(big.Rat).SetInt64(g(k)))
}

// indicator finds the day in which the clock is by trying days, each with its
// beginning and its length.
func (m *model) indicator() int {
	if m.mode != api.Step {
		return 0
	}
	indicator := 0
	for day := m.sec()/86400 - 2; day <= m.sec()/86400+1; day++ {
		begin, length := dayByWords(m.leaps, day)
		if begin <= m.sec() && m.sec() < begin+length {
			indicator = map[int]int{86399: 2, 86400: 0, 86401: 1}[length]
		}
	}
	return indicator
}

// dayByWords is the beginning and the length of a day as P8 has them.
func dayByWords(leaps []api.Leap, day int) (int, int) {
	begin, length := 86400*day, 86400
	for i, leap := range leaps {
		if leap.At <= 86400*day {
			begin = 86400*day + leap.Offset
		}
		if i > 0 && leap.At == 86400*(day+1) {
			length += leap.Offset - leaps[i-1].Offset
		}
	}
	return begin, length
}

// drawn draws entries, one to four months from each other.
func drawn(r *rand.Rand) []api.Leap {
	year, month, offset := 1900+r.Intn(1060), 1+r.Intn(12), r.Intn(201)
	var leaps []api.Leap
	for range 1 + r.Intn(9) {
		leaps = append(leaps, api.Leap{At: at(year, month), Offset: offset})
		month += 1 + r.Intn(4)
		if offset == 0 || offset < 200 && r.Intn(2) == 0 {
			offset++
		} else {
			offset--
		}
	}
	return leaps
}

// variant draws a file: the entries, or the first of them, or with one that is another, or with no sense.
func variant(r *rand.Rand, leaps []api.Leap) string {
	u := api.Table{Update: r.Intn(4), Expiry: 10 + r.Intn(3)}
	u.Leaps = append(u.Leaps, leaps[:1+r.Intn(len(leaps))]...)
	last := &u.Leaps[len(u.Leaps)-1]
	switch r.Intn(6) {
	case 0:
		last.At += 86400 * (28 + r.Intn(4))
	case 1:
		last.Offset += 2 - 4*r.Intn(2)
	case 2:
		k := r.Intn(len(u.Leaps))
		u.Leaps[k] = leaps[len(leaps)-1]
	}
	s, e := file.Print(u)
	if e != api.OK {
		return fmt.Sprintf("#$ %d\n# no file\n%d", u.Update, u.Expiry)
	}
	return s
}

// step draws how far the clock goes: often to a turn or a window's beginning or end, just beside it, or into a window.
func step(r *rand.Rand, m *model, leaps []api.Leap) api.Time {
	wrong := []api.Time{{Sec: -1}, {Frac: -1}, {Frac: 1 << 32}, {Sec: 1 << 62}, {Sec: 34000000000, Frac: 4294967295}, {Sec: 1, Frac: -1 << 62}}
	switch r.Intn(10) {
	case 0:
		return wrong[r.Intn(len(wrong))]
	case 1:
		return api.Time{Sec: r.Intn(3), Frac: r.Intn(1 << 32)}
	case 2:
		return api.Time{Sec: r.Intn(86400 * 40)}
	case 3, 4:
		return api.Time{Sec: r.Intn(1 + m.window/4), Frac: r.Intn(1 << 32)}
	}
	target := inParts(api.Time{Sec: turnOf(leaps, r.Intn(len(leaps))) + (r.Intn(3)-1)*m.window/2 + r.Intn(5) - 2 - r.Intn(2)*86400, Frac: r.Intn(3) - 1})
	target.Sub(target, m.clock)
	if target.Sign() < 0 {
		return api.Time{Sec: r.Intn(2), Frac: r.Intn(2)}
	}
	return asTime(target)
}

func agree(t *testing.T, m *model, x *server.Server) {
	t.Helper()
	if got, want := fmt.Sprint(x.See()), fmt.Sprint(m.see()); got != want {
		t.Fatalf("P9 to P11, P14: See = %s, want %s", got, want)
	}
	if got, want := now(x), m.served(); got != want {
		t.Fatalf("P12, P13: Now = %s, want %s; the server: %+v", got, want, x.See())
	}
}

// TestAgainstTheModel lets drawn calls go to a server and to the model.
func TestAgainstTheModel(t *testing.T) {
	r := rand.New(rand.NewSource(3))
	taken := map[api.Errno]int{}
	open := map[int]int{}
	for run := range 6000 {
		leaps := drawn(r)
		c := api.Config{Mode: run % 3, Fresh: 1, Sources: r.Intn(9)}
		if c.Mode != api.Step {
			c.Window = []int{3600, 86400, 604800}[r.Intn(3)]
		}
		c.Start = api.Time{Sec: max(0, turnOf(leaps, r.Intn(len(leaps)))+r.Intn(5)-2-r.Intn(2)*86400*r.Intn(60)), Frac: r.Intn(2) * 4294967295}
		x := made(t, c)
		m := modelOf(c)
		agree(t, m, x)
		for range 25 {
			if r.Intn(3) == 0 {
				s := variant(r, leaps)
				e, n := x.Load(s)
				want, line := m.load(s)
				if e != want || n != line {
					t.Fatalf("P11: Load(%q) = %d, %d, want %d, %d; the server: %+v", s, e, n, want, line, x.See())
				}
				taken[e]++
			} else {
				by := step(r, m, leaps)
				if e, want := x.Advance(by), m.advance(by); e != want {
					t.Fatalf("P10: Advance(%v) = %d, want %d; the server: %+v", by, e, want, x.See())
				}
			}
			agree(t, m, x)
			if m.begun > 0 && m.openFor(m.begun-1) != nil {
				open[m.mode]++
			}
		}
	}
	if open[api.Linear] < 2000 || open[api.Smooth] < 2000 {
		t.Errorf("too few looks into open windows: %v", open)
	}
	for _, e := range []api.Errno{api.OK, api.ErrText, api.ErrOld, api.ErrAgree} {
		if taken[e] < 500 {
			t.Errorf("the drawn files are too much alike: %v", taken)
		}
	}
}
