package server_test

import (
	"math/big"
	"math/rand"
	"slices"
	"testing"

	"smear/api"
	"smear/file"
	"smear/server"
)

// lastMonths draws a table's entries, monthly or nearly so: mostly few, else up
// to the most that there may be; their Offsets are often at an edge.
func lastMonths(r *rand.Rand) []api.Leap {
	n := 1 + r.Intn(3)
	if r.Intn(4) == 0 {
		n = 36 + r.Intn(5)
	}
	year, month, offset := 1900+r.Intn(1060), 1+r.Intn(12), []int{0, 1, 2, 77, 198, 199, 200}[r.Intn(7)]
	var leaps []api.Leap
	for range n {
		leaps = append(leaps, api.Leap{At: at(year, month), Offset: offset})
		month += 1 + r.Intn(2)
		if offset == 0 || offset < 200 && r.Intn(2) == 0 {
			offset++
		} else {
			offset--
		}
	}
	return leaps
}

// fittingFile draws a file that goes on from what has begun, mostly: it runs
// out about now, and may have an entry more, or one less.
func fittingFile(r *rand.Rand, m *model, leaps []api.Leap) string {
	utc := m.sec() - leaps[len(leaps)-1].Offset
	u := api.Table{Update: r.Intn(3), Leaps: slices.Clone(leaps)}
	if m.file != nil {
		utc = m.utc()
		u.Leaps = slices.Clone(m.leaps[:m.begun])
	}
	u.Expiry = utc + []int{-86400, -1, 0, 1, 5, 86400 * 20}[r.Intn(6)]
	last := u.Leaps[len(u.Leaps)-1]
	switch r.Intn(8) {
	case 0, 1:
		u.Leaps = append(u.Leaps, api.Leap{At: monthBehind(utc + 86400*r.Intn(40)), Offset: last.Offset + 1 - 2*r.Intn(2)})
	case 2:
		u.Leaps = u.Leaps[:max(1, len(u.Leaps)-1)]
	}
	s, e := file.Print(u)
	if e != api.OK {
		return "no file"
	}
	return s
}

// votesStep draws how far the clock goes: to where what a source said is fresh
// no more, to a month's end, to an edge of a window, to the file's end, or just beside.
func votesStep(r *rand.Rand, m *model) api.Time {
	target := new(big.Int).Set(m.clock)
	switch r.Intn(7) {
	case 0:
		return api.Time{Sec: r.Intn(86400 * 40), Frac: r.Intn(2) * r.Intn(1<<32)}
	case 1:
		return api.Time{Sec: r.Intn(3), Frac: r.Intn(3)}
	case 2:
		if s, ok := m.said[r.Intn(8)]; ok {
			target.Add(s.at, inParts(api.Time{Sec: m.fresh}))
		}
	case 3:
		if m.file != nil {
			target = inParts(api.Time{Sec: m.file.Expiry + m.sec() - m.utc()})
		}
	default:
		offset := m.sec() - m.utc()
		target = inParts(api.Time{Sec: monthBehind(m.utc()) + offset + (r.Intn(3)-1)*m.window/2})
	}
	target.Add(target, inParts(api.Time{Sec: r.Intn(2) * (r.Intn(5) - 2), Frac: r.Intn(3) - 1}))
	target.Sub(target, m.clock)
	if target.Sign() < 0 {
		return api.Time{Sec: r.Intn(2), Frac: r.Intn(2)}
	}
	return asTime(target)
}

// hearDrawn lets a source speak, or the same be said by all.
func hearDrawn(t *testing.T, r *rand.Rand, m *model, x *server.Server) {
	t.Helper()
	source, leap := r.Intn(m.sources+1), []int{0, 1, 1, 1, 2, 2, 2, 3, 4, -1}[r.Intn(10)]
	last := source
	if r.Intn(2) == 0 {
		source, last = 0, m.sources-1
	}
	for ; source <= last; source++ {
		if e, want := x.Hear(source, leap), m.hear(source, leap); e != want {
			t.Fatalf("P14: Hear(%d, %d) = %d, want %d; the server: %+v", source, leap, e, want, x.See())
		}
		agree(t, m, x)
	}
}

// happened counts what the drawn calls led to, so that the test tells if it says little.
type happened struct {
	voted, takenBack, begunOnTime, begunAtOnce, open, indicated, fullTable, edgeOffset, unsure int
}

func (h *happened) count(before api.State, after api.State, m *model) {
	hadVote := len(before.Coming) > 0 && before.Coming[0].Voted
	hasVote := len(after.Coming) > 0 && after.Coming[0].Voted
	more := len(after.Done) > len(before.Done) && before.Loaded
	add := func(n *int, happens bool) {
		if happens {
			*n++
		}
	}
	add(&h.voted, hasVote && !hadVote)
	add(&h.takenBack, hadVote && !hasVote && !more)
	add(&h.begunOnTime, hadVote && more)
	add(&h.begunAtOnce, len(before.Coming) == 0 && more)
	add(&h.open, hadVote && more && m.openFor(m.begun-1) != nil)
	add(&h.indicated, hasVote && m.indicator() != 0)
	silent := m.file != nil && len(after.Coming) == 0 && m.utc() >= m.file.Expiry
	add(&h.fullTable, silent && m.vote() != 0 && len(after.Done) == 40)
	add(&h.edgeOffset, silent && m.vote() != 0 && m.leaps[m.begun-1].Offset%200 == 0)
	add(&h.unsure, silent && m.vote() == 0 && len(m.said) > 1)
}

// TestSourcesAgainstTheModel lets drawn calls, Hear among them, go to a server and to the model.
func TestSourcesAgainstTheModel(t *testing.T) {
	r := rand.New(rand.NewSource(5))
	var h happened
	for run := range 4000 {
		leaps := lastMonths(r)
		c := api.Config{Mode: run % 3, Sources: r.Intn(9), Fresh: []int{1, 2, 3600, 86400, 604800}[r.Intn(5)]}
		if c.Mode != api.Step {
			c.Window = []int{3600, 86400, 604800}[r.Intn(3)]
		}
		c.Start = api.Time{Sec: turnOf(leaps, len(leaps)-1) + r.Intn(86400*60), Frac: r.Intn(1 << 32)}
		x, m := made(t, c), modelOf(c)
		for range 30 {
			before := x.See()
			switch r.Intn(5) {
			case 0:
				s := fittingFile(r, m, leaps)
				e, n := x.Load(s)
				if want, line := m.load(s); e != want || n != line {
					t.Fatalf("P11: Load(%q) = %d, %d, want %d, %d; the server: %+v", s, e, n, want, line, x.See())
				}
			case 1, 2:
				by := votesStep(r, m)
				if e, want := x.Advance(by), m.advance(by); e != want {
					t.Fatalf("P10: Advance(%v) = %d, want %d; the server: %+v", by, e, want, x.See())
				}
			default:
				hearDrawn(t, r, m, x)
			}
			agree(t, m, x)
			h.count(before, x.See(), m)
		}
	}
	t.Logf("%+v", h)
	for _, n := range []int{h.voted, h.takenBack, h.begunOnTime, h.begunAtOnce, h.open, h.indicated, h.fullTable, h.edgeOffset, h.unsure} {
		if n < 100 {
			t.Errorf("the drawn calls are too much alike: %+v", h)
		}
	}
}
