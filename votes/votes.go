// Package votes keeps what sources say of the month's end, and tells what most of them say.
package votes

import (
	"smear/api"
	"smear/clock"
)

// What a source can say of the month's end.
const (
	neither = 0
	more    = 1 // one second more
	less    = 2 // one second less
	unknown = 3
)

// Votes is what each source said last.
type Votes struct {
	last [api.MaxSource]vote
}

type vote struct {
	heard bool // false, if the source has said nothing yet
	leap  int
	at    api.Time
}

// IsVote tells whether a source can say that.
func IsVote(leap int) bool { return leap >= neither && leap <= unknown }

// Hear puts what a source says in the place of what it said before.
func (v *Votes) Hear(source int, leap int, at api.Time) {
	if source < 0 || source >= len(v.last) {
		return
	}
	v.last[source] = vote{heard: true, leap: leap, at: at}
}

// Change is by how many seconds the month is longer, as most sources have it:
// 1, -1, or 0. It counts those that know, and spoke at most so many seconds ago.
func (v *Votes) Change(now api.Time, fresh int) int {
	longer := v.count(more, now, fresh)
	shorter := v.count(less, now, fresh)
	known := longer + shorter + v.count(neither, now, fresh)
	if 2*longer > known {
		return 1
	}
	if 2*shorter > known {
		return -1
	}
	return 0
}

func (v *Votes) count(leap int, now api.Time, fresh int) int {
	n := 0
	for i := 0; i < len(v.last); i++ {
		if v.last[i].leap == leap && v.last[i].isFresh(now, fresh) {
			n++
		}
	}
	return n
}

func (v vote) isFresh(now api.Time, fresh int) bool {
	age := clock.Gone(now, v.at)
	return v.heard && !clock.Earlier(api.Time{Sec: fresh}, age)
}
