// Package file reads and writes files of leap seconds.
package file

import (
	"smear/api"
	"smear/digest"
	"smear/table"
)

// reading is what the lines so far said. What may stand there once is empty as
// long as it was not there.
type reading struct {
	update, expiry, hash string
	leaps                []api.Leap
	digits               string // of all numbers, as they stand in the file: the digest is over these
}

// Parse reads a file (P5).
func Parse(text string) (api.Table, api.Errno, int) {
	if len(text) > api.MaxText {
		return api.Table{}, api.ErrLong, 0
	}
	var r reading
	begin := 0
	for number := 0; begin <= len(text); number++ {
		end := lineEnd(text, begin)
		e := r.takeLine(text[begin:end])
		if e != api.OK {
			return api.Table{}, e, number
		}
		begin = end + 1
	}
	t, e := r.finish()
	return t, e, 0
}

func (r *reading) takeLine(line string) api.Errno {
	switch {
	case begins(line, "#$"):
		return r.takeUpdate(wordsOf(line[2:]))
	case begins(line, "#@"):
		return r.takeExpiry(wordsOf(line[2:]))
	case begins(line, "#h"):
		return r.takeHash(wordsOf(line[2:]))
	case begins(line, "#"):
		return api.OK
	}
	return r.takeEntry(wordsOf(line))
}

func (r *reading) takeUpdate(words []string) api.Errno {
	number, e := numberOnce(words, r.update)
	r.update += number
	r.digits += number
	return e
}

func (r *reading) takeExpiry(words []string) api.Errno {
	number, e := numberOnce(words, r.expiry)
	r.expiry += number
	r.digits += number
	return e
}

// numberOnce is the one number of a line of a kind that may stand there once,
// empty beside an error: before is what an earlier line of that kind said.
func numberOnce(words []string, before string) (string, api.Errno) {
	if len(words) != 1 || !isNumber(words[0]) {
		return "", api.ErrText
	}
	if before != "" {
		return "", api.ErrTwice
	}
	return words[0], api.OK
}

func (r *reading) takeHash(words []string) api.Errno {
	if len(words) != digestWords {
		return api.ErrText
	}
	hash := ""
	for i := 0; i < len(words); i++ {
		if !isHexWord(words[i]) {
			return api.ErrText
		}
		hash += fullHexWord(words[i])
	}
	if r.hash != "" {
		return api.ErrTwice
	}
	r.hash = hash
	return api.OK
}

func (r *reading) takeEntry(words []string) api.Errno {
	if len(words) == 0 {
		return api.OK
	}
	if len(words) < 2 || !isNumber(words[0]) || !isNumber(words[1]) {
		return api.ErrText
	}
	if len(words) > 2 && !begins(words[2], "#") {
		return api.ErrText
	}
	leap := api.Leap{At: valueOf(words[0]), Offset: valueOf(words[1])}
	if !table.CanFollow(r.leaps, leap) {
		return api.ErrEntry
	}
	r.leaps = append(r.leaps, leap)
	r.digits += words[0] + words[1]
	return api.OK
}

// finish finds what is wrong with the lines together, where none is wrong alone.
func (r *reading) finish() (api.Table, api.Errno) {
	if r.update == "" || r.expiry == "" || r.hash == "" || len(r.leaps) == 0 {
		return api.Table{}, api.ErrMissing
	}
	t := api.Table{Update: valueOf(r.update), Expiry: valueOf(r.expiry), Leaps: r.leaps}
	if !table.IsTable(t) {
		return api.Table{}, api.ErrTable
	}
	if digest.Of(r.digits) != r.hash {
		return api.Table{}, api.ErrHash
	}
	return t, api.OK
}
