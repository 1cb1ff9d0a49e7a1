package file

import (
	"strconv"

	"smear/api"
	"smear/digest"
	"smear/table"
)

// Print writes a file (P6).
func Print(t api.Table) (string, api.Errno) {
	if !table.IsTable(t) {
		return "", api.ErrTable
	}
	update := strconv.Itoa(t.Update)
	expiry := strconv.Itoa(t.Expiry)
	text := "#$ " + update + "\n#@ " + expiry + "\n"
	digits := update + expiry
	for i := 0; i < len(t.Leaps); i++ {
		at := strconv.Itoa(t.Leaps[i].At)
		offset := strconv.Itoa(t.Leaps[i].Offset)
		text += at + " " + offset + "\n"
		digits += at + offset
	}
	return text + hashLine(digest.Of(digits)), api.OK
}

func hashLine(hash string) string {
	line := "#h"
	for begin := 0; begin+wordHexDigits <= len(hash); begin += wordHexDigits {
		line += " " + hash[begin:begin+wordHexDigits]
	}
	return line + "\n"
}
