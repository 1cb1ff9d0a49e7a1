package file

const (
	maxDigits     = 11 // of a number
	wordHexDigits = 8  // of a word of the digest
	digestWords   = 5
)

func begins(text string, with string) bool {
	return len(text) >= len(with) && text[:len(with)] == with
}

// lineEnd is where the line that begins there has its newline, or the text its end.
func lineEnd(text string, begin int) int {
	end := begin
	for end < len(text) && text[end] != '\n' {
		end++
	}
	return end
}

func isGap(c byte) bool {
	return c == ' ' || c == '\t'
}

func wordsOf(line string) []string {
	var words []string
	begin := 0
	for begin < len(line) {
		end := begin
		for end < len(line) && !isGap(line[end]) {
			end++
		}
		if end > begin {
			words = append(words, line[begin:end])
		}
		begin = end + 1
	}
	return words
}

func isNumber(word string) bool {
	if len(word) < 1 || len(word) > maxDigits {
		return false
	}
	for i := 0; i < len(word); i++ {
		if !isDigit(word[i]) {
			return false
		}
	}
	return true
}

// valueOf is for numbers alone: their eleven digits at most cannot overflow.
func valueOf(number string) int {
	value := 0
	for i := 0; i < len(number); i++ {
		value = 10*value + int(number[i]) - '0'
	}
	return value
}

func isHexWord(word string) bool {
	if len(word) < 1 || len(word) > wordHexDigits {
		return false
	}
	for i := 0; i < len(word); i++ {
		if !isDigit(word[i]) && (word[i] < 'a' || word[i] > 'f') {
			return false
		}
	}
	return true
}

func isDigit(c byte) bool {
	return c >= '0' && c <= '9'
}

func fullHexWord(word string) string {
	full := word
	for len(full) < wordHexDigits {
		full = "0" + full
	}
	return full
}
