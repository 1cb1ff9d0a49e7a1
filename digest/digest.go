// Package digest has SHA-1, as FIPS 180-4 has it.
package digest

const (
	blockBytes  = 64
	lengthBytes = 8 // the padding ends with the length of the data in bits
	rounds      = 80
	hexDigits   = "0123456789abcdef"
)

// Each constant serves 20 rounds.
var roundConstants = [4]uint32{0x5a827999, 0x6ed9eba1, 0x8f1bbcdc, 0xca62c1d6}

// Of is the SHA-1 of the bytes, in 40 hexadecimal digits (P4).
func Of(data string) string {
	h := [5]uint32{0x67452301, 0xefcdab89, 0x98badcfe, 0x10325476, 0xc3d2e1f0}
	blocks := blockCount(len(data))
	for b := 0; b < blocks; b++ {
		w := schedule(data, b*blockBytes, blocks*blockBytes)
		h = mix(h, w)
	}
	text := ""
	for i := 0; i < len(h); i++ {
		text += hexWord(h[i])
	}
	return text
}

// blockCount counts the block with the closing bit, and one more where the
// length has no room behind that bit.
func blockCount(n int) int {
	blocks := n/blockBytes + 1
	if n%blockBytes >= blockBytes-lengthBytes {
		blocks++
	}
	return blocks
}

// paddedByte spares a padded copy of the data, which may be long: end is how
// many bytes that copy would have.
func paddedByte(data string, i int, end int) uint32 {
	if i >= 0 && i < len(data) {
		return uint32(data[i])
	}
	if i == len(data) {
		return 0x80
	}
	bits := uint64(len(data)) * 8
	behind := end - 1 - i
	if behind >= 0 && behind < lengthBytes {
		return uint32(bits >> (8 * behind) & 0xff)
	}
	return 0
}

func paddedWord(data string, i int, end int) uint32 {
	word := uint32(0)
	for k := 0; k < 4; k++ {
		word = word<<8 | paddedByte(data, i+k, end)
	}
	return word
}

func schedule(data string, begin int, end int) [rounds]uint32 {
	var w [rounds]uint32
	for t := 0; t < 16; t++ {
		w[t] = paddedWord(data, begin+4*t, end)
	}
	for t := 16; t < rounds; t++ {
		x := w[t-3] ^ w[t-8] ^ w[t-14] ^ w[t-16]
		w[t] = x<<1 | x>>31
	}
	return w
}

func mix(h [5]uint32, w [rounds]uint32) [5]uint32 {
	a, b, c, d, e := h[0], h[1], h[2], h[3], h[4]
	for t := 0; t < rounds; t++ {
		f := combine(t, b, c, d)
		next := (a<<5 | a>>27) + f + e + roundConstants[t/20] + w[t]
		e = d
		d = c
		c = b<<30 | b>>2
		b = a
		a = next
	}
	return [5]uint32{h[0] + a, h[1] + b, h[2] + c, h[3] + d, h[4] + e}
}

func combine(t int, b uint32, c uint32, d uint32) uint32 {
	switch t / 20 {
	case 0:
		return b&c | ^b&d
	case 2:
		return b&c | b&d | c&d
	}
	return b ^ c ^ d
}

func hexWord(word uint32) string {
	text := ""
	for i := 0; i < 8; i++ {
		top := word >> 28
		text += hexDigits[top : top+1]
		word <<= 4
	}
	return text
}
