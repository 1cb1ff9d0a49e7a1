// Package packet reads clients' packets, and writes what is answered to them.
package packet

import "smear/api"

const (
	headBytes  = 48 // of a packet without extension fields, and of an answer
	minField   = 16 // bytes of an extension field
	clientMode = 3
	serverMode = 4
	maxVersion = 4

	// The answer says that the clock is good to 2^-20 of a second: -20 in one byte.
	precision = 236

	noughts = "\x00\x00\x00\x00\x00\x00\x00\x00"
)

// IsClients tells whether a packet is a client's (P15).
func IsClients(packet string) bool {
	if len(packet) < headBytes || len(packet) > api.MaxPacket {
		return false
	}
	version := versionOf(packet[0])
	if packet[0]&7 != clientMode || version < 1 || version > maxVersion {
		return false
	}
	return isFields(packet[headBytes:])
}

func versionOf(first byte) byte { return first >> 3 & 7 }

// isFields tells whether bytes are extension fields, one behind the other, or none at all.
func isFields(bytes string) bool {
	rest := bytes
	for len(rest) > 0 {
		length := fieldLength(rest)
		if length < minField || length > len(rest) {
			return false
		}
		rest = rest[length:]
	}
	return true
}

// fieldLength is how long the field is, as it says itself, with which bytes begin; 0, if it cannot be.
func fieldLength(bytes string) int {
	if len(bytes) < minField {
		return 0
	}
	length := int(bytes[2])<<8 | int(bytes[3])
	if length%4 != 0 {
		return 0
	}
	return length
}

// Answer is what is answered to a client's packet (P15): the indicator, and the
// time that is served, or that there is none.
func Answer(packet string, indicator int, served bool, time api.Time) string {
	if len(packet) < headBytes {
		return ""
	}
	stratum := byte(0)
	name := "INIT"
	if served {
		stratum = 1
		name = "LEAP"
	}
	first := byte(indicator)<<6 | versionOf(packet[0])<<3 | serverMode
	begin := string([]byte{first, stratum, packet[2], precision})
	stamp := fourBytes(time.Sec) + fourBytes(time.Frac)
	return begin + noughts + name + stamp + packet[40:headBytes] + stamp + stamp
}

// fourBytes is a number modulo 2^32, the high byte first.
func fourBytes(n int) string {
	return string([]byte{byte(n >> 24), byte(n >> 16), byte(n >> 8), byte(n)})
}
