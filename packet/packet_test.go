package packet_test

import (
	"bytes"
	"encoding/binary"
	"math/rand"
	"strings"
	"testing"

	"smear/api"
	"smear/packet"
)

// head is a client's packet without extension fields: each byte but the first is its place.
func head(first byte) string {
	b := []byte{first}
	for i := 1; i < 48; i++ {
		b = append(b, byte(i))
	}
	return string(b)
}

// field is an extension field of n bytes that says that it has says bytes.
func field(n int, says int) string {
	b := bytes.Repeat([]byte{0xff}, n)
	binary.BigEndian.PutUint16(b[2:], uint16(says))
	return string(b)
}

const client = 0x23 // version 4, mode 3

func TestFirstBytes(t *testing.T) {
	for first := range 256 {
		mode, version := first%8, first/8%8
		want := mode == 3 && version >= 1 && version <= 4
		if packet.IsClients(head(byte(first))) != want {
			t.Errorf("P15: a packet that begins with %#x: %v", first, !want)
		}
	}
}

// TestLengths has each length, without a field, and with one that has all the rest.
func TestLengths(t *testing.T) {
	for n := range 400 {
		s := (head(client) + strings.Repeat("\x00", 400))[:n]
		if packet.IsClients(s) != (n == 48) {
			t.Errorf("P15: %d bytes, and noughts behind: %v", n, n != 48)
		}
		if n >= 4 {
			want := n >= 16 && n%4 == 0 && 48+n <= 300
			if packet.IsClients(head(client)+field(n, n)) != want {
				t.Errorf("P15: a field of %d bytes: %v", n, !want)
			}
		}
	}
	for _, n := range []int{1000, 65536, 1 << 20} {
		if packet.IsClients(head(client) + strings.Repeat(field(16, 16), n/16)) {
			t.Errorf("P15: %d bytes behind the head: true", n)
		}
	}
}

func TestFields(t *testing.T) {
	for _, c := range []struct {
		rest string
		want bool
	}{
		{"", true}, {"x", false}, {"xxxx", false}, {field(16, 16), true}, {field(16, 16) + field(16, 16), true},
		{field(20, 20) + field(16, 16) + field(216, 216), true}, {field(252, 252), true}, {field(236, 236) + field(16, 16), true},
		{field(236, 236) + field(20, 20), false}, {strings.Repeat(field(16, 16), 15), true}, {strings.Repeat(field(16, 16), 16), false},
		{field(16, 0), false}, {field(16, 4), false}, {field(16, 12), false}, {field(32, 12) + field(16, 16), false}, {field(16, 15), false},
		{field(16, 17), false}, {field(17, 17), false}, {field(18, 18), false}, {field(19, 19), false}, {field(16, 20), false},
		{field(20, 16), false}, {field(16, 32), false}, {field(16, 65532), false}, {field(16, 65535), false}, {field(16, 16<<8), false},
		{field(16, 16) + "xxxx", false}, {field(16, 16) + field(15, 16), false}, {field(16, 16) + field(16, 20), false},
		{field(12, 12) + field(16, 16), false}, {field(8, 8) + field(16, 16), false}, {field(4, 4) + field(16, 16), false},
		{field(16, 256+16), false}, {field(16, 0xff10), false}, {field(20, 256+20), false}, {field(16, 16) + field(12, 12), false}, {field(252, 256), false}, {field(32, 16), false}, {field(24, 16) + field(16, 16), false},
	} {
		if packet.IsClients(head(client)+c.rest) != c.want {
			t.Errorf("P15: behind the head %q: %v", c.rest, !c.want)
		}
	}
}

// fieldsByWords is a second reading of what may stand behind the head: from each place a field leads to a later one.
func fieldsByWords(s string) bool {
	ends := make([]bool, len(s)+1)
	ends[0] = true
	for i := range s {
		if ends[i] && i+4 <= len(s) {
			says := int(binary.BigEndian.Uint16([]byte(s[i+2 : i+4])))
			if says >= 16 && says&3 == 0 && i+says <= len(s) {
				ends[i+says] = true
			}
		}
	}
	return ends[len(s)]
}

func TestDrawnPackets(t *testing.T) {
	r := rand.New(rand.NewSource(6))
	count := map[bool]int{}
	for range 100000 {
		s := head([]byte{0x0b, 0x13, 0x1b, 0x23, 0xe3, 0x23, 0x23, byte(r.Intn(256))}[r.Intn(8)])
		for range r.Intn(6) {
			n := 4 * (4 + r.Intn(16))
			says := n
			if r.Intn(12) == 0 {
				n = 4 + r.Intn(80)
			}
			if r.Intn(12) == 0 {
				says = r.Intn(100) + 256*r.Intn(2)
			}
			s += field(n, says)
		}
		version := s[0] >> 3 & 7
		want := len(s) <= 300 && s[0]&7 == 3 && version >= 1 && version <= 4 && fieldsByWords(s[48:])
		if packet.IsClients(s) != want {
			t.Fatalf("P15: %q: %v", s, !want)
		}
		count[want]++
	}
	if count[true] < 20000 || count[false] < 20000 {
		t.Errorf("the drawn packets are too much alike: %v", count)
	}
}

// wanted is the answer as P15 has it, laid into its places one by one.
func wanted(s string, indicator int, served bool, u api.Time) string {
	b := make([]byte, 48)
	b[0] = byte(64*indicator) + s[0]&0x38 + 4
	b[2], b[3] = s[2], 236
	copy(b[12:], "INIT")
	copy(b[24:], s[40:48])
	if served {
		b[1] = 1
		copy(b[12:], "LEAP")
	}
	for _, i := range []int{16, 32, 40} {
		binary.BigEndian.PutUint32(b[i:], uint32(u.Sec%(1<<32)))
		binary.BigEndian.PutUint32(b[i+4:], uint32(u.Frac))
	}
	return string(b)
}

func TestAnswers(t *testing.T) {
	times := []api.Time{{}, {Frac: 1}, {Sec: 1}, {Sec: 0x01020304, Frac: 0x05060708}, {Sec: 1<<32 - 1, Frac: 1<<32 - 1}, {Sec: 1 << 32},
		{Sec: 1<<32 + 5, Frac: 1 << 31}, {Sec: 2 << 32, Frac: 7}, {Sec: api.MaxSec, Frac: 1<<32 - 1}}
	for _, first := range []byte{0x0b, 0x13, 0x1b, 0x23, 0x4b, 0x93, 0xdb, 0xe3} {
		for _, u := range times {
			for indicator := range 4 {
				for _, rest := range []string{"", field(16, 16), field(252, 252)} {
					s := head(first) + rest
					if got, want := packet.Answer(s, indicator, true, u), wanted(s, indicator, true, u); got != want {
						t.Errorf("P15: %q, %d, %v: %q, want %q", s, indicator, u, got, want)
					}
				}
			}
		}
		s := head(first)
		if got, want := packet.Answer(s, 3, false, api.Time{}), wanted(s, 3, false, api.Time{}); got != want {
			t.Errorf("P15: %q without a table: %q, want %q", s, got, want)
		}
	}
}

// TestShortPackets: no packet that is cut off is answered.
func TestShortPackets(t *testing.T) {
	for n := range 48 {
		if got := packet.Answer(head(client)[:n], 0, true, api.Time{}); got != "" {
			t.Errorf("P1: the answer to %d bytes: %q", n, got)
		}
	}
}
