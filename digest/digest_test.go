package digest

import (
	"crypto/sha1"
	"encoding/hex"
	"strings"
	"testing"
)

func library(data string) string {
	sum := sha1.Sum([]byte(data))
	return hex.EncodeToString(sum[:])
}

func TestKnownDigests(t *testing.T) {
	known := [][2]string{
		{"", "da39a3ee5e6b4b0d3255bfef95601890afd80709"},
		{"abc", "a9993e364706816aba3e25717850c26c9cd0d89d"},
		{"abcdbcdecdefdefgefghfghighijhijkijkljklmklmnlmnomnopnopq", "84983e441c3bd26ebaae4aa1f95129e5e54670f1"},
		{strings.Repeat("a", 1000000), "34aa973cd4c4daa4f61eeb2bdbad27316534016f"},
		{"22720608002400000000227206080010228778560011", "7679b25e31e5a7731a6a86523cab6ca641f6a862"},
	}
	for _, k := range known {
		if text := Of(k[0]); text != k[1] {
			t.Errorf("P4: the digest of %d bytes = %q, want %q", len(k[0]), text, k[1])
		}
	}
}

// TestEveryLength goes over the lengths at which the padding takes one block more.
func TestEveryLength(t *testing.T) {
	data := make([]byte, 0, 1100)
	for n := 0; n <= 1100; n++ {
		if text := Of(string(data)); text != library(string(data)) {
			t.Fatalf("P4: the digest of %d bytes = %q, want %q", n, text, library(string(data)))
		}
		data = append(data, byte(n*n+n/7))
	}
}

// TestBytesThatLookLikePadding has the bytes that the padding is made of, and bytes that are no text.
func TestBytesThatLookLikePadding(t *testing.T) {
	for _, unit := range []string{"\x00", "\x80", "\xff", "\x80\x00", "\n", "\xc3\x28", "é"} {
		for n := 1; n <= 130; n++ {
			data := strings.Repeat(unit, n)
			if text := Of(data); text != library(data) {
				t.Fatalf("P4: the digest of %d times %q = %q, want %q", n, unit, text, library(data))
			}
		}
	}
}

func TestEveryByte(t *testing.T) {
	for b := 0; b < 256; b++ {
		data := string([]byte{byte(b)})
		if text := Of(data); text != library(data) {
			t.Errorf("P4: the digest of the byte %d = %q, want %q", b, text, library(data))
		}
	}
}

// TestLengthOfManyBits has lengths in bits that fill the third byte, and the fourth.
func TestLengthOfManyBits(t *testing.T) {
	for _, n := range []int{1<<13 - 1, 1 << 13, 1<<21 - 1, 1 << 21, 1<<21 + 55, 1<<21 + 56} {
		data := strings.Repeat("q", n)
		if text := Of(data); text != library(data) {
			t.Errorf("P4: the digest of %d bytes = %q, want %q", n, text, library(data))
		}
	}
}

func TestFortySmallDigits(t *testing.T) {
	for n := 0; n < 500; n++ {
		text := Of(strings.Repeat("x", n))
		if len(text) != 40 || strings.Trim(text, "0123456789abcdef") != "" {
			t.Fatalf("P4: the digest of %d bytes is %q", n, text)
		}
	}
}
