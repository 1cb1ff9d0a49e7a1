package pull_test

import (
	"math"
	"math/big"
	"math/rand"
	"testing"

	"smear/pull"
)

var windows = []int{1, 2, 3, 3600, 3602, 7200, 43198, 86400, 123456, 604798, 604800}

func whole(n int) *big.Int { return big.NewInt(int64(n)) }

// linear is the pull as the document has it, not rounded.
func linear(n int, w int) *big.Rat { return new(big.Rat).SetFrac(whole(n), whole(w)) }

func g(i *big.Int) *big.Int {
	last := new(big.Int).Sub(whole(3072), new(big.Int).Mul(whole(2), i))
	return last.Mul(last, i).Mul(last, i).Mul(last, whole(4))
}

// smooth is the pull as the document has it, not rounded.
func smooth(n int, w int) *big.Rat {
	x := new(big.Int).Mul(whole(w), whole(1<<32))
	scaled := new(big.Int).Mul(whole(1024), whole(n))
	i, r := new(big.Int).DivMod(scaled, x, new(big.Int))
	rise := new(big.Int).Sub(g(new(big.Int).Add(i, whole(1))), g(i))
	share := new(big.Rat).SetFrac(rise.Mul(rise, r), x)
	return share.Add(share, new(big.Rat).SetInt(g(i)))
}

// rounded has both ways.
func rounded(q *big.Rat) (int, int) {
	down := new(big.Int).Div(q.Num(), q.Denom())
	up := new(big.Int).Set(down)
	if !q.IsInt() {
		up.Add(up, whole(1))
	}
	return int(down.Int64()), int(up.Int64())
}

func check(t *testing.T, n int, w int) {
	t.Helper()
	down, up := rounded(linear(n, w))
	if gotDown, gotUp := pull.Linear(n, w, false), pull.Linear(n, w, true); gotDown != down || gotUp != up {
		t.Fatalf("P13: linear, %d parts of %d seconds: %d, %d, want %d, %d", n, w, gotDown, gotUp, down, up)
	}
	down, up = rounded(smooth(n, w))
	if gotDown, gotUp := pull.Smooth(n, w, false), pull.Smooth(n, w, true); gotDown != down || gotUp != up {
		t.Fatalf("P13: smooth, %d parts of %d seconds: %d, %d, want %d, %d", n, w, gotDown, gotUp, down, up)
	}
}

// TestPieces has the edges of each piece of the smooth curve, and what stands beside them.
func TestPieces(t *testing.T) {
	for _, w := range windows {
		all := w << 32
		for i := range 1025 {
			edge := i * (all / 1024)
			for _, n := range []int{edge - w, edge - 2, edge - 1, edge, edge + 1, edge + 2, edge + w, edge + all/2048} {
				if n >= 0 && n < all {
					check(t, n, w)
				}
			}
		}
	}
}

func TestDrawnTimes(t *testing.T) {
	r := rand.New(rand.NewSource(13))
	for range 60000 {
		w := 2 * (1800 + r.Intn(300601))
		n := r.Intn(w << 32)
		if r.Intn(3) == 0 {
			n -= n % (1 << 32)
		}
		check(t, n, w)
	}
}

// TestKnownPulls has the document's examples, and the ends of a window.
func TestKnownPulls(t *testing.T) {
	for _, c := range []struct{ sec, parts, linear, smooth int }{
		{0, 0, 0, 0}, {21600, 0, 1 << 30, 671088640}, {43200, 0, 1 << 31, 1 << 31}, {64800, 0, 3 << 30, 3623878656},
		{86399, 1<<32 - 1, 1<<32 - 1, 1<<32 - 1},
	} {
		n := c.sec<<32 + c.parts
		if got := pull.Linear(n, 86400, false); got != c.linear {
			t.Errorf("P13: linear at %d: %d, want %d", c.sec, got, c.linear)
		}
		if got := pull.Smooth(n, 86400, false); got != c.smooth {
			t.Errorf("P13: smooth at %d: %d, want %d", c.sec, got, c.smooth)
		}
	}
	for _, w := range windows[1:] {
		if l, s := pull.Linear(w<<32-1, w, true), pull.Smooth(w<<32-1, w, true); l != 1<<32 || s != 1<<32 {
			t.Errorf("P13: one part ahead of the end of %d seconds, rounded up: %d, %d", w, l, s)
		}
	}
}

// TestNoWindow has windows that are over or that cannot be.
func TestNoWindow(t *testing.T) {
	for _, c := range []struct{ n, w int }{
		{-1, 3600}, {3600 << 32, 3600}, {3600<<32 + 1, 3600}, {math.MaxInt, 3600}, {math.MinInt, 3600}, {604800 << 32, 604800},
		{0, 0}, {1, 0}, {1, -1}, {1, -3600}, {1, math.MinInt}, {1, math.MaxInt}, {1, 604801}, {1, 1 << 32}, {1 << 62, 1 << 31}, {1, 1 << 31},
	} {
		for _, up := range []bool{false, true} {
			if l, s := pull.Linear(c.n, c.w, up), pull.Smooth(c.n, c.w, up); l != 0 || s != 0 {
				t.Errorf("P13: %d parts of %d seconds: %d, %d", c.n, c.w, l, s)
			}
		}
	}
}
