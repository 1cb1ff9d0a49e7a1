// Package pull tells by how much a window has moved the time that is served.
package pull

import (
	"smear/api"
	"smear/clock"
)

// pieces is how many straight pieces the smooth curve has.
const pieces = 1024

// Linear is the pull of a window that has been open for n parts of a second,
// in parts, rounded up or down (P13); 0, if there is no such window, or it is over.
func Linear(n int, window int, up bool) int {
	if !isOpen(n, window) {
		return 0
	}
	return quotient(n, window, up)
}

// Smooth is the same for the smooth curve.
func Smooth(n int, window int, up bool) int {
	if !isOpen(n, window) {
		return 0
	}
	all := window * clock.Parts
	i := quotient(pieces*n, all, false)
	rest := pieces*n - i*all
	rise := curve(i+1) - curve(i)
	// rise times rest is too great for an int, so the whole seconds of the rest
	// and its parts go apart. To round the parts first turns nothing: all that
	// is added to them is whole, and it is rounded to the same side again.
	parts := quotient(rise*(rest%clock.Parts), clock.Parts, up)
	return curve(i) + quotient(rise*(rest/clock.Parts)+parts, window, up)
}

// isOpen also keeps the products above within an int.
func isOpen(n int, window int) bool {
	if window < 1 || window > api.MaxWindow {
		return false
	}
	return n >= 0 && n < window*clock.Parts
}

// curve is the pull behind i pieces of the smooth curve: g in the document.
func curve(i int) int { return 4 * i * i * (3*pieces - 2*i) }

// quotient is a, not below 0, by b, above 0.
func quotient(a int, b int, up bool) int {
	if b < 1 {
		return 0
	}
	q := a / b
	if up && a%b != 0 {
		q++
	}
	return q
}
