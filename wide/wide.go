// Package wide is layer 1, whole numbers of 128 bits: see shared/doc/01-wide.md.
package wide

import (
	"math"
	"math/bits"
	"strconv"
	"strings"

	"gnomon/api"
)

// The magnitude of a number is at most 2^127, and its higher half at most 2^63: so one division by this power of ten, the greatest one of 64 bits, leaves two pieces of 64 bits.
const (
	piece       = 10_000_000_000_000_000_000
	pieceDigits = 19
)

// longest is how many bytes the text of -2^127 has; no number's text has more.
const longest = 40

// Of tells a number of 64 bits, with a sign, as one of 128.
func Of(n int64) api.Int { return api.Int{Hi: n >> 63, Lo: uint64(n)} }

// Unsigned tells a number of 64 bits, without a sign, as one of 128.
func Unsigned(n uint64) api.Int { return api.Int{Lo: n} }

// Add tells a sum.
func Add(a, b api.Int) api.Int {
	lo, carry := bits.Add64(a.Lo, b.Lo, 0)
	return api.Int{Hi: a.Hi + b.Hi + int64(carry), Lo: lo}
}

// Sub tells a difference.
func Sub(a, b api.Int) api.Int {
	lo, borrow := bits.Sub64(a.Lo, b.Lo, 0)
	return api.Int{Hi: a.Hi - b.Hi - int64(borrow), Lo: lo}
}

// Neg tells the number with the other sign.
func Neg(a api.Int) api.Int { return Sub(api.Int{}, a) }

// Compare tells which of two numbers is less.
func Compare(a, b api.Int) int {
	switch {
	case a == b:
		return 0
	case a.Hi < b.Hi, a.Hi == b.Hi && a.Lo < b.Lo:
		return -1
	}
	return 1
}

// Sign tells whether a number is below 0, 0, or above 0.
func Sign(a api.Int) int { return Compare(a, api.Int{}) }

// Print tells a number as text.
func Print(a api.Int) string {
	text := digits(magnitude(a))
	if a.Hi < 0 {
		return "-" + text
	}
	return text
}

// Parse tells the number of a text.
func Parse(text string) (api.Int, api.Errno) {
	// What is longer is no number's text; without this look, a long one would be read to its end for nothing.
	if len(text) > longest {
		return api.Int{}, api.ErrForm
	}
	// If there is a number of that text, it is the one that was read: so whatever is wrong with a text shows when it is told back.
	a := read(text)
	if Print(a) != text {
		return api.Int{}, api.ErrForm
	}
	return a, api.OK
}

// Float tells the nearest float.
func Float(a api.Int) float64 {
	hi, lo := magnitude(a)
	lead := bits.LeadingZeros64(hi)
	top := hi<<lead | lo>>(64-lead)
	// A float has room for 53 of top's bits; of what lies below top, the rounding asks only whether it is 0, and any bit below the 53 tells it that.
	if lo<<lead != 0 {
		top |= 1
	}
	x := math.Ldexp(float64(top), 64-lead)
	if a.Hi < 0 {
		return -x
	}
	return x
}

// Mul tells the whole product of two numbers of 64 bits.
func Mul(a, b uint64) (hi, lo uint64) { return bits.Mul64(a, b) }

// Div tells quotient and rest of a number of 128 bits.
func Div(hi, lo, by uint64) (q, r uint64, e api.Errno) {
	if by == 0 {
		return 0, 0, api.ErrArg
	}
	if hi >= by {
		return 0, 0, api.ErrRange
	}
	q, r = bits.Div64(hi, lo, by)
	return q, r, api.OK
}

// magnitude tells a number without its sign. (That of -2^127 has room here, as it has not in an Int.)
func magnitude(a api.Int) (hi, lo uint64) {
	if a.Hi < 0 {
		a = Neg(a)
	}
	return uint64(a.Hi), a.Lo
}

// digits tells a magnitude in base ten.
func digits(hi, lo uint64) string {
	high, low := bits.Div64(hi, lo, piece)
	text := strconv.FormatUint(low, 10)
	if high == 0 {
		return text
	}
	return strconv.FormatUint(high, 10) + strings.Repeat("0", pieceDigits-len(text)) + text
}

// read tells the number of a text that is one, brought round; of any other text it tells whatever comes of it.
func read(text string) api.Int {
	number, negative := strings.CutPrefix(text, "-")
	var a api.Int
	for i := range len(number) {
		a = Add(timesTen(a), Of(int64(number[i])-'0'))
	}
	if negative {
		return Neg(a)
	}
	return a
}

// timesTen tells ten times a number, brought round.
func timesTen(a api.Int) api.Int {
	hi, lo := Mul(a.Lo, 10)
	return api.Int{Hi: a.Hi*10 + int64(hi), Lo: lo}
}
