// Package nums is layer 2: numbers and stamps as texts (see shared/doc/02-nums.md).
package nums

import (
	"strings"

	"cenotaph/api"
)

// Most is the greatest number that has a text of its own.
const Most = 1 << 50

// width is how many digits Most has.
const width = 16

// Text: a number in decimal digits; of one below 0 or above Most the nearer bound.
func Text(n int) string {
	n = within(n, 0, Most)
	var digits [width]byte
	from := width
	for more := true; more; more = n > 0 {
		from--
		digits[from] = byte('0' + n%10)
		n /= 10
	}
	return string(digits[from:])
}

// Read: the number of which this is the Text; ErrNum, if there is none.
func Read(s string) (int, api.Errno) {
	n := 0
	for _, r := range s {
		if r < '0' || r > '9' {
			return 0, api.ErrNum
		}
		n = n*10 + int(r-'0')
		if n > Most { // asked at each digit: the sum never wraps round
			return 0, api.ErrNum
		}
	}
	if Text(n) != s { // it is empty, or has noughts ahead
		return 0, api.ErrNum
	}
	return n, api.OK
}

// Add: the sum, from 0 to Most; of sums beyond these the nearer bound.
func Add(a, b int) int {
	// numbers that are bounded first have a sum that doesn't wrap round
	return within(within(a, -Most, Most)+within(b, -Most, Most), 0, Most)
}

// Stamp: a stamp as a text: its three numbers, with a point between.
func Stamp(s api.Stamp) string {
	return Text(s.Phys) + "." + Text(s.Logic) + "." + Text(s.Who)
}

// ReadStamp: the stamp of which this is the text; ErrNum, if there is none.
func ReadStamp(s string) (api.Stamp, api.Errno) {
	// parts that are missing are empty, and a fourth one is in the third: Read takes neither
	phys, rest, _ := strings.Cut(s, ".")
	logic, who, _ := strings.Cut(rest, ".")
	var numbers [3]int
	for i, part := range [3]string{phys, logic, who} {
		n, why := Read(part)
		if why != api.OK {
			return api.Stamp{}, why
		}
		numbers[i] = n
	}
	return api.Stamp{Phys: numbers[0], Logic: numbers[1], Who: numbers[2]}, api.OK
}

// within: a number, or the bound that it is beyond.
func within(n, least, most int) int {
	return min(max(n, least), most)
}
