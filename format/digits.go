package format

import "strings"

const (
	minute = 60 // seconds
	hour   = 60 * minute
)

// builder: of an offset's digits.
type builder struct{ text strings.Builder }

func (b *builder) sign(off int) {
	if off < 0 {
		b.text.WriteByte('-')
		return
	}
	b.text.WriteByte('+')
}

// pair puts two digits.
func (b *builder) pair(n int) {
	b.text.WriteByte(byte('0' + n/10))
	b.text.WriteByte(byte('0' + n%10))
}

// digits answers an offset's digits; it must be one that Abbr can be asked for, so that its hours have two of them.
func digits(off int) string {
	size := max(off, -off)
	parts := [...]int{size / hour, size % hour / minute, size % minute}
	b := &builder{}
	b.sign(off)
	put := b.pair
	for _, n := range parts[:told(parts)] {
		put(n)
	}
	return b.text.String()
}

// told answers how many of hours, minutes and seconds are told: all up to the last one that is not 0, and hours always.
func told(parts [3]int) int {
	n := len(parts)
	for n > 1 && parts[n-1] == 0 {
		n--
	}
	return n
}
