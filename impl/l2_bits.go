package impl

import (
	"iter"
	"strings"
)

// BitsMax is how many bits there are at most.
const BitsMax = 1200

// BitsOk says whether bits are ok.
func BitsOk(bits string) bool {
	if len(bits) > BitsMax {
		return false
	}
	for i := range len(bits) {
		if bits[i] != '0' && bits[i] != '1' {
			return false
		}
	}
	return true
}

// bitOf is a bit as it stands in a bit string.
func bitOf(one bool) byte {
	if one {
		return '1'
	}
	return '0'
}

// bitsIn goes through the bits of bytes, the lowest of each byte first.
func bitsIn(s string) iter.Seq[byte] {
	return func(yield func(byte) bool) {
		for i := range 8 * len(s) {
			if !yield('0' + s[i/8]>>(i%8)&1) {
				return
			}
		}
	}
}

// BitsOf is bytes as bits, or nothing if there are too many.
func BitsOf(s string) string {
	if len(s) > BitsMax/8 {
		return ""
	}
	var out strings.Builder
	for bit := range bitsIn(s) {
		out.WriteByte(bit)
	}
	return out.String()
}

// BitsTo is bits as bytes, and whether they are bits of whole bytes.
func BitsTo(bits string) (string, bool) {
	if !BitsOk(bits) || len(bits)%8 != 0 {
		return "", false
	}
	out := make([]byte, len(bits)/8)
	for i := range len(bits) {
		if bits[i] == '1' {
			out[i/8] |= 1 << (i % 8)
		}
	}
	return string(out), true
}

// BitsRun is how many ones stand together at most, or -1 if bits are not ok.
func BitsRun(bits string) int {
	if !BitsOk(bits) {
		return -1
	}
	longest, ones := 0, 0
	for i := range len(bits) {
		if bits[i] == '1' {
			ones++
		} else {
			ones = 0
		}
		longest = max(longest, ones)
	}
	return longest
}

// BitsFill is bits with ones behind, up to whole bytes, or nothing if bits are
// not ok.
func BitsFill(bits string) string {
	if !BitsOk(bits) {
		return ""
	}
	out := []byte(bits)
	for len(out)%8 != 0 {
		out = append(out, '1')
	}
	return string(out)
}
