package impl

import "strings"

// stuffRun is how many ones a nought is put behind.
const stuffRun = 5

// stuffState is a state of StuffPut or StuffGet: it takes a bit, and returns
// what is written for it and the next state.
type stuffState func(bit byte) (string, stuffState)

// putBehind is the state of StuffPut behind so many ones.
func putBehind(ones int) stuffState {
	return func(bit byte) (string, stuffState) {
		switch {
		case bit == '0':
			return "0", putBehind(0)
		case ones+1 == stuffRun:
			return "10", putBehind(0)
		}
		return "1", putBehind(ones + 1)
	}
}

// getBehind is the state of StuffGet behind so many ones. It takes what is not
// a one for a nought, and drops a bit behind five ones without a look: StuffGet
// sees later whether these were noughts.
func getBehind(ones int) stuffState {
	return func(bit byte) (string, stuffState) {
		switch {
		case ones == stuffRun:
			return "", getBehind(0)
		case bit == '1':
			return "1", getBehind(ones + 1)
		}
		return "0", getBehind(0)
	}
}

// write is what a state and those that follow it write for bits.
func (state stuffState) write(bits string) string {
	var out strings.Builder
	for i := range len(bits) {
		var text string
		text, state = state(bits[i])
		out.WriteString(text)
	}
	return out.String()
}

// StuffPut is bits with a nought behind each five ones, or nothing if bits are
// not ok.
func StuffPut(bits string) string {
	if !BitsOk(bits) {
		return ""
	}
	return putBehind(0).write(bits)
}

// StuffGet is bits without these, and whether StuffPut wrote them. To write
// them again settles that: also for five ones at the end, too many bits, and
// what is no bit.
func StuffGet(bits string) (string, bool) {
	text := getBehind(0).write(bits)
	if StuffPut(text) != bits {
		return "", false
	}
	return text, true
}

// StuffMany is how many noughts are put, or -1 if bits are not ok.
func StuffMany(bits string) int {
	if !BitsOk(bits) {
		return -1
	}
	return len(StuffPut(bits)) - len(bits)
}
