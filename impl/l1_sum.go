package impl

import "strings"

// Kinds of sums, by how many bytes they have.
const (
	SumShort = 2
	SumLong  = 4
)

// register is a checksum as it runs; a short one uses the lower half only.
type register uint32

// halve is one of the eight steps that a byte takes.
func (r register) halve(poly register) register {
	if r&1 == 0 {
		return r >> 1
	}
	return r>>1 ^ poly
}

// take is the register behind a byte; the table stands for the eight steps.
func (r register) take(table *sumTable, b byte) register {
	return r>>8 ^ table[byte(r)^b]
}

// sumTable has, for each byte value, the register that eight steps make of it.
type sumTable [256]register

// tableOf fills its result in a deferred function: it is built once for a call
// and not kept, since no state may stay between calls.
func tableOf(poly register) (table sumTable) {
	defer func() {
		for b := range table {
			r := register(b)
			for range 8 {
				r = r.halve(poly)
			}
			table[b] = r
		}
	}()
	return table
}

// polyOf is the reflected polynomial of a kind, and whether it is a kind.
func polyOf(kind int) (register, bool) {
	switch kind {
	case SumShort:
		return 33800, true
	case SumLong:
		return 3988292384, true
	}
	return 0, false
}

// SumStart is the sum of nothing, as it runs, or -1 if kind is no kind.
func SumStart(kind int) int {
	if _, ok := polyOf(kind); !ok {
		return -1
	}
	return 1<<(8*kind) - 1
}

// SumRun is a sum as it runs, behind bytes, or -1 if kind or sum is invalid.
func SumRun(kind int, sum int, s string) int {
	poly, ok := polyOf(kind)
	if !ok || sum < 0 || sum > SumStart(kind) {
		return -1
	}
	table := tableOf(poly)
	r := register(sum)
	for i := range len(s) {
		r = r.take(&table, s[i])
	}
	return int(r)
}

// SumOf is the sum of bytes, or -1 if kind is no kind.
func SumOf(kind int, s string) int {
	start := SumStart(kind)
	if start < 0 {
		return -1
	}
	return SumRun(kind, start, s) ^ start
}

// SumPut is bytes with their sum behind, or nothing if kind is no kind.
func SumPut(kind int, s string) string {
	sum := SumOf(kind, s)
	if sum < 0 {
		return ""
	}
	out := []byte(s)
	for range kind {
		out = append(out, byte(sum))
		sum >>= 8
	}
	return string(out)
}

// SumGet is bytes without their sum, and whether the sum was theirs.
func SumGet(kind int, s string) (string, bool) {
	if _, ok := polyOf(kind); !ok || len(s) < kind {
		return "", false
	}
	text := s[:len(s)-kind]
	if SumPut(kind, text) != s {
		return "", false
	}
	return strings.Clone(text), true
}

// SumGood is what a sum that runs comes to behind bytes and their sum, or -1
// if kind is no kind.
func SumGood(kind int) int {
	return SumRun(kind, SumStart(kind), SumPut(kind, ""))
}
