package tests

import (
	"fmt"
	"math/rand"
	"strconv"
	"strings"
	"testing"
)

// someBytes returns texts that every promise about bytes is tried with: none, each single byte, the limits of a bit string, and mixed ones.
func someBytes() []string {
	list := []string{"", "123456789", "\x00\x00\x00", "\xff\xff\xff\xff", strings.Repeat("\xff", 149), strings.Repeat("\xff", 150)}
	for b := range 256 {
		list = append(list, string([]byte{byte(b)}))
	}
	source := rand.New(rand.NewSource(1))
	for n := range 60 {
		list = append(list, mixedBytes(source, n))
	}
	return append(list, mixedBytes(source, 151), mixedBytes(source, 2000))
}

func mixedBytes(source *rand.Rand, many int) string {
	text := make([]byte, many)
	for i := range text {
		text[i] = byte(source.Intn(256))
	}
	return string(text)
}

// someBits returns bit strings: all of up to ten bits, mixed ones in which ones are frequent, and the limit itself.
func someBits() []string {
	list := allBits(10)
	source := rand.New(rand.NewSource(2))
	for n := 11; n < 200; n += 3 {
		list = append(list, mixedBits(source, n))
	}
	return append(list, mixedBits(source, 1199), mixedBits(source, 1200), strings.Repeat("1", 1200), strings.Repeat("0", 1200))
}

func mixedBits(source *rand.Rand, many int) string {
	bits := make([]byte, many)
	for i := range bits {
		bits[i] = '1'
		if source.Intn(6) == 0 {
			bits[i] = '0'
		}
	}
	return string(bits)
}

// allBits returns every bit string of at most so many bits.
func allBits(most int) []string {
	return allOf("01", most)
}

// allOf returns every string of at most so many of these bytes.
func allOf(letters string, most int) []string {
	list := []string{""}
	for i := 0; len(list[i]) < most; i++ {
		for k := range len(letters) {
			list = append(list, list[i]+letters[k:k+1])
		}
	}
	return list
}

// mixedOf is a text in which these bytes are frequent.
func mixedOf(source *rand.Rand, letters string, many int) string {
	text := []byte(mixedBytes(source, many))
	for i := range text {
		if source.Intn(3) > 0 {
			text[i] = letters[source.Intn(len(letters))]
		}
	}
	return string(text)
}

// sameOk checks a text that comes with a bool.
func sameOk(t *testing.T, what string, text string, ok bool, want string, wanted bool) {
	t.Helper()
	if text != want || ok != wanted {
		t.Fatalf("%s is %s (%d bytes), %v, not %s (%d bytes), %v", what, shown(text), len(text), ok, shown(want), len(want), wanted)
	}
}

// sameBits checks bits that come behind a state.
func sameBits[T comparable](t *testing.T, what string, state T, bits string, want T, wanted string) {
	t.Helper()
	if state != want || bits != wanted {
		t.Fatalf("%s is %v, %s (%d bits), not %v, %s (%d bits)", what, state, shown(bits), len(bits), want, shown(wanted), len(wanted))
	}
}

// noBits returns strings that are not bit strings.
func noBits() []string {
	return []string{
		"2", "/", "x", " ", "-1", "\x00", "\x01", "\xb0", "\xb1", "\xff", "0 1", "01\n", "١",
		"1111111x", "x1111111", "0000000/", "00000002",
		strings.Repeat("0", 1201), strings.Repeat("1", 1201), strings.Repeat("01", 604), strings.Repeat("1", 1199) + "2",
	}
}

// shown shortens a text for a message.
func shown(s string) string {
	if len(s) > 80 {
		s = s[:80] + ".."
	}
	return strconv.Quote(s)
}

// same stops a test at a result that is not the one that was wanted: the loops would report it for most inputs.
func same[T comparable](t *testing.T, what string, got, want T) {
	t.Helper()
	if got != want {
		t.Fatalf("%s is %.200q, not %.200q", what, fmt.Sprint(got), fmt.Sprint(want))
	}
}
