package tests

import (
	"math/rand"
	"strings"
	"testing"

	"loop.example/cotterpin/impl"
)

func TestStuffPutBehindFiveOnes(t *testing.T) {
	pairs := [][2]string{
		{"", ""},
		{"0", "0"},
		{"1111", "1111"},
		{"11111", "111110"},
		{"111110", "1111100"},
		{"111111", "1111101"},
		{"0111110", "01111100"},
		{"1111111111", "111110111110"},
		{"11110111101111", "11110111101111"},
		{"01111110", "011111010"},
		{strings.Repeat("1", 1200), strings.Repeat("111110", 240)},
		{strings.Repeat("0", 1200), strings.Repeat("0", 1200)},
	}
	for _, p := range pairs {
		same(t, "put of "+shown(p[0]), impl.StuffPut(p[0]), p[1])
		same(t, "many of "+shown(p[0]), impl.StuffMany(p[0]), len(p[1])-len(p[0]))
		got, ok := impl.StuffGet(p[1])
		if !ok || got != p[0] {
			t.Fatalf("get of %s is %s, %v", shown(p[1]), shown(got), ok)
		}
	}
}

// Promise 11.
func TestStuffIsInvertibleAndLimitsRuns(t *testing.T) {
	for _, bits := range someBits() {
		put := impl.StuffPut(bits)
		got, ok := impl.StuffGet(put)
		if !ok || got != bits {
			t.Fatalf("get of put of %s is %s, %v", shown(bits), shown(got), ok)
		}
		if impl.BitsRun(put) > 5 || strings.Contains(put, "111111") {
			t.Fatalf("put of %s has a longer run: %s", shown(bits), shown(put))
		}
	}
}

// Promise 12, tried with every string of up to fourteen bits: those that StuffPut writes are accepted, and no other.
func TestStuffIsCanonical(t *testing.T) {
	all := allBits(14)
	written := map[string]string{}
	for _, bits := range all {
		written[impl.StuffPut(bits)] = bits
	}
	for _, bits := range all {
		want, wanted := written[bits]
		got, ok := impl.StuffGet(bits)
		if ok != wanted || got != want {
			t.Fatalf("get of %s is %s, %v", bits, got, ok)
		}
	}
	for _, bits := range append(all, someBits()...) {
		got, ok := impl.StuffGet(bits)
		if ok && (impl.StuffPut(got) != bits || 5*len(bits) > 6*len(got)) {
			t.Fatalf("get of %s is %s", shown(bits), shown(got))
		}
	}
}

func TestStuffGetRefuses(t *testing.T) {
	source := rand.New(rand.NewSource(5))
	list := []string{
		"11111", "011111", "11111011111", "11111011111011111",
		"111111", "0111111", "1111111", "01111110", "111110111111",
		"2", "x", "0x", "11111x", "111112", "11111\x00", "1111x1", "\xb0", "\xff", "0 ", "١",
		strings.Repeat("0", 1201), strings.Repeat("111110", 240) + "0", strings.Repeat("111110", 240) + "1", strings.Repeat("111110", 241),
		"0" + strings.Repeat("111110", 240), strings.Repeat("1", 1440), mixedBits(source, 3000), strings.Repeat("0", 1440),
		strings.Repeat("111110", 239) + "11111", strings.Repeat("111110", 239) + "111111",
	}
	for _, bits := range list {
		if got, ok := impl.StuffGet(bits); ok || got != "" {
			t.Fatalf("get of %s is %s, %v", shown(bits), shown(got), ok)
		}
	}
}

func TestStuffGetAtTheLimit(t *testing.T) {
	for _, bits := range []string{strings.Repeat("1", 1200), strings.Repeat("0", 1200), strings.Repeat("11111", 239) + "00000", "0" + strings.Repeat("1", 1199)} {
		got, ok := impl.StuffGet(impl.StuffPut(bits))
		if !ok || got != bits {
			t.Fatalf("get of put of %s is %s, %v", shown(bits), shown(got), ok)
		}
	}
}

// Promise 13.
func TestStuffManyIsOnlyBehindFiveOnes(t *testing.T) {
	for _, bits := range someBits() {
		many := impl.StuffMany(bits)
		same(t, "many of "+shown(bits), many, len(impl.StuffPut(bits))-len(bits))
		if 5*many > len(bits) || (many == 0) != (impl.BitsRun(bits) < 5) {
			t.Fatalf("many of %s is %d", shown(bits), many)
		}
	}
	same(t, "many of none", impl.StuffMany(""), 0)
	same(t, "many of four", impl.StuffMany("1111"), 0)
	same(t, "many of five", impl.StuffMany("11111"), 1)
	same(t, "many of 1200", impl.StuffMany(strings.Repeat("1", 1200)), 240)
}

func TestStuffOfWhatIsNoBitString(t *testing.T) {
	for _, bits := range noBits() {
		same(t, "put of "+shown(bits), impl.StuffPut(bits), "")
		same(t, "many of "+shown(bits), impl.StuffMany(bits), -1)
	}
}
