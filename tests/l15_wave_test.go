package tests

import (
	"fmt"
	"math/rand"
	"strconv"
	"strings"
	"testing"

	"loop.example/cotterpin/impl"
)

// slowMan replaces each bit by two.
var slowMan = strings.NewReplacer("0", "01", "1", "10")

// inverted is a bit string with all bits turned.
func inverted(bits string) string {
	return strings.NewReplacer("0", "1", "1", "0").Replace(bits)
}

// levelOf is a level as a bit.
func levelOf(level bool) string {
	if level {
		return "1"
	}
	return "0"
}

// slowEdgePut finds each level by counting the noughts up to it: an even number leaves the first level.
func slowEdgePut(level bool, bits string) (bool, string) {
	last, out := level, ""
	for i := range len(bits) {
		last = level == (strings.Count(bits[:i+1], "0")%2 == 0)
		out += levelOf(last)
	}
	return last, out
}

// slowEdgeGet lays the levels over themselves, one place on.
func slowEdgeGet(level bool, t string) (bool, string) {
	all := levelOf(level) + t
	return strings.HasSuffix(all, "1"), inverted(turned(t, all))
}

// slowWaveMany counts both kinds of transition; they cannot overlap with their like.
func slowWaveMany(t string) int {
	return strings.Count(t, "01") + strings.Count(t, "10")
}

// someHalves returns bit strings that ManPut takes.
func someHalves() []string {
	list := allBits(9)
	source := rand.New(rand.NewSource(81))
	for n := 10; n < 600; n += 31 {
		list = append(list, evenBits(source, n), mixedBits(source, n))
	}
	return append(list, evenBits(source, 599), evenBits(source, 600), strings.Repeat("0", 600), strings.Repeat("1", 600))
}

// someWaves returns bit strings of all lengths, noughts and ones equally frequent in some of them.
func someWaves() []string {
	source := rand.New(rand.NewSource(82))
	list := someBits()
	for n := 11; n < 300; n += 17 {
		list = append(list, evenBits(source, n))
	}
	return append(list, evenBits(source, 1199), evenBits(source, 1200), strings.Repeat("01", 600), strings.Repeat("10", 600))
}

func manRead(t *testing.T, code string, want string, wanted bool) {
	t.Helper()
	bits, ok := impl.ManGet(code)
	sameOk(t, "man get of "+shown(code), bits, ok, want, wanted)
}

func edgePut(t *testing.T, level bool, bits string, want bool, wanted string) {
	t.Helper()
	got, text := impl.EdgePut(level, bits)
	sameBits(t, fmt.Sprintf("edge put of %s from %v", shown(bits), level), got, text, want, wanted)
}

func edgeGet(t *testing.T, level bool, bits string, want bool, wanted string) {
	t.Helper()
	got, text := impl.EdgeGet(level, bits)
	sameBits(t, fmt.Sprintf("edge get of %s from %v", shown(bits), level), got, text, want, wanted)
}

func TestManWritesTwoForOne(t *testing.T) {
	for bits, code := range map[string]string{"": "", "0": "01", "1": "10", "10": "1001", "01": "0110", "00": "0101", "11": "1010", "1101": "10100110"} {
		same(t, "man put of "+bits, impl.ManPut(bits), code)
		manRead(t, code, bits, true)
	}
}

// Promise 67.
func TestManIsInvertible(t *testing.T) {
	for _, bits := range someHalves() {
		code := impl.ManPut(bits)
		same(t, "man put of "+shown(bits), code, slowMan.Replace(bits))
		manRead(t, code, bits, true)
		if run := impl.BitsRun(code); run > 2 || run > len(bits) {
			t.Fatalf("man put of %s has %d ones together", shown(bits), run)
		}
		if many := impl.WaveMany(code); many < len(bits) {
			t.Fatalf("man put of %s turns %d times", shown(bits), many)
		}
	}
}

// Promise 68.
func TestManIsCanonical(t *testing.T) {
	codes := map[string]string{}
	for _, bits := range allBits(6) {
		codes[slowMan.Replace(bits)] = bits
	}
	for _, code := range allBits(13) {
		bits, found := codes[code]
		manRead(t, code, bits, found)
		if found {
			same(t, "man put of "+bits, impl.ManPut(bits), code)
		}
	}
	source := rand.New(rand.NewSource(83))
	for n := range 300 {
		code := slowMan.Replace(evenBits(source, 1+2*n))
		at := source.Intn(len(code))
		// A turned, lost or added bit leaves a pair of the same bits, or one bit alone.
		manRead(t, turned(code, oneAt(len(code), at)), "", false)
		manRead(t, code[:at]+code[at+1:], "", false)
		manRead(t, code[:at]+"0"+code[at:], "", false)
		manRead(t, code+"00", "", false)
		manRead(t, "11"+code, "", false)
	}
}

func TestManAtTheEdges(t *testing.T) {
	for _, bit := range []string{"0", "1"} {
		full := strings.Repeat(bit, 600)
		code := strings.Repeat(slowMan.Replace(bit), 600)
		same(t, "man put of 599", impl.ManPut(full[1:]), code[2:])
		same(t, "man put of 600", impl.ManPut(full), code)
		same(t, "man put of 601", impl.ManPut(full+bit), "")
		same(t, "man put of 1200", impl.ManPut(full+full), "")
		manRead(t, code, full, true)
		manRead(t, code[2:], full[1:], true)
		manRead(t, code+code[:1], "", false)
		manRead(t, code+code[:2], "", false)
		manRead(t, code+code, "", false)
		manRead(t, code[:1199], "", false)
		manRead(t, code[:1198]+bit+bit, "", false)
	}
	for _, code := range []string{"0", "1", "00", "11", "010", "101", "0100", "0111", "0001", "1101", "011", "1001100", "100110011"} {
		manRead(t, code, "", false)
	}
	for _, bits := range noBits() {
		same(t, "man put of "+shown(bits), impl.ManPut(bits), "")
		manRead(t, bits, "", false)
		manRead(t, slowMan.Replace(bits), "", false)
	}
	for _, code := range []string{"x", "0x", "x0", "1x", "x1", "xy", "01xy", "0 1 ", "2/", "01 ", "\x00\x01", "01\n0"} {
		manRead(t, code, "", false)
	}
}

func TestEdgeByHand(t *testing.T) {
	for _, x := range []struct {
		level bool
		bits  string
		end   bool
		text  string
	}{
		{false, "0110", false, "1110"}, {true, "0110", true, "0001"},
		{false, "", false, ""}, {true, "", true, ""},
		{false, "0", true, "1"}, {true, "0", false, "0"}, {false, "1", false, "0"}, {true, "1", true, "1"},
		{false, "0000", false, "1010"}, {true, "0000", true, "0101"}, {false, "1111", false, "0000"}, {true, "1111", true, "1111"},
		{false, "000", true, "101"}, {true, "10011", true, "10111"},
		{false, strings.Repeat("1", 1200), false, strings.Repeat("0", 1200)}, {true, strings.Repeat("1", 1200), true, strings.Repeat("1", 1200)},
		{false, strings.Repeat("0", 1200), false, strings.Repeat("10", 600)}, {true, strings.Repeat("0", 1199), false, strings.Repeat("01", 600)[:1199]},
	} {
		edgePut(t, x.level, x.bits, x.end, x.text)
		edgeGet(t, x.level, x.text, x.end, x.bits)
	}
}

func TestEdgeFollowsTheDocument(t *testing.T) {
	for _, bits := range someWaves() {
		for _, level := range []bool{false, true} {
			want, wanted := slowEdgePut(level, bits)
			edgePut(t, level, bits, want, wanted)
			want, wanted = slowEdgeGet(level, bits)
			edgeGet(t, level, bits, want, wanted)
		}
	}
}

// Promise 69.
func TestEdgeIsInvertibleWithBothPolarities(t *testing.T) {
	for _, bits := range someWaves() {
		for _, level := range []bool{false, true} {
			end, text := impl.EdgePut(level, bits)
			same(t, "number of levels of "+shown(bits), len(text), len(bits))
			edgeGet(t, level, text, end, bits)
			edgePut(t, !level, bits, !end, inverted(text))
			edgeGet(t, !level, inverted(text), !end, bits)
			zeros := 0
			if bits != "" {
				zeros = strings.Count(bits[1:], "0")
			}
			same(t, "transitions of "+shown(text), impl.WaveMany(text), zeros)
		}
	}
}

// Promise 70.
func TestEdgeGetIsInvertible(t *testing.T) {
	for _, text := range someWaves() {
		for _, level := range []bool{false, true} {
			end, bits := impl.EdgeGet(level, text)
			same(t, "number of bits of "+shown(text), len(bits), len(text))
			edgePut(t, level, bits, end, text)
			if text == "" {
				edgeGet(t, !level, text, !level, "")
			} else {
				edgeGet(t, !level, text, end, inverted(bits[:1])+bits[1:])
				same(t, "last level of "+shown(text), levelOf(end), text[len(text)-1:])
			}
		}
	}
}

func TestEdgeInParts(t *testing.T) {
	for n, bits := range someWaves() {
		at := n % (len(bits) + 1)
		for _, level := range []bool{false, true} {
			end, text := impl.EdgePut(level, bits)
			middle, first := impl.EdgePut(level, bits[:at])
			edgePut(t, middle, bits[at:], end, text[len(first):])
			middle, first = impl.EdgeGet(level, text[:at])
			same(t, "first bits", first, bits[:at])
			edgeGet(t, middle, text[at:], end, bits[at:])
		}
	}
}

func TestEdgeRefusesWhatIsNoBitString(t *testing.T) {
	for _, bits := range noBits() {
		for _, level := range []bool{false, true} {
			edgePut(t, level, bits, false, "")
			edgeGet(t, level, bits, false, "")
		}
	}
}

// Promise 71.
func TestWaveManyOfParts(t *testing.T) {
	source := rand.New(rand.NewSource(84))
	list := append(allBits(6), evenBits(source, 40), evenBits(source, 600), strings.Repeat("01", 300))
	for _, a := range list {
		for _, b := range list {
			want := impl.WaveMany(a) + impl.WaveMany(b)
			if a != "" && b != "" && a[len(a)-1] != b[0] {
				want++
			}
			same(t, "transitions of "+shown(a)+" and "+shown(b), impl.WaveMany(a+b), want)
		}
	}
}

func TestWaveMany(t *testing.T) {
	for bits, want := range map[string]int{
		"": 0, "0": 0, "1": 0, "00": 0, "11": 0, "01": 1, "10": 1, "010": 2, "101": 2, "0110": 2, "1001": 2, "1110": 1, "0001": 1, "01010101": 7,
		strings.Repeat("01", 600): 1199, strings.Repeat("10", 600): 1199, strings.Repeat("1", 1200): 0, strings.Repeat("0", 1200): 0,
	} {
		same(t, "transitions of "+shown(bits), impl.WaveMany(bits), want)
	}
	for n, bits := range someWaves() {
		same(t, "transitions of "+strconv.Itoa(n)+", "+shown(bits), impl.WaveMany(bits), slowWaveMany(bits))
	}
	for _, bits := range noBits() {
		same(t, "transitions of "+shown(bits), impl.WaveMany(bits), -1)
	}
}
