package tests

import (
	"math/rand"
	"strings"
	"testing"

	"loop.example/cotterpin/impl"
)

func TestBitsOk(t *testing.T) {
	same(t, "BitsMax", impl.BitsMax, 1200)
	for _, bits := range someBits() {
		same(t, "ok of "+shown(bits), impl.BitsOk(bits), true)
	}
	for _, bits := range noBits() {
		same(t, "ok of "+shown(bits), impl.BitsOk(bits), false)
	}
	for b := range 256 {
		one := string([]byte{byte(b)})
		same(t, "ok of "+shown(one), impl.BitsOk(one), one == "0" || one == "1")
		same(t, "ok of "+shown("0"+one+"1"), impl.BitsOk("0"+one+"1"), one == "0" || one == "1")
	}
}

// Promise 7.
func TestBitsOfIsInvertible(t *testing.T) {
	for _, s := range someBytes() {
		if len(s) > 150 {
			continue
		}
		bits := impl.BitsOf(s)
		same(t, "length of bits of "+shown(s), len(bits), 8*len(s))
		got, ok := impl.BitsTo(bits)
		if !ok || got != s {
			t.Fatalf("to of bits of %s is %s, %v", shown(s), shown(got), ok)
		}
		for _, at := range []int{0, len(s) / 3, len(s)} {
			same(t, "bits in parts of "+shown(s), impl.BitsOf(s[:at])+impl.BitsOf(s[at:]), bits)
		}
	}
}

func TestBitsOfHasTheLowestBitFirst(t *testing.T) {
	same(t, "bits", impl.BitsOf("\x01\xf0"), "1000000000001111")
	same(t, "bits", impl.BitsOf("\x80~"), "0000000101111110")
	same(t, "bits of none", impl.BitsOf(""), "")
	for k := range 8 {
		want := strings.Repeat("0", k) + "1" + strings.Repeat("0", 7-k)
		same(t, "bits", impl.BitsOf(string([]byte{1 << k})), want)
	}
}

func TestBitsOfAtTheLimit(t *testing.T) {
	same(t, "bits of 150", impl.BitsOf(strings.Repeat("\xff", 150)), strings.Repeat("1", 1200))
	same(t, "bits of 151", impl.BitsOf(strings.Repeat("\xff", 151)), "")
	same(t, "bits of 152", impl.BitsOf(strings.Repeat("\x00", 152)), "")
	same(t, "bits of 2000", impl.BitsOf(strings.Repeat("a", 2000)), "")
}

// Promise 8.
func TestBitsToSucceedsExactlyForWholeBytes(t *testing.T) {
	for _, bits := range someBits() {
		got, ok := impl.BitsTo(bits)
		same(t, "whether to of "+shown(bits)+" succeeds", ok, len(bits)%8 == 0)
		if ok && impl.BitsOf(got) != bits || !ok && got != "" {
			t.Fatalf("to of %s is %s, %v", shown(bits), shown(got), ok)
		}
	}
}

func TestBitsToRefusesWhatIsNoBitString(t *testing.T) {
	for _, bits := range append(noBits(), strings.Repeat("0", 1208)) {
		if got, ok := impl.BitsTo(bits); ok || got != "" {
			t.Fatalf("to of %s is %s, %v", shown(bits), shown(got), ok)
		}
	}
}

// slowRunOfOnes is the length of the longest run of ones, found by trying.
func slowRunOfOnes(bits string) int {
	many := 0
	for strings.Contains(bits, strings.Repeat("1", many+1)) {
		many++
	}
	return many
}

func TestBitsRun(t *testing.T) {
	same(t, "run of none", impl.BitsRun(""), 0)
	same(t, "run at the beginning", impl.BitsRun("1110110"), 3)
	same(t, "run at the end", impl.BitsRun("0110111"), 3)
	same(t, "run of 1200", impl.BitsRun(strings.Repeat("1", 1200)), 1200)
	for _, bits := range someBits() {
		same(t, "run of "+shown(bits), impl.BitsRun(bits), slowRunOfOnes(bits))
	}
	for _, bits := range noBits() {
		same(t, "run of "+shown(bits), impl.BitsRun(bits), -1)
	}
}

// Promise 9.
func TestBitsRunOfParts(t *testing.T) {
	source := rand.New(rand.NewSource(4))
	list := append(allBits(6), mixedBits(source, 40), mixedBits(source, 600), strings.Repeat("1", 600))
	for _, a := range list {
		for _, b := range list {
			both := impl.BitsRun(a + b)
			x, y := impl.BitsRun(a), impl.BitsRun(b)
			if both < x || both < y || both > x+y {
				t.Fatalf("run of %s and %s is %d, of the parts %d and %d", shown(a), shown(b), both, x, y)
			}
		}
	}
}

// Promise 10.
func TestBitsFillCompletesTheLastByte(t *testing.T) {
	for _, bits := range someBits() {
		full := impl.BitsFill(bits)
		more := len(full) - len(bits)
		if len(full)%8 != 0 || more < 0 || more > 7 || full != bits+strings.Repeat("1", more) {
			t.Fatalf("fill of %s is %s", shown(bits), shown(full))
		}
		same(t, "fill of fill of "+shown(bits), impl.BitsFill(full), full)
	}
}

func TestBitsFillAtTheEdges(t *testing.T) {
	same(t, "fill of none", impl.BitsFill(""), "")
	same(t, "fill of one", impl.BitsFill("0"), "01111111")
	same(t, "fill of seven", impl.BitsFill("0000000"), "00000001")
	same(t, "fill of eight", impl.BitsFill("00000000"), "00000000")
	same(t, "fill of nine", impl.BitsFill("000000000"), "0000000001111111")
	same(t, "fill of 1199", impl.BitsFill(strings.Repeat("0", 1199)), strings.Repeat("0", 1199)+"1")
	same(t, "fill of 1200", impl.BitsFill(strings.Repeat("0", 1200)), strings.Repeat("0", 1200))
	for _, bits := range noBits() {
		same(t, "fill of "+shown(bits), impl.BitsFill(bits), "")
	}
}
