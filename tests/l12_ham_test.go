package tests

import (
	"math"
	"math/rand"
	"strconv"
	"strings"
	"testing"

	"loop.example/cotterpin/impl"
)

// codeWords are the groups of seven for the groups of four, which are the numbers 0 to 15 in binary.
var codeWords = [16]string{
	"0000000", "1101001", "0101010", "1000011", "1001100", "0100101", "1100110", "0001111",
	"1110000", "0011001", "1011010", "0110011", "0111100", "1010101", "0010110", "1111111",
}

// fourBits is a number of 0 to 15 in binary.
func fourBits(n int) string {
	return strconv.FormatInt(int64(16+n), 2)[1:]
}

// evenBits is so many bits, noughts and ones equally frequent.
func evenBits(source *rand.Rand, many int) string {
	bits := make([]byte, many)
	for i := range bits {
		bits[i] = byte('0' + source.Intn(2))
	}
	return string(bits)
}

// turned is a bit string with the bits turned at which a mask has a one.
func turned(bits, mask string) string {
	out := []byte(bits)
	for i := range out {
		out[i] = '0' + (bits[i]^mask[i])&1
	}
	return string(out)
}

// oneAt is so many noughts with a one among them.
func oneAt(many, at int) string {
	return strings.Repeat("0", at) + "1" + strings.Repeat("0", many-at-1)
}

// slowFar is how many ones there are where strings are laid over each other.
func slowFar(a, b string) int {
	return strings.Count(turned(a, b), "1")
}

// slowHamPut writes the exclusive ors as the document has them.
func slowHamPut(bits string) string {
	out := ""
	for ; bits != ""; bits = bits[4:] {
		a, b, c, d := bits[0]&1, bits[1]&1, bits[2]&1, bits[3]&1
		for _, bit := range []byte{a ^ b ^ d, a ^ c ^ d, a, b ^ c ^ d, b, c, d} {
			out += string([]byte{'0' + bit})
		}
	}
	return out
}

// slowHamGet looks for the only code word that differs in at most one bit.
func slowHamGet(bits string) (string, int) {
	out, many := "", 0
	for ; bits != ""; bits = bits[7:] {
		for n, word := range codeWords {
			if far := slowFar(word, bits[:7]); far < 2 {
				out += fourBits(n)
				many += far
			}
		}
	}
	return out, many
}

// someFours returns bit strings that HamPut takes: all of up to eight bits, mixed ones, and the limit itself.
func someFours() []string {
	var list []string
	for _, bits := range allBits(8) {
		if len(bits)%4 == 0 {
			list = append(list, bits)
		}
	}
	source := rand.New(rand.NewSource(71))
	for n := 12; n <= 600; n += 28 {
		list = append(list, evenBits(source, n))
	}
	return append(list, evenBits(source, 596), evenBits(source, 600), strings.Repeat("1", 600), strings.Repeat("0", 600))
}

// someSevens returns bit strings that HamGet takes: each group alone, between two others, and mixed ones up to the limit.
func someSevens() []string {
	list := []string{""}
	for _, bits := range allBits(7) {
		if len(bits) == 7 {
			list = append(list, bits, "0110011"+bits+"1111110")
		}
	}
	source := rand.New(rand.NewSource(72))
	for n := 14; n <= 1197; n += 49 {
		list = append(list, evenBits(source, n))
	}
	return append(list, evenBits(source, 1050), evenBits(source, 1057), evenBits(source, 1197), strings.Repeat("1", 1197), strings.Repeat("0", 1197))
}

func hamRead(t *testing.T, bits string, want string, many int, wanted bool) {
	t.Helper()
	got, n, ok := impl.HamGet(bits)
	if got != want || n != many || ok != wanted {
		t.Fatalf("ham get of %s is %s, %d, %v, not %s, %d, %v", shown(bits), shown(got), n, ok, shown(want), many, wanted)
	}
}

func bitTurned(t *testing.T, bits string, k int, want string, wanted bool) {
	t.Helper()
	got, ok := impl.BitsTurn(bits, k)
	sameOk(t, "turn of bit "+strconv.Itoa(k)+" of "+shown(bits), got, ok, want, wanted)
}

func TestHamWritesEachGroup(t *testing.T) {
	for n, word := range codeWords {
		same(t, "ham put of "+fourBits(n), impl.HamPut(fourBits(n)), word)
	}
	for a, first := range codeWords {
		for b, second := range codeWords {
			same(t, "ham put of two groups", impl.HamPut(fourBits(a)+fourBits(b)), first+second)
		}
	}
}

func TestHamPutFollowsTheDocument(t *testing.T) {
	for _, bits := range someFours() {
		same(t, "ham put of "+shown(bits), impl.HamPut(bits), slowHamPut(bits))
	}
}

func TestHamGetFollowsTheDocument(t *testing.T) {
	for _, bits := range someSevens() {
		want, many := slowHamGet(bits)
		hamRead(t, bits, want, many, true)
	}
}

// Promise 55.
func TestHamCorrectsSingleErrors(t *testing.T) {
	source := rand.New(rand.NewSource(73))
	for _, bits := range someFours() {
		code := impl.HamPut(bits)
		same(t, "length of ham put of "+shown(bits), len(code), len(bits)/4*7)
		hamRead(t, code, bits, 0, true)
		for place := range 7 {
			hamRead(t, turned(code, strings.Repeat(oneAt(7, place), len(bits)/4)), bits, len(bits)/4, true)
		}
		mask := ""
		for range len(bits) / 4 {
			mask += oneAt(7, source.Intn(7))
		}
		hamRead(t, turned(code, mask), bits, len(bits)/4, true)
	}
}

// Groups with an error stand beside groups with none: only the former are counted.
func TestHamCountsCorrectedGroups(t *testing.T) {
	for _, bits := range []string{"1011", "10110000", "000000000000", "110100101111"} {
		code := impl.HamPut(bits)
		for at := range len(code) {
			hamRead(t, turned(code, oneAt(len(code), at)), bits, 1, true)
		}
	}
	hamRead(t, "0100110"+"0110011"+"0110010", "011010111011", 2, true)
	// Two errors in one group are one correction, and the bits are others.
	hamRead(t, "1100000", "1000", 1, true)
}

// Promise 56.
func TestHamGetFindsTheNearestCodeWord(t *testing.T) {
	for _, bits := range someSevens() {
		if len(bits) > 1050 {
			continue
		}
		data, many, ok := impl.HamGet(bits)
		same(t, "whether "+shown(bits)+" is read", ok, true)
		same(t, "length of ham get of "+shown(bits), len(data), len(bits)/7*4)
		same(t, "distance of "+shown(bits)+" from a code", impl.HamFar(impl.HamPut(data), bits), many)
	}
}

func TestHamAtTheEdges(t *testing.T) {
	same(t, "ham put of none", impl.HamPut(""), "")
	hamRead(t, "", "", 0, true)
	for n := range 40 {
		bits := strings.Repeat("1", n)
		want := ""
		if n%4 == 0 {
			want = strings.Repeat("1", n/4*7)
		}
		same(t, "ham put of "+bits, impl.HamPut(bits), want)
		if n%7 == 0 {
			hamRead(t, bits, strings.Repeat("1", n/7*4), 0, true)
		} else {
			hamRead(t, bits, "", 0, false)
		}
	}
	same(t, "ham put of 600", impl.HamPut(strings.Repeat("1", 600)), strings.Repeat("1", 1050))
	for _, n := range []int{597, 598, 599, 601, 602, 603, 604, 608, 684, 1196, 1200, 1204} {
		same(t, "ham put of "+strconv.Itoa(n), impl.HamPut(strings.Repeat("1", n)), "")
	}
	hamRead(t, strings.Repeat("1", 1050), strings.Repeat("1", 600), 0, true)
	hamRead(t, strings.Repeat("1", 1057), strings.Repeat("1", 604), 0, true)
	hamRead(t, strings.Repeat("1", 1197), strings.Repeat("1", 684), 0, true)
	hamRead(t, strings.Repeat("0000001", 171), strings.Repeat("0", 684), 171, true)
	for _, n := range []int{1196, 1198, 1199, 1200, 1201, 1204, 1211, 2100} {
		hamRead(t, strings.Repeat("1", n), "", 0, false)
	}
}

func TestHamRefusesWhatIsNoBitString(t *testing.T) {
	for _, bits := range append(noBits(), "000x", "2000", "0/00", "x000000", "0000002", "000000/") {
		same(t, "ham put of "+shown(bits), impl.HamPut(bits), "")
		hamRead(t, bits, "", 0, false)
		four, seven := bits, bits
		for len(four)%4 != 0 {
			four += "0"
		}
		for len(seven)%7 != 0 {
			seven += "0"
		}
		same(t, "ham put of "+shown(four), impl.HamPut(four), "")
		hamRead(t, seven, "", 0, false)
	}
}

// Promise 57.
func TestHamFarIsAMetric(t *testing.T) {
	source := rand.New(rand.NewSource(74))
	for many := range 40 {
		list := []string{strings.Repeat("0", many), strings.Repeat("1", many)}
		for range 6 {
			list = append(list, evenBits(source, many))
		}
		for _, a := range list {
			for _, b := range list {
				far := impl.HamFar(a, b)
				same(t, "distance of "+a+" and "+b, far, slowFar(a, b))
				same(t, "distance of "+b+" and "+a, impl.HamFar(b, a), far)
				same(t, "whether "+a+" and "+b+" are at no distance", far == 0, a == b)
				for _, c := range list {
					if impl.HamFar(a, c) > far+impl.HamFar(b, c) {
						t.Fatalf("the way from %s to %s is shorter by %s", a, c, b)
					}
				}
			}
		}
	}
}

func TestHamFarAtTheEdges(t *testing.T) {
	zeros, ones := strings.Repeat("0", 1200), strings.Repeat("1", 1200)
	for _, x := range []struct {
		a, b string
		want int
	}{
		{"", "", 0}, {"0", "0", 0}, {"1", "1", 0}, {"0", "1", 1}, {"1", "0", 1}, {"0101", "1101", 1}, {"0101", "1010", 4}, {"0011", "0101", 2},
		{zeros, zeros, 0}, {zeros, ones, 1200}, {zeros, zeros[1:] + "1", 1}, {zeros, "1" + zeros[1:], 1},
		{"", "0", -1}, {"0", "01", -1}, {"01", "1", -1}, {"0000", "000", -1}, {zeros, zeros[1:], -1},
		{zeros + "0", zeros + "0", -1}, {zeros + "0", ones + "1", -1}, {zeros, zeros + "0", -1},
	} {
		same(t, "distance of "+shown(x.a)+" and "+shown(x.b), impl.HamFar(x.a, x.b), x.want)
		same(t, "distance of "+shown(x.b)+" and "+shown(x.a), impl.HamFar(x.b, x.a), x.want)
	}
	for _, bits := range noBits() {
		for _, other := range []string{bits, strings.Repeat("0", len(bits)), "", "0"} {
			same(t, "distance of "+shown(bits), impl.HamFar(bits, other), -1)
			same(t, "distance to "+shown(bits), impl.HamFar(other, bits), -1)
		}
	}
}

// Promise 58.
func TestHamCodeWordsAreFarApart(t *testing.T) {
	for _, bits := range someFours() {
		code := impl.HamPut(bits)
		for k := range bits {
			other, _ := impl.BitsTurn(bits, k)
			far := impl.HamFar(code, impl.HamPut(other))
			want := 3
			if k%4 == 3 {
				want = 4 // the last bit of a group is in all three checks
			}
			same(t, "distance of the codes of "+shown(bits)+" and "+shown(other), far, want)
		}
	}
	for a, first := range codeWords {
		for b := range codeWords {
			if far := impl.HamFar(first, impl.HamPut(fourBits(b))); a != b && far < 3 {
				t.Fatalf("distance of the codes of %s and %s is %d", fourBits(a), fourBits(b), far)
			}
		}
	}
}

// Promise 59.
func TestBitsTurnTwiceRestores(t *testing.T) {
	for _, bits := range someBits() {
		for k := range bits {
			if k > 20 && k < len(bits)-2 {
				continue
			}
			want := turned(bits, oneAt(len(bits), k))
			same(t, "distance of a turned bit", slowFar(bits, want), 1)
			bitTurned(t, bits, k, want, true)
			bitTurned(t, want, k, bits, true)
		}
	}
}

func TestBitsTurnAtTheEdges(t *testing.T) {
	full := strings.Repeat("0", 1200)
	bitTurned(t, "0", 0, "1", true)
	bitTurned(t, "1", 0, "0", true)
	bitTurned(t, "0110", 0, "1110", true)
	bitTurned(t, "0110", 3, "0111", true)
	bitTurned(t, "0110", 2, "0100", true)
	bitTurned(t, full, 0, "1"+full[1:], true)
	bitTurned(t, full, 1199, full[1:]+"1", true)
	for _, bits := range []string{"", "0", "1", "0110", full} {
		for _, k := range []int{-1, -2, len(bits), len(bits) + 1, -len(bits) - 1, math.MaxInt, math.MinInt} {
			bitTurned(t, bits, k, "", false)
		}
	}
	for _, bits := range noBits() {
		for _, k := range []int{-1, 0, 1, len(bits) - 1, len(bits)} {
			bitTurned(t, bits, k, "", false)
		}
	}
}
