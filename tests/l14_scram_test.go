package tests

import (
	"fmt"
	"math"
	"math/rand"
	"strconv"
	"strings"
	"testing"

	"loop.example/cotterpin/impl"
)

// sevenBits is a state in binary: the bits that went in, the oldest first.
func sevenBits(s int) string {
	return strconv.FormatInt(int64(128+s), 2)[1:]
}

// slowState is the state that seven bits leave.
func slowState(bits string) int {
	s, _ := strconv.ParseInt(bits[len(bits)-7:], 2, 64)
	return int(s)
}

// slowScram lays each bit over those that went in four and seven bits before it. What goes in is the result, or the bits themselves.
func slowScram(s int, bits string, resultGoesIn bool) (int, string) {
	in, out := sevenBits(s), ""
	for i := range len(bits) {
		result := string([]byte{'0' + (bits[i]^in[i+3]^in[i])&1})
		out += result
		if resultGoesIn {
			in += result
		} else {
			in += bits[i : i+1]
		}
	}
	return slowState(in), out
}

// someScrams returns bit strings for scramblers.
func someScrams() []string {
	list := allBits(5)
	source := rand.New(rand.NewSource(79))
	for n := range 30 {
		list = append(list, evenBits(source, n), mixedBits(source, n))
	}
	return append(list, strings.Repeat("0", 300), strings.Repeat("1", 300), evenBits(source, 500))
}

// longScrams returns bit strings at the limit.
func longScrams() []string {
	source := rand.New(rand.NewSource(80))
	return []string{evenBits(source, 1199), evenBits(source, 1200), strings.Repeat("0", 1200), strings.Repeat("1", 1200)}
}

// noScramStates returns numbers that are no states.
func noScramStates() []int {
	return []int{-1, -2, -127, -128, 128, 129, 255, 256, 1 << 32, math.MaxInt, math.MinInt}
}

func scrambled(t *testing.T, s int, bits string, want int, wanted string) {
	t.Helper()
	got, text := impl.ScramPut(s, bits)
	sameBits(t, fmt.Sprintf("scram put of %s with %d", shown(bits), s), got, text, want, wanted)
}

func descrambled(t *testing.T, s int, bits string, want int, wanted string) {
	t.Helper()
	got, text := impl.ScramGet(s, bits)
	sameBits(t, fmt.Sprintf("scram get of %s with %d", shown(bits), s), got, text, want, wanted)
}

func TestScramByHand(t *testing.T) {
	scrambled(t, 127, "0000000", 7, "0000111")
	descrambled(t, 127, "0000111", 7, "0000000")
	// The output bit is of the values 8 and 64 alone, and nought if the state has both.
	for value, output := range map[int]string{0: "0", 1: "0", 2: "0", 4: "0", 8: "1", 16: "0", 32: "0", 64: "1", 72: "0", 55: "0", 119: "1", 127: "0"} {
		other := map[string]string{"0": "1", "1": "0"}[output]
		same(t, "bit of a nought with "+strconv.Itoa(value), impl.ScramOnes(value, 1), output)
		scrambled(t, value, "0", (2*value+int(output[0]-'0'))%128, output)
		scrambled(t, value, "1", (2*value+int(other[0]-'0'))%128, other)
		descrambled(t, value, "0", 2*value%128, output)
		descrambled(t, value, "1", (2*value+1)%128, other)
	}
	scrambled(t, 0, "1000000000000000", 11, "1000100110001011")
	descrambled(t, 0, "1000000000000000", 0, "1000100100000000")
	scrambled(t, 85, "1100", 83, "0011")
	descrambled(t, 85, "1100", 92, "0011")
}

func TestScramFollowsTheDocument(t *testing.T) {
	for s := range 128 {
		list := someScrams()
		if s%21 == 0 || s == 127 {
			list = append(list, longScrams()...)
		}
		for _, bits := range list {
			want, wanted := slowScram(s, bits, true)
			scrambled(t, s, bits, want, wanted)
			want, wanted = slowScram(s, bits, false)
			descrambled(t, s, bits, want, wanted)
		}
	}
}

// Promise 63.
func TestScramIsInvertible(t *testing.T) {
	for s := range 128 {
		for _, bits := range append(someScrams(), longScrams()...) {
			end, text := impl.ScramPut(s, bits)
			same(t, "length of what is scrambled", len(text), len(bits))
			descrambled(t, s, text, end, bits)
			for _, at := range []int{0, len(bits) / 3, len(bits)} {
				middle, first := impl.ScramPut(s, bits[:at])
				last, second := impl.ScramPut(middle, bits[at:])
				sameBits(t, "scram put of parts of "+shown(bits), last, first+second, end, text)
				middle, first = impl.ScramGet(s, text[:at])
				last, second = impl.ScramGet(middle, text[at:])
				sameBits(t, "scram get of parts of "+shown(text), last, first+second, end, bits)
			}
		}
	}
}

// Promise 64.
func TestScramGetSynchronizesItself(t *testing.T) {
	for s := range 128 {
		for _, bits := range someScrams() {
			end, text := impl.ScramPut(s, bits)
			for _, other := range []int{0, 127, s ^ 1, s ^ 8, s ^ 64, (s + 37) % 128} {
				last, got := impl.ScramGet(other, text)
				if len(bits) < 7 {
					same(t, "number of bits", len(got), len(bits))
					continue
				}
				sameBits(t, fmt.Sprintf("scram get of %s with %d, from the eighth bit on", shown(text), other), last, got[7:], end, bits[7:])
			}
		}
	}
	// Six bits are not enough, and with seven the first ones still differ.
	descrambled(t, 0, "000000", 0, "000000")
	descrambled(t, 1, "000000", 64, "000100")
	descrambled(t, 0, "00000000", 0, "00000000")
	descrambled(t, 1, "00000000", 0, "00010010")
}

// Promise 65.
func TestScramErrorsMultiplyAtMostByThree(t *testing.T) {
	for s := range 128 {
		for _, bits := range someScrams() {
			_, text := impl.ScramGet(s, bits)
			for k := range bits {
				if k > 9 && k < len(bits)-9 {
					continue
				}
				bent, _ := impl.BitsTurn(bits, k)
				_, got := impl.ScramGet(s, bent)
				mask := strings.Repeat("0", k) + ("10001001" + strings.Repeat("0", len(bits)))[:len(bits)-k]
				same(t, fmt.Sprintf("scram get of %s with bit %d turned", shown(bits), k), got, turned(text, mask))
				if far := impl.HamFar(text, got); far < 1 || far > 3 || text[:k] != got[:k] {
					t.Fatalf("scram get of %s differs in %d bits with bit %d turned", shown(bits), far, k)
				}
			}
		}
	}
}

// Promise 66.
func TestScramOnesHasTheMaximumPeriod(t *testing.T) {
	const all = "0001001100010111010110110000011001101010011100111101101000010101011111010010100011011100011111110000111011110010110010010000001"
	same(t, "noughts with 1", impl.ScramOnes(1, 127), all)
	rounds := map[string]bool{}
	for s := 1; s < 128; s++ {
		bits := impl.ScramOnes(s, 1200)
		round := bits[:127]
		same(t, "whether the bits repeat", bits, strings.Repeat(round, 10)[:1200])
		same(t, "number of ones of a round", strings.Count(round, "1"), 64)
		same(t, "whether all begin at different places", strings.Contains(all+all, round) && !rounds[round], true)
		rounds[round] = true
		end, _ := impl.ScramPut(s, strings.Repeat("0", 127))
		same(t, "state behind a round", end, s)
		for shorter := 1; shorter < 127; shorter++ {
			same(t, "whether a shorter part repeats", bits[:127] == bits[shorter:shorter+127], false)
		}
	}
}

func TestScramStateOfNoughtsAlone(t *testing.T) {
	for _, many := range []int{0, 1, 2, 6, 7, 8, 126, 127, 128, 1199, 1200} {
		same(t, "noughts with the state 0", impl.ScramOnes(0, many), strings.Repeat("0", many))
		scrambled(t, 0, strings.Repeat("0", many), 0, strings.Repeat("0", many))
		descrambled(t, 0, strings.Repeat("0", many), 0, strings.Repeat("0", many))
	}
}

func TestScramOnesIsScramPutOfNoughts(t *testing.T) {
	for s := range 128 {
		for _, many := range []int{0, 1, 2, 3, 4, 5, 6, 7, 8, 100, 127, 128, 1199, 1200} {
			_, want := impl.ScramPut(s, strings.Repeat("0", many))
			same(t, fmt.Sprintf("%d noughts with %d", many, s), impl.ScramOnes(s, many), want)
			same(t, "number of bits", len(want), many)
		}
		for _, many := range []int{-1, -2, 1201, 1202, 2400, math.MaxInt, math.MinInt} {
			same(t, fmt.Sprintf("%d noughts with %d", many, s), impl.ScramOnes(s, many), "")
		}
	}
	for _, s := range noScramStates() {
		for _, many := range []int{-1, 0, 1, 7, 1200, 1201} {
			same(t, fmt.Sprintf("%d noughts with %d", many, s), impl.ScramOnes(s, many), "")
		}
	}
}

func TestScramOfNoBits(t *testing.T) {
	for s := range 128 {
		scrambled(t, s, "", s, "")
		descrambled(t, s, "", s, "")
	}
}

func TestScramRefusesWhatIsNoStateOrNoBitString(t *testing.T) {
	for _, s := range noScramStates() {
		for _, bits := range []string{"", "0", "1", "0110", strings.Repeat("0", 1200), "x", strings.Repeat("0", 1201)} {
			scrambled(t, s, bits, -1, "")
			descrambled(t, s, bits, -1, "")
		}
	}
	for _, s := range []int{0, 1, 64, 127} {
		for _, bits := range noBits() {
			scrambled(t, s, bits, -1, "")
			descrambled(t, s, bits, -1, "")
		}
	}
}
