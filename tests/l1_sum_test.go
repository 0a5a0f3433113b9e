package tests

import (
	"hash/crc32"
	"math"
	"math/rand"
	"strings"
	"testing"

	"loop.example/cotterpin/impl"
)

var kinds = []int{impl.SumShort, impl.SumLong}

// noKinds are numbers next to the kinds, and far from them.
var noKinds = []int{0, 1, 3, 5, 6, 8, 16, 32, -1, -2, -4, 258, 1<<32 + 2, math.MaxInt, math.MinInt}

func allOnes(kind int) int {
	if kind == impl.SumShort {
		return 65535
	}
	return 4294967295
}

// slowRun follows the document bit by bit.
func slowRun(kind int, sum int, s string) int {
	poly := 33800
	if kind == impl.SumLong {
		poly = 3988292384
	}
	for i := range len(s) {
		sum ^= int(s[i])
		for range 8 {
			odd := sum%2 == 1
			sum /= 2
			if odd {
				sum ^= poly
			}
		}
	}
	return sum
}

func someRegisters(kind int) []int {
	list := []int{0, 1, 255, 256, 32768, 65534, 65535}
	if kind == impl.SumLong {
		list = append(list, 65536, 1<<31, 4294967294, 4294967295)
	}
	source := rand.New(rand.NewSource(3))
	for range 20 {
		list = append(list, source.Intn(allOnes(kind)+1))
	}
	return list
}

// Promise 1.
func TestSumOfIsTheStandardOne(t *testing.T) {
	same(t, "short", impl.SumOf(impl.SumShort, "123456789"), 36974)
	same(t, "long", impl.SumOf(impl.SumLong, "123456789"), 3421780262)
	same(t, "short of none", impl.SumOf(impl.SumShort, ""), 0)
	same(t, "long of none", impl.SumOf(impl.SumLong, ""), 0)
	for _, s := range someBytes() {
		same(t, "long of "+shown(s), impl.SumOf(impl.SumLong, s), int(crc32.ChecksumIEEE([]byte(s))))
		for _, kind := range kinds {
			ones := allOnes(kind)
			same(t, "sum of "+shown(s), impl.SumOf(kind, s), slowRun(kind, ones, s)^ones)
			same(t, "run of "+shown(s), impl.SumRun(kind, impl.SumStart(kind), s)^ones, impl.SumOf(kind, s))
		}
	}
}

func TestSumStartIsAllOnes(t *testing.T) {
	same(t, "short", impl.SumStart(impl.SumShort), 65535)
	same(t, "long", impl.SumStart(impl.SumLong), 4294967295)
}

func TestSumRunFollowsTheDocument(t *testing.T) {
	for _, kind := range kinds {
		for _, sum := range someRegisters(kind) {
			for _, s := range someBytes() {
				same(t, "run of "+shown(s), impl.SumRun(kind, sum, s), slowRun(kind, sum, s))
			}
		}
	}
}

// Promise 2.
func TestSumRunInParts(t *testing.T) {
	for _, kind := range kinds {
		for _, sum := range someRegisters(kind) {
			same(t, "run of none", impl.SumRun(kind, sum, ""), sum)
			for _, s := range someBytes() {
				for _, at := range []int{0, len(s) / 3, len(s) / 2, len(s)} {
					first := impl.SumRun(kind, sum, s[:at])
					same(t, "run in parts of "+shown(s), impl.SumRun(kind, first, s[at:]), impl.SumRun(kind, sum, s))
				}
			}
		}
	}
}

// Promise 3.
func TestSumRunIsLinear(t *testing.T) {
	for _, kind := range kinds {
		for _, a := range someRegisters(kind) {
			for _, b := range someRegisters(kind) {
				for _, s := range []string{"", "a", "\x80", "123456789", "\xff\x00\x7e\x7d\x01"} {
					zeros := strings.Repeat("\x00", len(s))
					want := impl.SumRun(kind, a, s) ^ impl.SumRun(kind, b, zeros)
					same(t, "run of "+shown(s), impl.SumRun(kind, a^b, s), want)
				}
			}
		}
	}
}

func TestSumPutHasTheLowestByteFirst(t *testing.T) {
	same(t, "short", impl.SumPut(impl.SumShort, "123456789"), "123456789\x6e\x90")
	same(t, "long", impl.SumPut(impl.SumLong, "123456789"), "123456789\x26\x39\xf4\xcb")
	same(t, "short of none", impl.SumPut(impl.SumShort, ""), "\x00\x00")
	same(t, "long of none", impl.SumPut(impl.SumLong, ""), "\x00\x00\x00\x00")
}

// Promise 4.
func TestSumGetAcceptsWhatSumPutWrites(t *testing.T) {
	for _, kind := range kinds {
		for _, s := range someBytes() {
			put := impl.SumPut(kind, s)
			same(t, "length of put", len(put), len(s)+kind)
			got, ok := impl.SumGet(kind, put)
			if !ok || got != s {
				t.Fatalf("kind %d: get of put of %s is %s, %v", kind, shown(s), shown(got), ok)
			}
			same(t, "run of put of "+shown(s), impl.SumRun(kind, impl.SumStart(kind), put), impl.SumGood(kind))
		}
	}
}

func TestSumGetRefusesOneFlippedBit(t *testing.T) {
	for _, kind := range kinds {
		for _, s := range []string{"", "a", "\x00", "123456789", strings.Repeat("\xff", 60)} {
			put := impl.SumPut(kind, s)
			for k := range 8 * len(put) {
				turned := []byte(put)
				turned[k/8] ^= 1 << (k % 8)
				refused(t, kind, string(turned))
			}
		}
	}
}

func refused(t *testing.T, kind int, s string) {
	t.Helper()
	if got, ok := impl.SumGet(kind, s); ok || got != "" {
		t.Fatalf("kind %d: get of %s is %s, %v", kind, shown(s), shown(got), ok)
	}
}

// Promise 5.
func TestSumGetSucceedsExactlyWithTheResidue(t *testing.T) {
	list := someBytes()
	for a := range 256 {
		for b := range 256 {
			list = append(list, string([]byte{byte(a), byte(b)}), string([]byte{'x', byte(a), byte(b)}))
		}
	}
	for _, kind := range kinds {
		for _, s := range append(list, impl.SumPut(kind, "123456789"), impl.SumPut(kind, ""), impl.SumPut(kind, "x")) {
			got, ok := impl.SumGet(kind, s)
			good := len(s) >= kind && impl.SumRun(kind, impl.SumStart(kind), s) == impl.SumGood(kind)
			same(t, "whether get of "+shown(s)+" succeeds", ok, good)
			if ok && impl.SumPut(kind, got) != s || !ok && got != "" {
				t.Fatalf("kind %d: get of %s is %s, %v", kind, shown(s), shown(got), ok)
			}
		}
	}
}

func TestSumGetRefusesTooFewBytes(t *testing.T) {
	for _, kind := range kinds {
		for n := range kind {
			refused(t, kind, strings.Repeat("\x00", n))
			refused(t, kind, strings.Repeat("\xff", n))
		}
	}
}

// Promise 6.
func TestSumGoodIsTheStandardResidue(t *testing.T) {
	same(t, "short", impl.SumGood(impl.SumShort), 61624)
	same(t, "long", impl.SumGood(impl.SumLong), 3736805603)
}

func TestNoKindOfSum(t *testing.T) {
	for _, kind := range noKinds {
		same(t, "start", impl.SumStart(kind), -1)
		same(t, "good", impl.SumGood(kind), -1)
		for _, s := range []string{"", "a", "\x00\x00", "\x00\x00\x00\x00", "123456789"} {
			same(t, "run", impl.SumRun(kind, 0, s), -1)
			same(t, "run", impl.SumRun(kind, 65535, s), -1)
			same(t, "of", impl.SumOf(kind, s), -1)
			same(t, "put", impl.SumPut(kind, s), "")
			refused(t, kind, s)
		}
	}
}

func TestNoRegister(t *testing.T) {
	for _, s := range []string{"", "a", "123456789"} {
		for _, kind := range kinds {
			for _, sum := range []int{-1, -2, -65536, math.MinInt, allOnes(kind) + 1, 1 << 32, math.MaxInt} {
				same(t, "run", impl.SumRun(kind, sum, s), -1)
			}
			for _, sum := range []int{0, allOnes(kind)} {
				same(t, "run", impl.SumRun(kind, sum, s), slowRun(kind, sum, s))
			}
		}
		same(t, "run", impl.SumRun(impl.SumLong, 65536, s), slowRun(impl.SumLong, 65536, s))
	}
}
