package tests

import (
	"encoding/binary"
	"math"
	"math/rand"
	"slices"
	"strconv"
	"strings"
	"testing"

	"loop.example/cotterpin/impl"
)

// slipLetters are the bytes that SLIP treats in a way of their own, and a plain one.
const slipLetters = "\xc0\xdb\xdc\xdda"

// slowSlipPut replaces the escape first: it stands in what is written for both.
func slowSlipPut(s string) string {
	return strings.ReplaceAll(strings.ReplaceAll(s, "\xdb", "\xdb\xdd"), "\xc0", "\xdb\xdc") + "\xc0"
}

// slowSlipGet reads what may be wrong, and accepts it if it is written so.
func slowSlipGet(t string) (string, bool) {
	body := strings.TrimSuffix(t, "\xc0")
	text := strings.ReplaceAll(strings.ReplaceAll(body, "\xdb\xdc", "\xc0"), "\xdb\xdd", "\xdb")
	if len(text) > 600 || slowSlipPut(text) != t {
		return "", false
	}
	return text, true
}

// slowNetGet tries each length.
func slowNetGet(t string) (string, int) {
	for n := range 601 {
		rest, found := strings.CutPrefix(t, strconv.Itoa(n)+":")
		if found && len(rest) > n && rest[n] == ',' {
			return rest[:n], len(t) - len(rest) + n + 1
		}
	}
	return "", 0
}

// slowNetAll counts the netstrings when all are read.
func slowNetAll(t string) ([]string, bool) {
	var list []string
	for t != "" {
		text, used := slowNetGet(t)
		if used == 0 {
			return nil, false
		}
		list, t = append(list, text), t[used:]
	}
	if len(list) > 12 {
		return nil, false
	}
	return list, true
}

// slowVarGet reads with the library, which also takes numbers with a byte too many.
func slowVarGet(t string) (int, int) {
	n, used := binary.Uvarint([]byte(t))
	if used <= 0 || n > math.MaxInt64 || string(binary.AppendUvarint(nil, n)) != t[:used] {
		return 0, 0
	}
	return int(n), used
}

// someNumbers returns numbers of each size, those next to a power of two, and mixed ones.
func someNumbers() []int {
	list := []int{0, 300, math.MaxInt}
	source := rand.New(rand.NewSource(56))
	for bits := range 63 {
		power := 1 << bits
		list = append(list, power-1, power, power+1, power+source.Intn(power), power|power>>1)
	}
	return list
}

// noNumbers returns negative numbers.
func noNumbers() []int {
	return []int{-1, -2, -127, -128, -129, -300, math.MinInt32, math.MinInt + 1, math.MinInt}
}

// someNets returns texts that are netstrings, or nearly.
func someNets() []string {
	list := append(allOf("01:,a", 6), someBytes()...)
	source := rand.New(rand.NewSource(57))
	for range 2000 {
		text := ""
		for range source.Intn(4) {
			text += impl.NetPut(mixedOf(source, "0:,", source.Intn(14)))
		}
		list = append(list, text)
		if text != "" {
			at := source.Intn(len(text))
			list = append(list, text[:at], text[:at]+text[at+1:], text[:at]+mixedOf(source, "012:,", 1)+text[at:])
		}
	}
	return list
}

func slipRead(t *testing.T, s string, want string, wanted bool) {
	t.Helper()
	text, ok := impl.SlipGet(s)
	sameOk(t, "slip get of "+shown(s), text, ok, want, wanted)
}

func netRead(t *testing.T, s string, want string, used int) {
	t.Helper()
	text, many := impl.NetGet(s)
	if text != want || many != used {
		t.Fatalf("net get of %s is %s, %d, not %s, %d", shown(s), shown(text), many, shown(want), used)
	}
}

func varRead(t *testing.T, s string, want int, used int) {
	t.Helper()
	n, many := impl.VarGet(s)
	if n != want || many != used {
		t.Fatalf("var get of %s is %d, %d, not %d, %d", shown(s), n, many, want, used)
	}
}

// allRead checks a list that comes with a bool.
func allRead(t *testing.T, s string, want []string, wanted bool) {
	t.Helper()
	list, ok := impl.NetAll(s)
	if !slices.Equal(list, want) || ok != wanted {
		t.Fatalf("net all of %s is %.200q, %v, not %.200q, %v", shown(s), list, ok, want, wanted)
	}
}

// nets is the netstrings of a list, one behind the other.
func nets(list []string) string {
	out := ""
	for _, s := range list {
		out += impl.NetPut(s)
	}
	return out
}

func TestSlipLimits(t *testing.T) {
	same(t, "ListMax", impl.ListMax, 12)
}

func TestSlipWritesTwoForOne(t *testing.T) {
	for s, want := range map[string]string{
		"": "\xc0", "a": "a\xc0", "\xc0": "\xdb\xdc\xc0", "\xdb": "\xdb\xdd\xc0", "\xdc": "\xdc\xc0", "\xdd": "\xdd\xc0", "\x00": "\x00\xc0", "\xff": "\xff\xc0",
		"a\xc0\xdb": "a\xdb\xdc\xdb\xdd\xc0", "\xc0\xc0": "\xdb\xdc\xdb\xdc\xc0", "\xdb\xdc": "\xdb\xdd\xdc\xc0", "\xdb\xdd": "\xdb\xdd\xdd\xc0", "\xdb\xdb": "\xdb\xdd\xdb\xdd\xc0",
	} {
		same(t, "slip put of "+shown(s), impl.SlipPut(s), want)
		slipRead(t, want, s, true)
	}
}

// Promise 43.
func TestSlipIsInvertible(t *testing.T) {
	source := rand.New(rand.NewSource(58))
	list := append(allOf(slipLetters, 5), someTexts()...)
	for n := range 601 {
		list = append(list, mixedOf(source, slipLetters, n))
	}
	for _, s := range append(list, someBytes()...) {
		put := impl.SlipPut(s)
		if len(s) > 600 {
			same(t, "slip put of too many bytes", put, "")
			continue
		}
		same(t, "slip put of "+shown(s), put, slowSlipPut(s))
		same(t, "place of 192 in "+shown(put), strings.IndexByte(put, 192), len(put)-1)
		slipRead(t, put, s, true)
	}
}

// Promise 44.
func TestSlipIsCanonical(t *testing.T) {
	source := rand.New(rand.NewSource(59))
	list := append(allOf(slipLetters, 6), someBytes()...)
	for range 3000 {
		text := mixedOf(source, slipLetters, source.Intn(12))
		put := impl.SlipPut(mixedOf(source, slipLetters, source.Intn(700)))
		at := source.Intn(len(put) + 1)
		list = append(list, text, text+"\xc0", put, put[:at], put[:at]+mixedOf(source, slipLetters, 1)+put[at:])
	}
	for _, s := range list {
		want, wanted := slowSlipGet(s)
		slipRead(t, s, want, wanted)
		if text, ok := impl.SlipGet(s); ok {
			same(t, "slip put of slip get of "+shown(s), impl.SlipPut(text), s)
		}
	}
}

func TestSlipGetRefuses(t *testing.T) {
	for _, s := range []string{
		"", "a", "abc", "\xdb\xdc", "\xdb\xdd", // no 192
		"\xc0\xc0", "a\xc0\xc0", "\xc0\xc0\xc0", "\xdb\xdc\xc0\xc0", // 192 twice
		"\xc0a", "a\xc0b", "\xc0a\xc0", "a\xc0b\xc0", "\xc0\xdb\xdc", "\xc0\xdb\xdd\xc0", // 192 that is not the last byte
		"\xdb", "\xdb\xc0", "a\xdb\xc0", "\xdb\xdc\xdb\xc0", "\xdb\xdd\xdb\xc0", "\xdb\xc0\xc0", // 219 as the last byte, ahead of 192
	} {
		slipRead(t, s, "", false)
	}
	for b := range 256 {
		for _, around := range [][2]string{{"", ""}, {"a", ""}, {"", "a"}, {"\xdb\xdc", "\xdb\xdd"}} {
			s := around[0] + "\xdb" + string([]byte{byte(b)}) + around[1] + "\xc0"
			if b != 220 && b != 221 {
				slipRead(t, s, "", false)
			} else if _, ok := impl.SlipGet(s); !ok {
				t.Fatalf("%s is refused", shown(s))
			}
		}
	}
}

// The encoding may be longer than BytesMax, its text not.
func TestSlipBytesMax(t *testing.T) {
	for plain, put := range map[string]string{"a": "a", "\x00": "\x00", "\xc0": "\xdb\xdc", "\xdb": "\xdb\xdd"} {
		for _, many := range []int{299, 300, 301, 599, 600} {
			s := strings.Repeat(plain, many)
			want := strings.Repeat(put, many) + "\xc0"
			same(t, strconv.Itoa(many)+" bytes", impl.SlipPut(s), want)
			slipRead(t, want, s, true)
		}
		for _, many := range []int{601, 602, 1199, 1200, 1201, 5000} {
			same(t, strconv.Itoa(many)+" bytes", impl.SlipPut(strings.Repeat(plain, many)), "")
			slipRead(t, strings.Repeat(put, many)+"\xc0", "", false)
		}
	}
	slipRead(t, strings.Repeat("\xdb\xdc", 599)+"a\xc0", strings.Repeat("\xc0", 599)+"a", true)
	slipRead(t, strings.Repeat("\xdb\xdc", 600)+"a\xc0", "", false)
	slipRead(t, "a"+strings.Repeat("\xdb\xdc", 600)+"\xc0", "", false)
	slipRead(t, strings.Repeat("\xdb\xdc", 600)+"\xc0\xc0", "", false)
	slipRead(t, strings.Repeat("\xdb\xdc", 600), "", false)
}

func TestNetPutWritesTheLength(t *testing.T) {
	for s, want := range map[string]string{
		"": "0:,", "a": "1:a,", ",": "1:,,", ":": "1::,", "\x00": "1:\x00,", "ab,": "3:ab,,", "1:a,": "4:1:a,,", "123456789": "9:123456789,", "é": "2:é,",
		strings.Repeat("x", 10): "10:xxxxxxxxxx,",
	} {
		same(t, "net put of "+shown(s), impl.NetPut(s), want)
	}
	for _, many := range []int{9, 10, 99, 100, 101, 599, 600} {
		s := strings.Repeat("7", many)
		same(t, strconv.Itoa(many)+" bytes", impl.NetPut(s), strconv.Itoa(many)+":"+s+",")
	}
}

// Promise 45.
func TestNetIsSelfDelimiting(t *testing.T) {
	source := rand.New(rand.NewSource(60))
	list := append(allOf("01:,a", 4), someTexts()...)
	for n := range 601 {
		list = append(list, mixedOf(source, "019:,", n))
	}
	for _, s := range append(list, someBytes()...) {
		put := impl.NetPut(s)
		if len(s) > 600 {
			same(t, "net put of too many bytes", put, "")
			continue
		}
		for _, behind := range []string{"", ",", ":", "0", "1", "a", "\x00", put, "0:,", "x" + put, mixedOf(source, "01:,", 9), mixedBytes(source, 700)} {
			netRead(t, put+behind, s, len(put))
		}
	}
}

// Promise 46.
func TestNetIsCanonical(t *testing.T) {
	for _, s := range someNets() {
		want, used := slowNetGet(s)
		netRead(t, s, want, used)
		if text, many := impl.NetGet(s); many > 0 {
			same(t, "net put of net get of "+shown(s), impl.NetPut(text), s[:many])
		}
	}
}

func TestNetGetRefuses(t *testing.T) {
	for _, s := range []string{
		":", ",", ":,", ":a,", "::,", // no digits
		"00:,", "01:a,", "000:,", "03:abc,", "010:0123456789,", "0000000000000000000000001:a,", // a leading zero
		"1:", "1:,", "1:a", "2:a,", "3:ab,", "9:a,", "600:a,", "0:", // larger than what follows
		"0", "1", "5", "1a,", "0,", "3abc,", "3;abc,", "3,abc,", "12", // no colon
		"0:a", "0:;", "1:a;", "1:aa", "1:a:", "3:abc", "3:abcd,", "0:a,", "1:aa,", "0::", // no comma
		"x:a,", "a1:a,", "1x:a,", " 1:a,", "1 :a,", "+1:a,", "-1:a,", "-0:,", "+0:,", "1_0:0123456789,", "0x1:a,", "1e0:a,", "1.0:a,", "\x001:a,", "١:a,", "\n1:a,", "\xff:,", // no number
		"99999999999999999999:a,", "18446744073709551616:,", "18446744073709551617:a,", "4294967297:a,", "9223372036854775807:a,", "9223372036854775808:a,", "-9223372036854775808:a,", "1000:a,", "1000000:a,", "100000000000000000000000000000000000000:,", // too many digits
	} {
		netRead(t, s, "", 0)
		allRead(t, s, nil, false)
		allRead(t, "1:a,"+s, nil, false)
	}
	netRead(t, "", "", 0)
	netRead(t, strings.Repeat("0", 5000)+":,", "", 0)
	netRead(t, strings.Repeat("1", 5000)+":"+strings.Repeat("a", 5000)+",", "", 0)
	netRead(t, strings.Repeat("9", 5000), "", 0)
	netRead(t, strings.Repeat("a", 5000)+":,", "", 0)
}

func TestNetBytesMax(t *testing.T) {
	for _, letter := range []string{"a", "\x00", "0", ":", ",", "\xff"} {
		for _, many := range []int{599, 600} {
			s := strings.Repeat(letter, many)
			put := impl.NetPut(s)
			same(t, strconv.Itoa(many)+" bytes", put, strconv.Itoa(many)+":"+s+",")
			netRead(t, put, s, many+5)
			allRead(t, put+put, []string{s, s}, true)
		}
		for _, many := range []int{601, 602, 999, 1000, 6000, 70000} {
			s := strings.Repeat(letter, many)
			same(t, strconv.Itoa(many)+" bytes", impl.NetPut(s), "")
			put := strconv.Itoa(many) + ":" + s + ","
			netRead(t, put, "", 0)
			allRead(t, put, nil, false)
			allRead(t, "0:,"+put, nil, false)
		}
	}
}

// Promise 47.
func TestNetAllIsDecodedCompletely(t *testing.T) {
	source := rand.New(rand.NewSource(61))
	for many := range 20 {
		for _, most := range []int{0, 1, 3, 12, 600} {
			var list []string
			for range many {
				list = append(list, mixedOf(source, "019:,", source.Intn(most+1)))
			}
			if many <= 12 {
				allRead(t, nets(list), list, true)
			} else {
				allRead(t, nets(list), nil, false)
			}
		}
	}
	for _, s := range someNets() {
		list, ok := impl.NetAll(s)
		if ok {
			same(t, "netstrings of net all of "+shown(s), nets(list), s)
		}
		want, wanted := slowNetAll(s)
		allRead(t, s, want, wanted)
	}
}

func TestNetAllLimits(t *testing.T) {
	allRead(t, "", nil, true)
	for _, s := range []string{"", "a", ",", "0:,", strings.Repeat("\xff", 600)} {
		most := slices.Repeat([]string{s}, 12)
		allRead(t, nets(most), most, true)
		allRead(t, nets(most)+nets(most[:1]), nil, false)
		for _, behind := range []string{"x", ",", ":", "0", "0:", "\x00", " ", "1:a", "01:a,", "0:;"} {
			allRead(t, behind, nil, false)
			allRead(t, nets(most[:1])+behind, nil, false)
			allRead(t, nets(most[:11])+behind, nil, false)
			allRead(t, nets(most)+behind, nil, false)
		}
		allRead(t, "x"+nets(most[:1]), nil, false)
		allRead(t, nets(most[:1])+" "+nets(most[:1]), nil, false)
	}
}

// A list that was read is no part of another.
func TestNetAllSharesNoMemory(t *testing.T) {
	first, _ := impl.NetAll("1:a,2:bc,")
	second, _ := impl.NetAll("1:a,2:bc,")
	spoil(first)
	same(t, "a list beside one that is spoilt", strings.Join(second, "|"), "a|bc")
}

func TestVarPutWritesSevenBits(t *testing.T) {
	for n, want := range map[int]string{
		0: "\x00", 1: "\x01", 127: "\x7f", 128: "\x80\x01", 129: "\x81\x01", 255: "\xff\x01", 256: "\x80\x02", 300: "\xac\x02", 16383: "\xff\x7f", 16384: "\x80\x80\x01", 624485: "\xe5\x8e\x26",
		1<<56 - 1:     "\xff\xff\xff\xff\xff\xff\xff\x7f",
		1 << 56:       "\x80\x80\x80\x80\x80\x80\x80\x80\x01",
		math.MaxInt:   "\xff\xff\xff\xff\xff\xff\xff\xff\x7f",
		math.MaxInt32: "\xff\xff\xff\xff\x07",
	} {
		same(t, "var put of "+strconv.Itoa(n), impl.VarPut(n), want)
		varRead(t, want, n, len(want))
	}
}

func TestVarPutOfNegativeNumbers(t *testing.T) {
	for _, n := range noNumbers() {
		same(t, "var put of "+strconv.Itoa(n), impl.VarPut(n), "")
	}
}

// Promise 48.
func TestVarIsSelfDelimiting(t *testing.T) {
	source := rand.New(rand.NewSource(62))
	sizes := map[int]bool{}
	list := someNumbers()
	for n := range 20000 {
		list = append(list, n)
	}
	for _, n := range list {
		put := impl.VarPut(n)
		same(t, "var put of "+strconv.Itoa(n), put, string(binary.AppendUvarint(nil, uint64(n))))
		if len(put) < 1 || len(put) > 9 {
			t.Fatalf("var put of %d has %d bytes", n, len(put))
		}
		sizes[len(put)] = true
		for _, behind := range []string{"", "\x00", "\x01", "\x7f", "\x80", "\xff", put, "\x80\x00", mixedBytes(source, 12)} {
			varRead(t, put+behind, n, len(put))
		}
	}
	same(t, "number of lengths", len(sizes), 9)
}

// Promise 49.
func TestVarIsCanonical(t *testing.T) {
	source := rand.New(rand.NewSource(63))
	list := append(allOf("\x00\x01\x7f\x80\x81\xff", 6), someBytes()...)
	for n := range 13 {
		for _, last := range []string{"", "\x00", "\x01", "\x02", "\x40", "\x7f", "\x80", "\xff", "\x00\x01", "\x01\x00"} {
			for range 20 {
				text := []byte(mixedOf(source, "\x80\xff", n))
				for i := range text {
					text[i] |= 128
				}
				list = append(list, string(text)+last)
			}
			list = append(list, strings.Repeat("\x80", n)+last, strings.Repeat("\xff", n)+last)
		}
	}
	for _, s := range list {
		want, used := slowVarGet(s)
		varRead(t, s, want, used)
		if n, many := impl.VarGet(s); many > 0 {
			same(t, "var put of var get of "+shown(s), impl.VarPut(n), s[:many])
		}
	}
}

func TestVarGetRefuses(t *testing.T) {
	for _, s := range []string{
		"\x80\x00", "\xff\x00", "\x81\x00", "\x80\x80\x00", "\xac\x82\x00", "\xff\xff\xff\x00", // a superfluous zero
		"", "\x80", "\xff", "\x80\x80", "\xff\xff\xff", strings.Repeat("\xff", 8), strings.Repeat("\xff", 9), strings.Repeat("\x80", 9), strings.Repeat("\x80", 600), // no last byte
		strings.Repeat("\x80", 8) + "\x00", strings.Repeat("\xff", 8) + "\x00", // nine bytes, the last one superfluous
		strings.Repeat("\x80", 9) + "\x00", strings.Repeat("\x80", 9) + "\x01", strings.Repeat("\xff", 9) + "\x01", strings.Repeat("\xff", 9) + "\x7f", strings.Repeat("\x80", 9) + "\x02", strings.Repeat("\xff", 9) + "\x00", // ten bytes
		strings.Repeat("\x80", 10) + "\x01", strings.Repeat("\xff", 10) + "\x01", strings.Repeat("\x80", 63) + "\x01",
	} {
		varRead(t, s, 0, 0)
	}
	varRead(t, "\x00\x00", 0, 1)
	varRead(t, "\x00\x80", 0, 1)
	varRead(t, strings.Repeat("\xff", 8)+"\x7f", math.MaxInt, 9)
	varRead(t, strings.Repeat("\x80", 8)+"\x01", 1<<56, 9)
	varRead(t, strings.Repeat("\x80", 8)+"\x40", 1<<62, 9)
}
