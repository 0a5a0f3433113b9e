package tests

import (
	"math/rand"
	"strconv"
	"strings"
	"testing"

	"loop.example/cotterpin/impl"
)

// filled is so many bytes without a zero, the last of which is given.
func filled(many int, last byte) string {
	if many == 0 {
		return ""
	}
	text := make([]byte, many)
	for i := range text {
		text[i] = byte(1 + i%255)
	}
	text[many-1] = last
	return string(text)
}

// someCobsTexts returns texts that CobsPut accepts: zero bytes everywhere, and runs without one as long as a block, a byte less and a byte more.
func someCobsTexts() []string {
	list := allOf("\x00\x01\x02\x05\xff", 5)
	source := rand.New(rand.NewSource(15))
	for range 100 {
		list = append(list, mixedOf(source, "\x00\x01\x02\xff", source.Intn(601)), strings.ReplaceAll(mixedBytes(source, source.Intn(601)), "\x00", "a"))
	}
	for _, many := range []int{1, 2, 126, 127, 128, 252, 253, 254, 255, 256, 507, 508, 509, 510} {
		for _, last := range []byte{1, 2, 9, 127, 253, 254, 255} {
			run := filled(many, last)
			for _, around := range [][2]string{{"", ""}, {"", "\x00"}, {"", "\x00\x00"}, {"", "\x00a"}, {"\x00", ""}, {"\x00", "\x00"}, {"a\x00", "\x00\x00b"}} {
				list = append(list, around[0]+run+around[1])
			}
		}
	}
	return append(list, strings.Repeat("\x00", 600), strings.Repeat("\xff", 600), strings.Repeat("\x01", 600), filled(599, 1)+"\x00", "\x00"+filled(599, 255))
}

// someBlocks returns what may be read: blocks, complete or not, that CobsPut and LessPut need not have written.
func someBlocks() []string {
	list := allOf("\x00\x01\x02\x03\x04\xff", 6)
	source := rand.New(rand.NewSource(16))
	for range 2000 {
		text := mixedOf(source, "\x01\x02\x03\x05\xff", source.Intn(606))
		list = append(list, text, strings.ReplaceAll(text, "\x00", "\x01"))
	}
	for _, many := range []int{252, 253, 254, 255} {
		for _, behind := range []string{"", "\x01", "\x01\x01", "\x02", "\x02a", "\x03a", "\xff", "\xff" + filled(253, 7), "\xff" + filled(254, 7), "\x00"} {
			for _, length := range []string{"\xfd", "\xfe", "\xff"} {
				list = append(list, length+filled(many, 200)+behind, "\x01"+length+filled(many, 200)+behind)
			}
		}
	}
	return append(list, strings.Repeat("\x01", 605), strings.Repeat("\x01", 606), strings.Repeat("\x02", 605), strings.Repeat("\xff", 605))
}

// slowCobs makes the list of blocks that the document describes.
func slowCobs(s string) []string {
	var blocks []string
	for {
		many := 0
		for many < len(s) && many < 254 && s[many] != 0 {
			many++
		}
		blocks = append(blocks, s[:many])
		s = s[many:]
		skipped := many < 254 && s != ""
		if skipped {
			s = s[1:]
		}
		if s == "" {
			if skipped {
				blocks = append(blocks, "")
			}
			return blocks
		}
	}
}

func slowCobsPut(s string) string {
	out := ""
	for _, block := range slowCobs(s) {
		out += string([]byte{byte(len(block) + 1)}) + block
	}
	return out
}

func slowLessPut(s string) string {
	blocks := slowCobs(s)
	last := blocks[len(blocks)-1]
	put := slowCobsPut(s)
	if last == "" || int(last[len(last)-1]) < len(last)+1 {
		return put
	}
	return put[:len(put)-len(last)-1] + last[len(last)-1:] + last[:len(last)-1]
}

// slowCobsGet decodes what has at most 605 bytes; less allows the last block to be incomplete.
func slowCobsGet(t string, less bool) (string, bool) {
	if t == "" || strings.Contains(t, "\x00") {
		return "", false
	}
	text := ""
	for at := 0; at < len(t); {
		n := int(t[at])
		end := at + n
		if end > len(t) {
			if !less {
				return "", false
			}
			return text + t[at+1:] + t[at:at+1], true
		}
		text += t[at+1 : end]
		if n != 255 && end != len(t) {
			text += "\x00"
		}
		at = end
	}
	return text, true
}

func cobsRead(t *testing.T, s string, want string, wanted bool) {
	t.Helper()
	text, ok := impl.CobsGet(s)
	sameOk(t, "cobs get of "+shown(s), text, ok, want, wanted)
}

func lessRead(t *testing.T, s string, want string, wanted bool) {
	t.Helper()
	text, ok := impl.LessGet(s)
	sameOk(t, "less get of "+shown(s), text, ok, want, wanted)
}

// bothWritten checks what a text is written as, and that it is read again.
func bothWritten(t *testing.T, text, cobs, less string) {
	t.Helper()
	same(t, "cobs put of "+shown(text), impl.CobsPut(text), cobs)
	same(t, "less put of "+shown(text), impl.LessPut(text), less)
	cobsRead(t, cobs, text, true)
	lessRead(t, cobs, text, true)
	lessRead(t, less, text, true)
	if less != cobs {
		cobsRead(t, less, "", false)
	}
}

func TestCobsWritesBlocks(t *testing.T) {
	for _, x := range [][3]string{
		{"", "\x01", "\x01"},
		{"\x00", "\x01\x01", "\x01\x01"},
		{"\x00\x00", "\x01\x01\x01", "\x01\x01\x01"},
		{"\x00\x00\x00", "\x01\x01\x01\x01", "\x01\x01\x01\x01"},
		{"\x01", "\x02\x01", "\x02\x01"},
		{"\x02", "\x02\x02", "\x02"},
		{"\x03", "\x02\x03", "\x03"},
		{"\xff", "\x02\xff", "\xff"},
		{"\x05\x00", "\x02\x05\x01", "\x02\x05\x01"},
		{"\x00\x05", "\x01\x02\x05", "\x01\x05"},
		{"\x00\x01", "\x01\x02\x01", "\x01\x02\x01"},
		{"\x00\x01\x00", "\x01\x02\x01\x01", "\x01\x02\x01\x01"},
		{"\x11\x22\x00\x33", "\x03\x11\x22\x02\x33", "\x03\x11\x22\x33"},
		{"\x11\x00\x00\x00", "\x02\x11\x01\x01\x01", "\x02\x11\x01\x01\x01"},
		{"\x11\x00\x00\x22", "\x02\x11\x01\x02\x22", "\x02\x11\x01\x22"},
		{"\xff\x02", "\x03\xff\x02", "\x03\xff\x02"},
		{"\xff\x03", "\x03\xff\x03", "\x03\xff"},
		{"\x01\x04", "\x03\x01\x04", "\x04\x01"},
	} {
		bothWritten(t, x[0], x[1], x[2])
	}
}

// A block is full with 254 bytes: what follows begins a block of its own, a zero byte too.
func TestCobsFullBlock(t *testing.T) {
	a, b, c := filled(253, 9), filled(254, 9), filled(255, 9)
	first, ninth := c[:254], "\x02\x09"
	for _, x := range [][3]string{
		{a, "\xfe" + a, "\xfe" + a},
		{a + "\x00", "\xfe" + a + "\x01", "\xfe" + a + "\x01"},
		{a + "\x00\x00", "\xfe" + a + "\x01\x01", "\xfe" + a + "\x01\x01"},
		{a + "\x00\x09", "\xfe" + a + ninth, "\xfe" + a + "\x09"},
		{b, "\xff" + b, "\xff" + b},
		{b + "\x00", "\xff" + b + "\x01\x01", "\xff" + b + "\x01\x01"},
		{b + "\x00\x00", "\xff" + b + "\x01\x01\x01", "\xff" + b + "\x01\x01\x01"},
		{b + "\x00\x09", "\xff" + b + "\x01" + ninth, "\xff" + b + "\x01\x09"},
		{b + "\x01", "\xff" + b + "\x02\x01", "\xff" + b + "\x02\x01"},
		{c, "\xff" + first + ninth, "\xff" + first + "\x09"},
		{c + "\x00", "\xff" + first + ninth + "\x01", "\xff" + first + ninth + "\x01"},
		{c + "\x00\x01", "\xff" + first + ninth + "\x02\x01", "\xff" + first + ninth + "\x02\x01"},
		{"\x00" + b, "\x01\xff" + b, "\x01\xff" + b},
		{"\x00" + b + "\x00", "\x01\xff" + b + "\x01\x01", "\x01\xff" + b + "\x01\x01"},
		{b + b, "\xff" + b + "\xff" + b, "\xff" + b + "\xff" + b},
		{b + b + "\x00", "\xff" + b + "\xff" + b + "\x01\x01", "\xff" + b + "\xff" + b + "\x01\x01"},
		{a + "\x00" + b, "\xfe" + a + "\xff" + b, "\xfe" + a + "\xff" + b},
		{b + "\x00" + b, "\xff" + b + "\x01\xff" + b, "\xff" + b + "\x01\xff" + b},
		{filled(253, 253), "\xfe" + filled(253, 253), "\xfe" + filled(253, 253)},
		{filled(253, 254), "\xfe" + filled(253, 254), "\xfe" + filled(253, 254)[:252]},
		{filled(253, 255), "\xfe" + filled(253, 255), "\xff" + filled(253, 255)[:252]},
		{filled(254, 254), "\xff" + filled(254, 254), "\xff" + filled(254, 254)},
		{filled(254, 255), "\xff" + filled(254, 255), "\xff" + filled(254, 255)[:253]},
	} {
		bothWritten(t, x[0], x[1], x[2])
	}
}

// A last byte replaces its block's length byte if it is as great or greater, in a block of any length.
func TestLessLastByteNextToItsLength(t *testing.T) {
	for many := 1; many <= 254; many++ {
		for _, before := range []string{"", "\x00", "a\x00", filled(254, 3)} {
			for last := many; last <= min(many+2, 255); last++ {
				run := filled(many, byte(last))
				cobs := impl.CobsPut(before + run)
				less := cobs
				if last >= many+1 {
					less = cobs[:len(cobs)-many-1] + string([]byte{byte(last)}) + run[:many-1]
				}
				bothWritten(t, before+run, cobs, less)
			}
		}
	}
}

// Promise 21.
func TestCobsIsInvertibleAndRemovesZeros(t *testing.T) {
	for _, text := range someCobsTexts() {
		put := impl.CobsPut(text)
		cobsRead(t, put, text, true)
		if strings.Contains(put, "\x00") {
			t.Fatalf("cobs put of %s has a zero", shown(text))
		}
		if more := len(put) - len(text); more < 1 || more > 1+len(text)/254 {
			t.Fatalf("cobs put of %s, %d bytes, is longer by %d", shown(text), len(text), more)
		}
	}
}

// Promise 22. What is decoded may be longer than CobsPut accepts; the promise is about what it accepts.
func TestCobsDecodingAgainIsStable(t *testing.T) {
	decoded := 0
	for _, s := range someBlocks() {
		text, ok := impl.CobsGet(s)
		if !ok || len(text) > 600 {
			continue
		}
		decoded++
		put := impl.CobsPut(text)
		cobsRead(t, put, text, true)
		if len(put) > len(s) {
			t.Fatalf("%s is written longer again: %s", shown(s), shown(put))
		}
	}
	if decoded < 100 {
		t.Fatalf("only %d were decoded", decoded)
	}
}

// Promise 23.
func TestCobsZeroSeparatesBlocks(t *testing.T) {
	source := rand.New(rand.NewSource(17))
	list := someCobsTexts()
	for range 20000 {
		a, b := list[source.Intn(len(list))], list[source.Intn(len(list))]
		a = a[:min(len(a), 200)]
		b = b[:min(len(b), 599-len(a))]
		same(t, "cobs put of "+shown(a)+" and "+shown(b), impl.CobsPut(a+"\x00"+b), impl.CobsPut(a)+impl.CobsPut(b))
	}
	for _, many := range []int{0, 1, 199, 200} {
		for _, other := range []int{0, 1, 253, 254, 255, 399} {
			a, b := filled(many, 5), filled(other, 5)
			same(t, "cobs put of "+strconv.Itoa(many)+" and "+strconv.Itoa(other), impl.CobsPut(a+"\x00"+b), impl.CobsPut(a)+impl.CobsPut(b))
		}
	}
}

// Promise 24.
func TestLessIsInvertibleAndNotLonger(t *testing.T) {
	shorter := 0
	for _, text := range someCobsTexts() {
		cobs, less := impl.CobsPut(text), impl.LessPut(text)
		lessRead(t, less, text, true)
		if strings.Contains(less, "\x00") {
			t.Fatalf("less put of %s has a zero", shown(text))
		}
		if less == cobs {
			continue
		}
		shorter++
		same(t, "bytes of less put of "+shown(text), len(less), len(cobs)-1)
	}
	if shorter < 100 {
		t.Fatalf("only %d were shorter", shorter)
	}
}

// Promise 25, again of what LessPut accepts.
func TestLessDecodingAgainIsStable(t *testing.T) {
	for _, s := range someBlocks() {
		text, ok := impl.LessGet(s)
		if cobs, fine := impl.CobsGet(s); fine {
			sameOk(t, "less get of "+shown(s), text, ok, cobs, true)
		}
		if !ok || len(text) > 600 {
			continue
		}
		put := impl.LessPut(text)
		lessRead(t, put, text, true)
		if len(put) > len(s) {
			t.Fatalf("%s is written longer again: %s", shown(s), shown(put))
		}
	}
}

func TestCobsFollowsTheDocument(t *testing.T) {
	for _, text := range someCobsTexts() {
		same(t, "cobs put of "+shown(text), impl.CobsPut(text), slowCobsPut(text))
		same(t, "less put of "+shown(text), impl.LessPut(text), slowLessPut(text))
	}
	for _, s := range someBlocks() {
		if len(s) > 605 {
			continue
		}
		want, wanted := slowCobsGet(s, false)
		cobsRead(t, s, want, wanted)
		want, wanted = slowCobsGet(s, true)
		lessRead(t, s, want, wanted)
	}
}

func TestCobsLastBlockIsIncomplete(t *testing.T) {
	for _, x := range [][2]string{
		{"\x02", "\x02"}, {"\x05", "\x05"}, {"\xff", "\xff"},
		{"\x03\x01", "\x01\x03"}, {"\x09\x01\x02", "\x01\x02\x09"},
		{"\x01\x02", "\x00\x02"}, {"\x01\x01\x04\x07", "\x00\x00\x07\x04"},
		{"\x02\x07\x03\x08", "\x07\x00\x08\x03"},
		{"\xff" + filled(253, 7), filled(253, 7) + "\xff"},
		{"\xfe" + filled(252, 7), filled(252, 7) + "\xfe"},
		{"\xff" + filled(254, 7) + "\x02", filled(254, 7) + "\x02"},
		{"\xff" + filled(254, 7) + "\xff" + filled(253, 8), filled(254, 7) + filled(253, 8) + "\xff"},
		{"\xfe" + filled(253, 7) + "\x02", filled(253, 7) + "\x00\x02"},
	} {
		cobsRead(t, x[0], "", false)
		lessRead(t, x[0], x[1], true)
	}
}

// No zero byte stands behind a block of 254, nor behind the last one.
func TestCobsZeroBehindABlock(t *testing.T) {
	a, b := filled(253, 7), filled(254, 7)
	for _, x := range [][2]string{
		{"\x01", ""}, {"\x01\x01", "\x00"}, {"\x01\x01\x01", "\x00\x00"}, {"\x02a", "a"}, {"\x02a\x01", "a\x00"},
		{"\xfe" + a, a}, {"\xfe" + a + "\x01", a + "\x00"}, {"\xfe" + a + "\x02b", a + "\x00b"},
		{"\xff" + b, b}, {"\xff" + b + "\x01", b}, {"\xff" + b + "\x01\x01", b + "\x00"}, {"\xff" + b + "\x02b", b + "b"}, {"\xff" + b + "\x01\x02b", b + "\x00b"},
	} {
		cobsRead(t, x[0], x[1], true)
		lessRead(t, x[0], x[1], true)
	}
}

func TestCobsRefusesNothingAndZeros(t *testing.T) {
	full := filled(254, 7)
	for _, s := range []string{
		"", "\x00", "\x00\x00", "\x00\x01", "\x01\x00", "\x02\x00", "\x03a\x00", "\x03\x00a", "\x05\x00", "\x05a\x00", "\x01\x00\x01", "\x02a\x00", "\x02a\x00\x02b", "\x02a\x05\x00",
		"\xff" + full + "\x00", "\x00\xff" + full, "\xff" + full[:253] + "\x00", "\xff\x00" + full[:253], "\xff\x00" + full[:10], strings.Repeat("\x01", 604) + "\x00", strings.Repeat("\x00", 605),
	} {
		cobsRead(t, s, "", false)
		lessRead(t, s, "", false)
	}
}

func TestCobsPutLimits(t *testing.T) {
	for _, letter := range []string{"\x00", "\x01", "a", "\xff"} {
		full := strings.Repeat(letter, 600)
		bothWritten(t, full, slowCobsPut(full), slowLessPut(full))
		for _, many := range []int{601, 602, 605, 5000} {
			over := strings.Repeat(letter, many)
			same(t, "cobs put of "+strconv.Itoa(many), impl.CobsPut(over), "")
			same(t, "less put of "+strconv.Itoa(many), impl.LessPut(over), "")
		}
	}
	same(t, "bytes of the longest", len(impl.CobsPut(strings.Repeat("a", 600))), 603)
	same(t, "bytes of the shortest of 600", len(impl.CobsPut(strings.Repeat("\x00", 600))), 601)
}

func TestCobsGetLimits(t *testing.T) {
	noughts := strings.Repeat("\x00", 605)
	ones := strings.Repeat("\x01", 700)
	cobsRead(t, ones[:605], noughts[:604], true)
	lessRead(t, ones[:605], noughts[:604], true)
	lessRead(t, ones[:604]+"\x05", noughts[:604]+"\x05", true)
	full := "\xff" + filled(254, 7)
	cobsRead(t, full+full+ones[:95], filled(254, 7)+filled(254, 7)+noughts[:94], true)
	lessRead(t, full+full+"\xff"+ones[:94], filled(254, 7)+filled(254, 7)+ones[:94]+"\xff", true)
	for _, s := range []string{ones[:606], ones[:605] + "\x05", full + full + ones[:96], full + full + "\xff" + ones[:95], ones, strings.Repeat("\xff", 606), full + full + full, strings.Repeat("\x02", 606)} {
		cobsRead(t, s, "", false)
		lessRead(t, s, "", false)
	}
}
