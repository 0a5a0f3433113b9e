package tests

import (
	"math"
	"math/rand"
	"strconv"
	"strings"
	"testing"

	"loop.example/cotterpin/impl"
)

const allMapped = 4294967295

// special are bytes next to those that escaping changes, and what it writes for them.
const special = "\x00\x01\x11\x1f\x20\x31\x3f]^}~\x7f\xff"

// noMaps are numbers that are no control maps; their low bits are those of one.
var noMaps = []int{-1, -2, -4294967295, -4294967296, 4294967296, 4294967297, 1<<33 - 1, 1 << 40, math.MaxInt, math.MinInt}

func someMaps() []int {
	list := []int{0, 1, 655360, 1 << 31, allMapped - 1, allMapped}
	source := rand.New(rand.NewSource(12))
	for range 6 {
		list = append(list, int(source.Uint32()))
	}
	return list
}

func isMapped(m int, b byte) bool {
	return b < 32 && m/(1<<b)%2 == 1
}

// someTexts returns texts that EscapePut accepts, the longest included.
func someTexts() []string {
	list := allOf(special, 2)
	source := rand.New(rand.NewSource(13))
	for n := 0; n < 200; n += 3 {
		list = append(list, mixedOf(source, special, n), mixedBytes(source, n))
	}
	for b := range 256 {
		list = append(list, string([]byte{byte(b)}))
	}
	return append(list, mixedOf(source, special, 599), mixedOf(source, special, 600), strings.Repeat("~", 600), strings.Repeat("}", 600), strings.Repeat("\x00", 600), strings.Repeat("a", 600))
}

// someEscaped returns texts that EscapeGet may be given, most of which EscapePut does not write.
func someEscaped() []string {
	list := allOf("\x00\x11a}]~\xff", 4)
	source := rand.New(rand.NewSource(14))
	for range 300 {
		list = append(list, mixedOf(source, "\x00\x11\x1f\x20\x31]^}", source.Intn(60)))
	}
	for n := 0; n <= 1200; n += 100 {
		text := strings.ReplaceAll(mixedOf(source, "\x00\x11}", n), "~", "a")
		list = append(list, text, strings.TrimRight(text, "}"))
	}
	return list
}

// slowEscape and slowUnescape follow the document; they know nothing of limits.
func slowEscape(m int, s string) string {
	var out []byte
	for _, b := range []byte(s) {
		if b == 126 || b == 125 || isMapped(m, b) {
			out = append(out, 125)
			b ^= 32
		}
		out = append(out, b)
	}
	return string(out)
}

func slowUnescape(m int, s string) (string, bool) {
	if strings.Contains(s, "\x7e") || strings.HasSuffix(s, "\x7d") {
		return "", false
	}
	var out []byte
	behind := false
	for _, b := range []byte(s) {
		switch {
		case behind:
			out = append(out, b^32)
			behind = false
		case b == 125:
			behind = true
		case !isMapped(m, b):
			out = append(out, b)
		}
	}
	return string(out), true
}

func unescaped(t *testing.T, m int, s string, want string, wanted bool) {
	t.Helper()
	text, ok := impl.EscapeGet(m, s)
	sameOk(t, "get of "+shown(s)+" with map "+strconv.Itoa(m), text, ok, want, wanted)
}

func TestEscapeWritesTwoForOne(t *testing.T) {
	list := []struct {
		m          int
		text, want string
	}{
		{0, "", ""}, {allMapped, "", ""},
		{0, "a", "a"}, {allMapped, "a", "a"},
		{0, "~", "}^"}, {0, "}", "}]"}, {0, "~}", "}^}]"}, {0, "^]", "^]"},
		{0, "}~", "}]}^"}, {0, "}]", "}]]"}, {0, "\x7c\x7f", "\x7c\x7f"},
		{0, "\x00\x11\x1f", "\x00\x11\x1f"},
		{allMapped, "\x00\x11\x1f", "} }1}?"},
		{1, "\x00\x01", "} \x01"}, {2, "\x00\x01", "\x00}!"},
		{1 << 31, "\x1e\x1f\x20", "\x1e}?\x20"}, {allMapped, " ?@\xff", " ?@\xff"},
		{655360, "a~}\x11\x13\x12", "a}^}]}1}3\x12"},
	}
	for _, x := range list {
		same(t, "put of "+shown(x.text), impl.EscapePut(x.m, x.text), x.want)
		same(t, "many of "+shown(x.text), impl.EscapeMany(x.m, x.text), len(x.want)-len(x.text))
		unescaped(t, x.m, x.want, x.text, true)
	}
}

// Each bit of a map is for one byte alone.
func TestEscapeMapHasABitForEachLowByte(t *testing.T) {
	for bit := range 32 {
		for b := range 256 {
			text := string([]byte{byte(b)})
			want, many := text, 0
			if b == bit || b == 125 || b == 126 {
				want, many = string([]byte{125, byte(b) ^ 32}), 1
			}
			same(t, "put of "+shown(text)+" for bit "+strconv.Itoa(bit), impl.EscapePut(1<<bit, text), want)
			same(t, "many of "+shown(text)+" for bit "+strconv.Itoa(bit), impl.EscapeMany(1<<bit, text), many)
			switch {
			case b == bit:
				unescaped(t, 1<<bit, text, "", true)
			case b == 125 || b == 126:
				unescaped(t, 1<<bit, text, "", false)
			default:
				unescaped(t, 1<<bit, text, text, true)
			}
		}
	}
}

// Promise 18.
func TestEscapeIsInvertibleAndRemovesSpecialBytes(t *testing.T) {
	for _, m := range someMaps() {
		for _, text := range someTexts() {
			put := impl.EscapePut(m, text)
			unescaped(t, m, put, text, true)
			for i := range len(put) {
				if put[i] == 126 || isMapped(m, put[i]) {
					t.Fatalf("put of %s with map %d has the byte %d", shown(text), m, put[i])
				}
			}
		}
	}
}

// Promise 18: put of a concatenation is the concatenation.
func TestEscapeOfAConcatenation(t *testing.T) {
	for _, m := range someMaps() {
		for _, text := range someTexts() {
			for _, cut := range []int{0, 1, len(text) / 3, len(text) / 2, len(text)} {
				cut = min(cut, len(text))
				parts := impl.EscapePut(m, text[:cut]) + impl.EscapePut(m, text[cut:])
				same(t, "put of parts of "+shown(text), parts, impl.EscapePut(m, text))
			}
		}
	}
}

// Promise 19. What is decoded may be longer than EscapePut accepts; the rest of the promise is about what it accepts.
func TestEscapeDecodingAgainIsStable(t *testing.T) {
	decoded := 0
	for _, m := range someMaps() {
		for _, s := range someEscaped() {
			text, ok := impl.EscapeGet(m, s)
			if !ok {
				continue
			}
			decoded++
			if len(text) > len(s) {
				t.Fatalf("get of %s is longer: %s", shown(s), shown(text))
			}
			if len(text) <= 600 {
				unescaped(t, m, impl.EscapePut(m, text), text, true)
			}
		}
	}
	if decoded < 1000 {
		t.Fatalf("only %d were decoded", decoded)
	}
}

// Promise 20.
func TestEscapeLargerMapEscapesMore(t *testing.T) {
	for _, text := range someTexts() {
		least, most := impl.EscapeMany(0, text), impl.EscapeMany(allMapped, text)
		same(t, "many with the map 0", least, strings.Count(text, "~")+strings.Count(text, "}"))
		for _, m := range someMaps() {
			many := impl.EscapeMany(m, text)
			same(t, "many of "+shown(text), many, len(impl.EscapePut(m, text))-len(text))
			if many < least || many > most {
				t.Fatalf("many of %s is %d with map %d, not in %d to %d", shown(text), many, m, least, most)
			}
			if more := impl.EscapeMany(m|655361, text); more < many || more > most {
				t.Fatalf("many of %s is %d with map %d, and %d with a larger one", shown(text), many, m, more)
			}
		}
	}
}

func TestEscapeFollowsTheDocument(t *testing.T) {
	for _, m := range someMaps() {
		for _, text := range someTexts() {
			want := slowEscape(m, text)
			same(t, "put of "+shown(text), impl.EscapePut(m, text), want)
			same(t, "many of "+shown(text), impl.EscapeMany(m, text), len(want)-len(text))
		}
		for _, s := range someEscaped() {
			want, wanted := slowUnescape(m, s)
			unescaped(t, m, s, want, wanted)
		}
	}
}

// An escape as the last byte is refused, also if it stands behind an escape; anywhere else it may stand behind one.
func TestEscapeAtTheEnd(t *testing.T) {
	for _, m := range someMaps() {
		for _, s := range []string{"}", "a}", "}}", "}}}", "a}}", "}]}", "}^}", "\x00}", "}\x00}", "}a}", strings.Repeat("}", 1200), strings.Repeat("a", 1199) + "}"} {
			unescaped(t, m, s, "", false)
		}
	}
	unescaped(t, 0, "}}a", "]a", true)
	unescaped(t, 0, "}}}]", "]}", true)
	unescaped(t, 1, "}}\x00", "]", true)
	unescaped(t, 1, "}\x00", " ", true)
}

func TestEscapeFlagIsRefused(t *testing.T) {
	for _, m := range someMaps() {
		for _, s := range []string{"~", "a~b", "~a", "a~", "}~", "a}~b", "}}~", "}]~", "\x00~", "~}]", "~}", "~~", strings.Repeat("a", 1199) + "~", "~" + strings.Repeat("a", 1199)} {
			unescaped(t, m, s, "", false)
		}
	}
}

func TestEscapeMappedBytesAreIgnored(t *testing.T) {
	unescaped(t, 655360, "a\x11}\x31\x13b", "a\x11b", true)
	unescaped(t, 655360, "\x11\x13", "", true)
	unescaped(t, 655360, "\x10\x12\x14", "\x10\x12\x14", true)
	unescaped(t, 0, "\x00\x11\x1f", "\x00\x11\x1f", true)
	unescaped(t, allMapped, "\x00\x11\x1f\x20", "\x20", true)
	unescaped(t, allMapped, strings.Repeat("\x1f", 1200), "", true)
	unescaped(t, allMapped, "", "", true)
}

// Behind an escape each byte counts, a mapped one too.
func TestEscapeMappedBytesBehindAnEscape(t *testing.T) {
	for _, m := range someMaps() {
		for b := range 256 {
			if b != 126 {
				unescaped(t, m, string([]byte{125, byte(b), 'a'}), string([]byte{byte(b) ^ 32, 'a'}), true)
			}
			if b != 125 && b != 126 {
				unescaped(t, m, string([]byte{125, byte(b)}), string([]byte{byte(b) ^ 32}), true)
			}
		}
	}
	unescaped(t, allMapped, "}\x11\x11}\x11", "11", true)
	unescaped(t, allMapped, "\x11}\x11", "1", true)
}

func TestEscapeLimits(t *testing.T) {
	same(t, "BytesMax", impl.BytesMax, 600)
	for _, m := range []int{0, 655360, allMapped} {
		for _, letter := range []string{"a", "~", "}", "\x00", "\x11", "\xff"} {
			full, over := strings.Repeat(letter, 600), strings.Repeat(letter, 601)
			same(t, "put of 600", impl.EscapePut(m, full), slowEscape(m, full))
			same(t, "many of 600", impl.EscapeMany(m, full), len(slowEscape(m, full))-600)
			unescaped(t, m, impl.EscapePut(m, full), full, true)
			same(t, "put of 601", impl.EscapePut(m, over), "")
			same(t, "many of 601", impl.EscapeMany(m, over), -1)
			same(t, "put of 5000", impl.EscapePut(m, strings.Repeat(letter, 5000)), "")
			same(t, "many of 5000", impl.EscapeMany(m, strings.Repeat(letter, 5000)), -1)
		}
		for _, letters := range []string{"a", "}]", "}^", "\xff", "}\x00", "\x00"} {
			full := strings.Repeat(letters, 1200/len(letters))
			want, _ := slowUnescape(m, full)
			unescaped(t, m, full, want, true)
			unescaped(t, m, full+"a", "", false)
			unescaped(t, m, full+"\x00", "", false)
			unescaped(t, m, full+full, "", false)
		}
	}
	unescaped(t, 0, strings.Repeat("a", 1200), strings.Repeat("a", 1200), true)
	unescaped(t, 0, strings.Repeat("}^", 600), strings.Repeat("~", 600), true)
}

func TestEscapeWithNoControlMap(t *testing.T) {
	for _, m := range noMaps {
		for _, text := range []string{"", "a", "~", "\x00\x1f", "}]", strings.Repeat("a", 600), strings.Repeat("a", 601)} {
			same(t, "put with map "+strconv.Itoa(m), impl.EscapePut(m, text), "")
			same(t, "many with map "+strconv.Itoa(m), impl.EscapeMany(m, text), -1)
			unescaped(t, m, text, "", false)
		}
	}
}
