package tests

import (
	"encoding/hex"
	"fmt"
	"math/rand"
	"regexp"
	"slices"
	"strconv"
	"strings"
	"testing"

	"loop.example/cotterpin/impl"
)

// example is the document's, a line of input and a line of output side by side.
const example = `send 01|no
short 313233343536373839|36974
long 313233343536373839|3421780262
short -|0
cobs 11002200|0211022201
cobs -|01
less 05|05
less 01|0201
less 0005|0105
less -|01
set cobs 3 1 0|no
set cobs 2 12 5|no
set cobs 2 12 0|ok
feed 00|
feed 0301|
held|2
feed 00|wrong,
feed 010100|runt,
held|0
send -|01010100
feed 01010100|frame -,
set escape 4 8 0|ok
send -|000000007e
feed 7d7e|abort,
feed 7e|
feed 000000007e|frame -,
feed 0000007e|runt,
held|0
bits -|01111110000000000000000001111110
bits zz|what
feed -|
what|what`

// bytesCommands are the commands that take bytes.
var bytesCommands = []string{"send", "feed", "short", "long", "cobs", "less", "bits"}

// figures is bytes as a line has them, whatever their number.
func figures(s string) string {
	if s == "" {
		return "-"
	}
	return fmt.Sprintf("%x", s)
}

// said checks a session, line by line; each row has a line and its answer, with a bar in between.
func said(t *testing.T, rows ...string) {
	t.Helper()
	var lines []string
	want := ""
	for _, row := range rows {
		line, answer, found := strings.Cut(row, "|")
		if !found {
			t.Fatalf("no answer in %q", row)
		}
		lines = append(lines, line)
		want += answer + "\n"
		same(t, fmt.Sprintf("session %q", lines), impl.Session(lines), want)
	}
}

// saidBoth checks a line with no configuration set and with one, behind which nothing is held.
func saidBoth(t *testing.T, line, without, with string) {
	t.Helper()
	said(t, line+"|"+without, "held|0")
	said(t, "set cobs 2 12 0|ok", line+"|"+with, "held|0")
}

// unread checks that a word is refused, and that no command takes it for bytes.
func unread(t *testing.T, word string) {
	t.Helper()
	text, ok := impl.HexGet(word)
	sameOk(t, "bytes of "+shown(word), text, ok, "", false)
	for _, name := range bytesCommands {
		saidBoth(t, name+" "+word, "what", "what")
	}
}

// slowSession follows the document; a line is one that an expression describes.
type slowSession struct {
	conf  *impl.Conf
	state impl.Find
}

var (
	setLine    = regexp.MustCompile(`^set ([^ ]+) ([^ ]+) ([^ ]+) ([^ ]+)$`)
	bytesLine  = regexp.MustCompile(`^([a-z]+) (-|(?:[0-9a-f][0-9a-f]){1,40})$`)
	numberWord = regexp.MustCompile(`^(?:0|[1-9][0-9]{0,5})$`)
)

func (s *slowSession) do(line string) string {
	if line == "held" {
		return strconv.Itoa(len(s.state.Held))
	}
	if words := setLine.FindStringSubmatch(line); words != nil {
		return s.doSet(words[1:])
	}
	words := bytesLine.FindStringSubmatch(line)
	if words == nil || !slices.Contains(bytesCommands, words[1]) {
		return "what"
	}
	text := ""
	if words[2] != "-" {
		read, _ := hex.DecodeString(words[2])
		text = string(read)
	}
	return s.doBytes(words[1], text)
}

func (s *slowSession) doSet(words []string) string {
	codec := slices.Index([]string{"", "escape", "cobs", "less"}, words[0])
	var numbers []int
	for _, word := range words[1:] {
		if !numberWord.MatchString(word) {
			return "no"
		}
		n, _ := strconv.Atoi(word)
		numbers = append(numbers, n)
	}
	sum, most, m := numbers[0], numbers[1], numbers[2]
	if codec < 1 || sum != 2 && sum != 4 || most > 40 || codec != 1 && m != 0 {
		return "no"
	}
	c := conf(codec, sum, most, m)
	s.conf, s.state = &c, impl.Find{}
	return "ok"
}

func (s *slowSession) doBytes(name, text string) string {
	switch name {
	case "short":
		return strconv.Itoa(slowRun(2, 65535, text) ^ 65535)
	case "long":
		return strconv.Itoa(slowRun(4, 4294967295, text) ^ 4294967295)
	case "cobs":
		return figures(slowCobsPut(text))
	case "less":
		return figures(slowLessPut(text))
	case "bits":
		if len(text) > 24 {
			return "no"
		}
		return framed(impl.BitsOf(impl.SumPut(2, text)))
	}
	if s.conf == nil {
		return "no"
	}
	if name == "send" {
		if len(text) > s.conf.Most {
			return "no"
		}
		return figures(coded(*s.conf, impl.SumPut(s.conf.Sum, text)) + endOf(*s.conf))
	}
	return s.doFeed(text)
}

func (s *slowSession) doFeed(text string) string {
	after, events := slowFind(*s.conf, s.state, text)
	s.state = after
	out := ""
	for _, e := range events {
		out += []string{"", "frame", "sum", "abort", "runt", "long", "wrong"}[e.Kind]
		if e.Kind == 1 {
			out += " " + figures(e.Text)
		}
		out += ","
	}
	return out
}

// slowAnswers is what a session of these lines returns, however many they are.
func slowAnswers(lines []string) string {
	var s slowSession
	out := ""
	for _, line := range lines {
		out += s.do(line) + "\n"
	}
	return out
}

// someSet returns a line that sets a configuration, or fails to in one word.
func someSet(source *rand.Rand) string {
	pick := func(words ...string) string { return words[source.Intn(len(words))] }
	words := []string{"set", pick("escape", "cobs", "less"), pick("2", "4"), pick("0", "1", "5", "12", "40"), "0"}
	if words[1] == "escape" {
		words[4] = pick("0", "1", "655360", "999999")
	}
	if source.Intn(4) == 0 {
		words[1+source.Intn(4)] = pick("2", "3", "41", "02", "-1", "+2", "1000000", "0000000", "cobs", "Cobs", "x", "٢", "")
	}
	return strings.Join(words, " ")
}

// someLined returns lines as a session may get them: a few that set, frames that come in parts, noise, and lines that are none.
func someLined(source *rand.Rand, many int) []string {
	confs := someConfs()
	var lines []string
	for len(lines) < many {
		c := confs[source.Intn(len(confs))]
		text := mixedOf(source, special, source.Intn(43))
		line := bytesCommands[source.Intn(len(bytesCommands))] + " " + figures(text)
		switch source.Intn(14) {
		case 0:
			line = someSet(source)
		case 1:
			line = "held"
		case 2:
			at := source.Intn(len(line))
			line = line[:at] + mixedOf(source, " -0aA", 1) + line[at:]
		case 3:
			at := source.Intn(len(line))
			line = line[:at] + line[at+1:]
		case 4, 5, 6, 7:
			stream := someStream(source, c, 100)
			at := source.Intn(60)
			line = "feed " + figures(stream[at:at+source.Intn(41)])
		case 8:
			lines = append(lines, fmt.Sprintf("set %s %d %d %d", []string{"", "escape", "cobs", "less"}[c.Codec], c.Sum, c.Most, c.Map))
			line = "feed " + figures(impl.FindSend(c, mixedOf(source, special, source.Intn(min(c.Most, 14)+1))))
		}
		lines = append(lines, line)
	}
	return lines[:many]
}

func TestSessionLimit(t *testing.T) {
	same(t, "SessionMax", impl.SessionMax, 40)
}

// Promise 39.
func TestHexIsInvertible(t *testing.T) {
	source := rand.New(rand.NewSource(50))
	list := someBytes()
	for n := range 41 {
		list = append(list, mixedBytes(source, n), strings.Repeat("\x00", n), strings.Repeat("\xff", n))
	}
	for _, s := range list {
		if len(s) > 40 {
			continue
		}
		put := impl.HexPut(s)
		same(t, "figures of "+shown(s), put, figures(s))
		if s != "" {
			same(t, "number of figures of "+shown(s), len(put), 2*len(s))
		}
		text, ok := impl.HexGet(put)
		sameOk(t, "bytes of "+shown(put), text, ok, s, true)
	}
}

func TestHexFigures(t *testing.T) {
	for s, want := range map[string]string{
		"": "-", "\x00": "00", "\x0a": "0a", "\xa0": "a0", "\xff": "ff", "\x00\x00": "0000", "-": "2d", "\x12\x34\x56\x78\x9a\xbc\xde\xf0": "123456789abcdef0",
	} {
		same(t, "figures of "+shown(s), impl.HexPut(s), want)
		text, ok := impl.HexGet(want)
		sameOk(t, "bytes of "+shown(want), text, ok, s, true)
	}
}

func TestHexLimits(t *testing.T) {
	for _, letter := range []string{"\x00", "a", "\xff"} {
		most := strings.Repeat(letter, 40)
		same(t, "figures of MostMax bytes", impl.HexPut(most), fmt.Sprintf("%x", most))
		text, ok := impl.HexGet(fmt.Sprintf("%x", most))
		sameOk(t, "bytes of 80 figures", text, ok, most, true)
		for _, many := range []int{41, 42, 80, 81, 600, 601} {
			same(t, strconv.Itoa(many)+" bytes", impl.HexPut(strings.Repeat(letter, many)), "")
			unread(t, strings.Repeat(fmt.Sprintf("%x", letter), many))
		}
		unread(t, fmt.Sprintf("%x", most)+"0")
	}
}

// Promise 40.
func TestHexIsCanonical(t *testing.T) {
	list := append(allOf("09afAgG-/:`", 4), someBytes()...)
	for a := range 256 {
		for b := range 256 {
			list = append(list, string([]byte{byte(a), byte(b)}))
		}
	}
	source := rand.New(rand.NewSource(51))
	for n := range 90 {
		for range 20 {
			text := []byte(strings.Repeat("0", n))
			for i := range text {
				text[i] = "0123456789abcdef"[source.Intn(16)]
			}
			list = append(list, string(text))
		}
	}
	for _, s := range list {
		text, ok := impl.HexGet(s)
		read, err := hex.DecodeString(s)
		wanted := s == "-" || err == nil && s != "" && s == strings.ToLower(s) && len(read) <= 40
		same(t, "whether "+shown(s)+" is figures", ok, wanted)
		if ok {
			same(t, "figures of the bytes of "+shown(s), impl.HexPut(text), s)
		} else {
			same(t, "bytes of "+shown(s), text, "")
		}
	}
}

func TestHexGetRefuses(t *testing.T) {
	for _, s := range []string{
		"", "0", "a", "000", "00000", // no characters, and an odd number of digits
		"A0", "0A", "FF", "fF", "aB", "0aFF", // upper case
		"g0", "0g", "zz", "/0", "0/", ":0", "0:", "`0", "0`", "@0", "0G", "x0", "0x", "0x00", "00\n", "\x00\x00", "\x000", "é", "١٢", "0é",
		"--", "-0", "0-", "00-", "-00", "---", "-a", "- ", "+0", "_0", "0_", "00_00", "00,00",
	} {
		unread(t, s)
	}
	for _, s := range []string{" ", "  ", " 0", "0 ", "00 ", " 00", "00 00"} {
		unread(t, s)
	}
}

// The example is checked line by line, each with the lines before it.
func TestSessionExample(t *testing.T) {
	said(t, strings.Split(example, "\n")...)
}

func TestSessionNoLines(t *testing.T) {
	same(t, "session of no lines", impl.Session(nil), "")
	same(t, "session of an empty list", impl.Session([]string{}), "")
}

// Promise 41.
func TestSessionOutputDependsOnPrecedingLines(t *testing.T) {
	source := rand.New(rand.NewSource(52))
	for range 60 {
		lines := someLined(source, 50)
		all := impl.Session(lines)
		for n := range len(lines) + 1 {
			part := impl.Session(lines[:n])
			if !strings.HasPrefix(all, part) {
				t.Fatalf("%d of the lines %q are answered %q, all of them %q", n, lines, part, all)
			}
			same(t, "number of answers to "+strconv.Itoa(n)+" lines", strings.Count(part, "\n"), min(n, 40))
			if part != "" {
				same(t, "last byte of the answers", part[len(part)-1], '\n')
			}
		}
		same(t, "answers of all lines", all, impl.Session(lines[:40]))
	}
}

func TestSessionMaxLines(t *testing.T) {
	for _, line := range []string{"held", "what", "", "set cobs 2 12 0", "short -"} {
		answer := impl.Session([]string{line})
		for _, many := range []int{1, 39, 40, 41, 42, 80, 1000} {
			got := impl.Session(slices.Repeat([]string{line}, many))
			same(t, strconv.Itoa(many)+" lines "+line, got, strings.Repeat(answer, min(many, 40)))
		}
	}
	// The last line that is executed still depends on all before it, and those behind it on nothing.
	lines := slices.Repeat([]string{"feed 01"}, 40)
	lines[0], lines[39] = "set cobs 2 40 0", "held"
	want := "ok\n" + strings.Repeat("\n", 38) + "38\n"
	same(t, "SessionMax lines", impl.Session(lines), want)
	same(t, "SessionMax lines and one", impl.Session(append(slices.Clone(lines), "held")), want)
}

// Promise 42.
func TestSessionTransmitsFrames(t *testing.T) {
	set := "set cobs 2 12 0"
	lines := []string{set, "send 0100"}
	sent := strings.Split(impl.Session(lines), "\n")[1]
	same(t, "what is sent", sent, figures(impl.FindSend(conf(impl.CodecCobs, 2, 12, 0), "\x01\x00")))
	same(t, "session", impl.Session(append(lines, "feed "+sent)), "ok\n"+sent+"\nframe 0100,\n")

	source := rand.New(rand.NewSource(53))
	for _, codec := range []string{"escape", "cobs", "less"} {
		for _, sum := range []string{"2", "4"} {
			for range 40 {
				// Escaped, these still fit in a line.
				text := figures(mixedOf(source, special, source.Intn(13)))
				lines := []string{"set " + codec + " " + sum + " 12 0", "send " + text}
				sent := strings.Split(impl.Session(lines), "\n")[1]
				same(t, fmt.Sprintf("session %q", lines), impl.Session(append(lines, "feed "+sent)), "ok\n"+sent+"\nframe "+text+",\n")
			}
		}
	}
}

// The lines of a session are answered as a second one answers them.
func TestSessionFollowsTheDocument(t *testing.T) {
	source := rand.New(rand.NewSource(54))
	kinds := map[string]int{}
	for range 1500 {
		lines := someLined(source, 40)
		before := slices.Clone(lines)
		same(t, fmt.Sprintf("session %q", lines), impl.Session(lines), slowAnswers(lines))
		same(t, "the lines behind a session", strings.Join(lines, "|"), strings.Join(before, "|"))
		for _, word := range strings.FieldsFunc(slowAnswers(lines), func(r rune) bool { return r == '\n' || r == ',' || r == ' ' }) {
			kinds[word]++
		}
	}
	for _, word := range []string{"ok", "no", "what", "frame", "sum", "abort", "runt", "long", "wrong"} {
		if kinds[word] < 20 {
			t.Errorf("%s is answered %d times only: the lines are too tame", word, kinds[word])
		}
	}
}

// No command but send and feed depends on a configuration.
func TestSessionWithAndWithoutConfiguration(t *testing.T) {
	saidBoth(t, "held", "0", "0")
	saidBoth(t, "send -", "no", "01010100")
	saidBoth(t, "send 01", "no", "0401f1e100")
	saidBoth(t, "feed -", "no", "")
	saidBoth(t, "feed 00", "no", "")
	saidBoth(t, "feed 01010100", "no", "frame -,")
	saidBoth(t, "short -", "0", "0")
	saidBoth(t, "short 313233343536373839", "36974", "36974")
	saidBoth(t, "long -", "0", "0")
	saidBoth(t, "long 313233343536373839", "3421780262", "3421780262")
	saidBoth(t, "cobs -", "01", "01")
	saidBoth(t, "cobs 0005", "010205", "010205")
	saidBoth(t, "less -", "01", "01")
	saidBoth(t, "less 0005", "0105", "0105")
	saidBoth(t, "bits -", flag+"0000000000000000"+flag, flag+"0000000000000000"+flag)
	saidBoth(t, "set cobs 2 12 0", "ok", "ok")
	saidBoth(t, "set cobs 2 12 1", "no", "no")
	saidBoth(t, "what", "what", "what")
}

// A failed set leaves no configuration where there was none.
func TestSessionSetFailsFirst(t *testing.T) {
	said(t, "set cobs 3 12 0|no", "send 01|no", "feed 00|no", "held|0", "set cobs 2 12 0|ok", "send -|01010100")
}

// A set that fails behind one that did not leaves the configuration and what is held; one that does not starts anew.
func TestSessionSetFailsBehindOneThatDidNot(t *testing.T) {
	for _, line := range []string{
		"set cobs 3 12 0", "set cobs 2 41 0", "set cobs 2 12 5", "set other 2 12 0", "set less x 12 0", "set escape 2 12 1000000", "set escape 4 -1 0",
	} {
		said(t, "set cobs 2 3 0|ok", "feed 0101|", line+"|no", "held|2", "feed 01|", "held|3", "feed 00|frame -,", "held|0", "send 01020304|no", "send -|01010100")
	}
	for _, line := range []string{"set cobs 2 3", "set cobs 2 3 0 0", "set", "set  cobs 2 3 0", "set cobs 2 3 0 "} {
		said(t, "set cobs 2 3 0|ok", "feed 0101|", line+"|what", "held|2", "feed 0100|frame -,")
	}
	said(t, "set cobs 2 3 0|ok", "feed 0101|", "set cobs 2 3 0|ok", "held|0", "feed 01|", "held|1", "feed 00|runt,")
	said(t, "set cobs 2 3 0|ok", "feed 0101|", "set escape 4 8 0|ok", "held|0", "feed 7e|", "send -|000000007e", "feed 00|", "held|1")
	// A decoder that had too many bytes is new too.
	said(t, "set cobs 2 0 0|ok", "feed "+strings.Repeat("01", 9)+"|", "held|0", "set cobs 2 0 0|ok", "feed 00|")
	said(t, "set cobs 2 0 0|ok", "feed "+strings.Repeat("01", 9)+"|", "held|0", "set cobs 2 41 0|no", "feed 00|long,")
}

func TestSessionSetConfiguration(t *testing.T) {
	for _, codec := range []string{"escape", "cobs", "less"} {
		for _, rest := range []string{"2 0 0", "4 0 0", "2 40 0", "4 40 0", "2 9 0", "4 39 0"} {
			said(t, "set "+codec+" "+rest+"|ok")
		}
		for _, rest := range []string{"0 12 0", "1 12 0", "3 12 0", "5 12 0", "2 41 0", "4 41 0", "2 100 0", "2 999999 0"} {
			said(t, "set "+codec+" "+rest+"|no")
		}
	}
	for _, codec := range []string{"Escape", "ESCAPE", "cob", "cobss", "Less", "1", "2", "3", "0", "-", "set", "what", "cobs,", "cobs\n", "\x00", "é"} {
		said(t, "set "+codec+" 2 12 0|no", "send -|no")
	}
	for _, m := range []string{"1", "2", "655360", "999999"} {
		said(t, "set escape 2 12 "+m+"|ok", "set cobs 2 12 "+m+"|no", "set less 2 12 "+m+"|no")
	}
	// Each field reaches the configuration: the codec, the sum, the most bytes and the map.
	said(t, "set cobs 2 2 0|ok", "send 0505|"+figures(impl.FindSend(conf(impl.CodecCobs, 2, 2, 0), "\x05\x05")), "send 050505|no")
	said(t, "set less 4 3 0|ok", "send 0505|"+figures(impl.FindSend(conf(impl.CodecLess, 4, 3, 0), "\x05\x05")), "send 05050505|no")
	said(t, "set escape 2 1 0|ok", "send 05|05"+"d5a77e")
	said(t, "set escape 2 1 32|ok", "send 05|7d25"+"d5a77e")
}

func TestSessionNumbers(t *testing.T) {
	none := []string{
		"1000000", "0000000", "9999999", "4294967295", "4294967296", "18446744073709551618", "99999999999999999999999", // too many digits
		"00", "01", "02", "04", "012", "000000", "000002", "010", // leading zeros
		"-1", "-0", "-2", "+2", "+0", "-", "+", // signs
		"x", "2x", "x2", "0x2", "2.0", "2e0", "1_0", "٢", "2\n", "\t2", "a", "ff", ",", "\x00",
	}
	for _, word := range none {
		said(t, "set escape "+word+" 12 0|no", "set escape 2 "+word+" 0|no", "set escape 2 12 "+word+"|no", "send -|no")
		said(t, "set cobs "+word+" 12 0|no", "set cobs 2 "+word+" 0|no", "set cobs 2 12 "+word+"|no", "send -|no")
	}
	// Six digits are a number, which only a map may be; the bits of this one are 19 and 17.
	said(t, "set escape 2 12 100000|ok", "set escape 2 12 999999|ok", "set escape 2 12 655360|ok", "send 11121314|7d31127d3314"+figures(impl.SumPut(2, "\x11\x12\x13\x14")[4:])+"7e")
	said(t, "set escape 100000 12 0|no", "set escape 2 100000 0|no", "set cobs 2 12 100000|no")
	said(t, "set cobs 2 0 0|ok", "set cobs 4 10 0|ok", "set escape 2 0 0|ok")
}

// A line whose words are not separated by single spaces is none of those.
func TestSessionSpaces(t *testing.T) {
	lines := []string{"held", "set cobs 2 12 0", "set other 2 12 0", "set cobs x 12 0"}
	for _, name := range bytesCommands {
		lines = append(lines, name+" -", name+" 01")
	}
	for _, line := range lines {
		for _, other := range []string{" " + line, line + " ", "  " + line, line + "  ", " " + line + " "} {
			saidBoth(t, other, "what", "what")
		}
		for _, separator := range []string{"  ", "   ", "\t", "\n", "\u00a0", ",", ""} {
			if strings.Contains(line, " ") {
				saidBoth(t, strings.Replace(line, " ", separator, 1), "what", "what")
			}
		}
	}
	for _, line := range []string{"", " ", "  ", "     ", "\n", "\t", "set    ", "set  2 12 0", "set cobs  12 0", "set cobs 2  0", "set cobs 2 12 "} {
		saidBoth(t, line, "what", "what")
	}
	// Other white space belongs to a word.
	saidBoth(t, "set \tcobs 2 12 0", "no", "no")
	saidBoth(t, "set cobs 2 12 0\n", "no", "no")
	saidBoth(t, "held\n", "what", "what")
	saidBoth(t, "send 01\n", "what", "what")
}

func TestSessionWordsTooManyOrTooFew(t *testing.T) {
	for _, name := range bytesCommands {
		for _, line := range []string{name, name + " - -", name + " 01 01", name + " 01 -", name + " 01 02 03 04", name + " 2 12 0"} {
			saidBoth(t, line, "what", "what")
		}
	}
	for _, line := range []string{
		"held -", "held 01", "held held", "held 0 0 0 0", "set", "set cobs", "set cobs 2", "set cobs 2 12", "set cobs 2 12 0 0", "set cobs 2 12 0 ok", "cobs 2 12 0",
	} {
		saidBoth(t, line, "what", "what")
	}
}

func TestSessionOtherLines(t *testing.T) {
	for _, line := range []string{
		"", "what", "what 01", "no", "ok", "frame 01", "frame -", "sum -", "wrong -", "escape 01", "hold", "HELD", "Held", "hel", "helds", "held\x00", "01", "-", "Send 01", "SEND 01", "sen 01", "sends 01",
		"what cobs 2 12 0", "Set cobs 2 12 0", "cobs cobs 2 12 0", "send cobs 2 12 0", "long long", "short short", "bits bits", "\xff", "é", "\x00", strings.Repeat("a", 5000), strings.Repeat(" ", 5000), strings.Repeat("00 ", 5000),
	} {
		saidBoth(t, line, "what", "what")
	}
	// Words are checked before a configuration is asked for.
	saidBoth(t, "send zz", "what", "what")
	saidBoth(t, "feed 0", "what", "what")
}

func TestSessionSendLimits(t *testing.T) {
	for _, codec := range codecs {
		name := []string{"", "escape", "cobs", "less"}[codec]
		for _, sum := range kinds {
			for _, most := range []int{0, 1, 2, 12, 24, 25, 39, 40} {
				set := fmt.Sprintf("set %s %d %d 0|ok", name, sum, most)
				for _, letter := range []string{"\x00", "\x05", "}", "~", "\xff"} {
					text := strings.Repeat(letter, most)
					sent := fmt.Sprintf("%x", impl.FindSend(conf(codec, sum, most, 0), text))
					more := "no"
					if most == 40 {
						more = "what" // so many bytes are no word that HexGet accepts
					}
					said(t, set, "send "+figures(text)+"|"+sent, "send "+figures(text+letter)+"|"+more, "held|0")
				}
			}
		}
	}
	// What is sent may be longer than what HexPut writes.
	sent := impl.Session([]string{"set escape 4 40 0", "send " + strings.Repeat("7e", 40)})
	if !strings.HasPrefix(sent, "ok\n"+strings.Repeat("7d5e", 40)) {
		t.Errorf("40 flags are sent as %q", sent)
	}
}

func TestSessionFeedEvents(t *testing.T) {
	// Each codec, each kind of event that it has, and nothing.
	said(t, "set cobs 2 2 0|ok", "feed -|", "feed 00|", "feed 000000|", "feed 01|", "held|1", "feed -|", "held|1", "feed 0100|runt,", "held|0",
		"feed 0501|", "feed 00|wrong,", "feed 03010100|sum,", "feed 060101010101"+"00|long,", "feed 01010100|frame -,", "feed 0401f1e100|frame 01,")
	said(t, "set less 2 2 0|ok", "feed -|", "feed 00|", "feed 0100|runt,", "feed 030100|sum,", "feed 060101010101"+"00|long,", "feed 01010100|frame -,",
		"feed "+figures(impl.FindSend(conf(impl.CodecLess, 2, 2, 0), "\x07"))+"|frame 07,")
	said(t, "set escape 2 2 1|ok", "feed -|", "feed 7e|", "feed 7e7e|", "feed 00007e|", "feed 7d7e|abort,", "feed 417d7e|abort,", "feed 417e|runt,", "feed 41417e|sum,",
		"feed 41414141417e|long,", "feed 7d207d207e|frame -,", "feed 00"+figures(impl.FindSend(conf(impl.CodecEscape, 2, 2, 1), "\x00A"))+"|frame 0041,")
	// A buffer that was full: twelve bytes, and one more.
	said(t, "set cobs 2 2 0|ok", "feed 010101010101010101010101|", "held|12", "feed 01|", "held|0", "feed 01|", "held|0", "feed 00|long,", "held|0", "feed 01010100|frame -,")
	// Several events of one line stand side by side, in order.
	said(t, "set cobs 2 2 0|ok", "feed 0100"+"0500"+"00"+"03010100"+"01010100"+"0401f1e100"+"060101010101"+"00"+"0101|runt,wrong,sum,frame -,frame 01,long,", "held|2", "feed 0100|frame -,")
}

// A frame comes in parts, a byte a line, and what is held grows.
func TestSessionFeedInParts(t *testing.T) {
	for _, set := range []string{"set cobs 4 12 0", "set less 2 12 0", "set escape 2 12 999999"} {
		rows := []string{set + "|ok"}
		sent := strings.TrimSuffix(strings.TrimPrefix(impl.Session([]string{set, "send 0100ff"}), "ok\n"), "\n")
		for i := 0; i < len(sent); i += 2 {
			answer, held := "", strconv.Itoa(i/2+1)
			if i+2 == len(sent) {
				answer, held = "frame 0100ff,", "0"
			}
			rows = append(rows, "feed "+sent[i:i+2]+"|"+answer, "held|"+held)
		}
		said(t, rows...)
	}
}

func TestSessionFeedOfMostBytes(t *testing.T) {
	c := conf(impl.CodecEscape, impl.SumShort, 40, 0)
	text := strings.Repeat("a", 40)
	sent := fmt.Sprintf("%x", impl.FindSend(c, text))
	said(t, "set escape 2 40 0|ok", "feed "+sent[:80]+"|", "held|40", "feed "+sent[80:]+"|frame "+fmt.Sprintf("%x", text)+",", "held|0")
	said(t, "set escape 2 40 0|ok", "feed "+strings.Repeat("7e", 40)+"|", "feed "+strings.Repeat("7e", 41)+"|what", "feed "+strings.Repeat("61", 41)+"|what", "held|0")
}

func TestSessionSumsAndBlocks(t *testing.T) {
	source := rand.New(rand.NewSource(55))
	for n := range 41 {
		for _, text := range []string{mixedBytes(source, n), mixedOf(source, special, n), strings.Repeat("\x00", n), strings.Repeat("\xff", n)} {
			word := figures(text)
			said(t, "short "+word+"|"+strconv.Itoa(impl.SumOf(2, text)), "long "+word+"|"+strconv.Itoa(impl.SumOf(4, text)),
				"cobs "+word+"|"+fmt.Sprintf("%x", impl.CobsPut(text)), "less "+word+"|"+fmt.Sprintf("%x", impl.LessPut(text)))
		}
	}
	// Of MostMax bytes, blocks have one more than HexPut writes.
	said(t, "cobs "+strings.Repeat("01", 40)+"|29"+strings.Repeat("01", 40), "less "+strings.Repeat("01", 40)+"|29"+strings.Repeat("01", 40))
	said(t, "cobs "+strings.Repeat("ff", 40)+"|29"+strings.Repeat("ff", 40), "less "+strings.Repeat("ff", 40)+"|"+strings.Repeat("ff", 40))
}

func TestSessionBitsLimits(t *testing.T) {
	for _, letter := range []string{"\x00", "\x7e", "\xff"} {
		for n := range 41 {
			text := strings.Repeat(letter, n)
			want := "no"
			if n <= 24 {
				want = framed(impl.BitsOf(impl.SumPut(2, text)))
			}
			saidBoth(t, "bits "+figures(text), want, want)
		}
	}
	// The sum is the short one also where a configuration has the long one.
	said(t, "set escape 4 8 0|ok", "bits -|"+flag+strings.Repeat("0", 16)+flag)
}
