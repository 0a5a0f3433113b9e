package tests

import (
	"fmt"
	"math"
	"math/rand"
	"slices"
	"strconv"
	"strings"
	"testing"

	"loop.example/cotterpin/impl"
)

var codecs = []int{impl.CodecEscape, impl.CodecCobs, impl.CodecLess}

// over is a decoder that had too many bytes.
var over = impl.Find{Over: true}

func conf(codec, sum, most, m int) impl.Conf {
	return impl.Conf{Codec: codec, Sum: sum, Most: most, Map: m}
}

// someConfs returns valid configurations: each codec and sum, and the limits of the other fields.
func someConfs() []impl.Conf {
	var list []impl.Conf
	for _, sum := range kinds {
		for _, most := range []int{0, 1, 2, 5, 12, 39, 40} {
			for _, m := range []int{0, 1, 655360, 1 << 31, allMapped} {
				list = append(list, conf(impl.CodecEscape, sum, most, m))
			}
			list = append(list, conf(impl.CodecCobs, sum, most, 0), conf(impl.CodecLess, sum, most, 0))
		}
	}
	return list
}

// noConfs returns configurations each of which is not valid in one field.
func noConfs() []impl.Conf {
	var list []impl.Conf
	far := []int{math.MaxInt, math.MinInt, 1<<32 + 1, 1<<32 + 2}
	for _, codec := range append([]int{0, 4, -1, -2, 5, 256, 257}, far...) {
		list = append(list, conf(codec, 2, 5, 0), conf(codec, 4, 5, 655360))
	}
	for _, codec := range codecs {
		for _, sum := range noKinds {
			list = append(list, conf(codec, sum, 5, 0))
		}
		for _, most := range append([]int{-1, -2, 41, 42, 296}, far...) {
			list = append(list, conf(codec, 2, most, 0), conf(codec, 4, most, 0))
		}
		for _, m := range noMaps {
			list = append(list, conf(codec, 2, 5, m))
		}
		if codec != impl.CodecEscape {
			for _, m := range []int{1, 5, 655360, allMapped, allMapped - 1} {
				list = append(list, conf(codec, 2, 5, m), conf(codec, 4, 40, m))
			}
		}
	}
	return append(list, impl.Conf{})
}

// endOf is the delimiter of a configuration.
func endOf(c impl.Conf) string {
	if c.Codec == impl.CodecEscape {
		return "\x7e"
	}
	return "\x00"
}

func sizeOf(c impl.Conf) int {
	return 2*(c.Most+c.Sum) + 4
}

// coded is any text as a codec writes it, without a delimiter and whatever its length.
func coded(c impl.Conf, text string) string {
	switch c.Codec {
	case impl.CodecEscape:
		return slowEscape(c.Map, text)
	case impl.CodecCobs:
		return slowCobsPut(text)
	}
	return slowLessPut(text)
}

// slowEnd evaluates what stands ahead of a delimiter as the document lists it.
func slowEnd(c impl.Conf, held string) []impl.Event {
	escape := c.Codec == impl.CodecEscape
	if held == "" {
		return nil
	}
	if escape && held[len(held)-1] == 125 {
		return []impl.Event{{Kind: 3}}
	}
	text, ok := "", false
	if escape {
		text, ok = slowUnescape(c.Map, held)
	} else {
		text, ok = slowCobsGet(held, c.Codec == impl.CodecLess)
	}
	if !ok {
		return []impl.Event{{Kind: 6}}
	}
	if escape && text == "" {
		return nil
	}
	if len(text) < c.Sum {
		return []impl.Event{{Kind: 4}}
	}
	if len(text) > c.Most+c.Sum {
		return []impl.Event{{Kind: 5}}
	}
	frame := text[:len(text)-c.Sum]
	if impl.SumPut(c.Sum, frame) != text {
		return []impl.Event{{Kind: 2}}
	}
	return []impl.Event{{Kind: 1, Text: frame}}
}

// slowFind follows the document byte by byte; it knows no limit of the number of bytes.
func slowFind(c impl.Conf, f impl.Find, s string) (impl.Find, []impl.Event) {
	var events []impl.Event
	for i := range len(s) {
		b := s[i : i+1]
		if b == endOf(c) {
			if f.Over {
				events = append(events, impl.Event{Kind: 5})
			} else {
				events = append(events, slowEnd(c, f.Held)...)
			}
			f = impl.Find{}
		} else if !f.Over {
			if len(f.Held) == sizeOf(c) {
				f = impl.Find{Over: true}
			} else {
				f.Held += b
			}
		}
	}
	return f, events
}

// found checks one call of FindFeed: the events, as told writes them, and the decoder.
func found(t *testing.T, c impl.Conf, f impl.Find, s string, want string, then impl.Find) {
	t.Helper()
	after, events := impl.FindFeed(c, f, s)
	what := "feed of " + shown(s) + " with " + fmt.Sprint(c)
	same(t, "events of "+what, told(events), want)
	same(t, "decoder of "+what, after, then)
}

// ahead checks what is reported at a delimiter behind these bytes, by a new decoder and by FindAll.
func ahead(t *testing.T, c impl.Conf, s string, want string) {
	t.Helper()
	found(t, c, impl.Find{}, s+endOf(c), want, impl.Find{})
	same(t, "all of "+shown(s)+" with "+fmt.Sprint(c), told(impl.FindAll(c, s+endOf(c))), want)
}

// someSent returns frames that a configuration allows, the longest and the empty one included.
func someSent(c impl.Conf, source *rand.Rand) []string {
	list := []string{""}
	for _, letter := range []string{"\x00", "\x01", "\x11", "}", "~", "]", "\xff"} {
		list = append(list, strings.Repeat(letter, c.Most))
	}
	for range 12 {
		list = append(list, mixedOf(source, special, source.Intn(c.Most+1)), mixedBytes(source, c.Most))
	}
	return list
}

// someStream returns at most so many bytes as a decoder may get them: frames, some of them damaged, too long or too short, delimiters and noise.
func someStream(source *rand.Rand, c impl.Conf, most int) string {
	var stream strings.Builder
	for stream.Len() < most {
		text := impl.FindSend(c, mixedOf(source, special, source.Intn(c.Most+1)))
		at := source.Intn(len(text))
		switch source.Intn(12) {
		case 0:
			text = text[:at] + string([]byte{text[at] ^ 1<<source.Intn(8)}) + text[at+1:]
		case 1:
			text = text[:at] + text[at+1:]
		case 2:
			text = strings.Repeat(endOf(c), 1+source.Intn(3))
		case 3:
			text = mixedOf(source, "\x01\x02\x11}]a", source.Intn(2*sizeOf(c)))
		case 4:
			text = mixedOf(source, "\x01\x02}~", source.Intn(20))
		case 5:
			text = text[:len(text)-1] + "}" + endOf(c)
		case 6:
			text = coded(c, mixedBytes(source, source.Intn(c.Sum+2))) + endOf(c)
		case 7:
			text = coded(c, mixedBytes(source, c.Most+source.Intn(c.Sum+3))) + endOf(c)
		case 8:
			text = "\x01\x11" + endOf(c)
		}
		stream.WriteString(text)
	}
	return stream.String()[:most]
}

// someFinds returns valid decoders of a configuration.
func someFinds(source *rand.Rand, c impl.Conf) []impl.Find {
	list := []impl.Find{{}, over}
	for _, many := range []int{1, 2, c.Sum, c.Most + c.Sum, sizeOf(c) - 1, sizeOf(c)} {
		held := strings.ReplaceAll(mixedOf(source, "\x01\x02\x03}]a", many), endOf(c), "b")
		list = append(list, impl.Find{Held: held})
	}
	sent := impl.FindSend(c, mixedBytes(source, c.Most))
	return append(list, impl.Find{Held: sent[:len(sent)-1]}, impl.Find{Held: sent[:len(sent)/2]})
}

// noFinds returns decoders that are not valid with a configuration.
func noFinds(c impl.Conf) []impl.Find {
	full := strings.Repeat("a", sizeOf(c))
	end := endOf(c)
	return []impl.Find{
		{Held: end}, {Held: "a" + end}, {Held: end + "a"}, {Held: "a" + end + "b"}, {Held: full[1:] + end},
		{Held: full + "a"}, {Held: full + end}, {Held: full + full}, {Held: strings.Repeat("a", 5000)},
		{Held: "a", Over: true}, {Held: end, Over: true}, {Held: full, Over: true}, {Held: full + "a", Over: true},
	}
}

func TestConfOk(t *testing.T) {
	for i, codec := range codecs {
		same(t, "codec", codec, i+1)
	}
	same(t, "MostMax", impl.MostMax, 40)
	for _, c := range someConfs() {
		same(t, "ok of "+fmt.Sprint(c), impl.ConfOk(c), true)
	}
	for _, c := range noConfs() {
		same(t, "ok of "+fmt.Sprint(c), impl.ConfOk(c), false)
	}
	for _, m := range someMaps() {
		same(t, "ok with the map "+strconv.Itoa(m), impl.ConfOk(conf(impl.CodecEscape, 4, 3, m)), true)
		same(t, "ok of cobs with the map "+strconv.Itoa(m), impl.ConfOk(conf(impl.CodecCobs, 4, 3, m)), m == 0)
		same(t, "ok of less with the map "+strconv.Itoa(m), impl.ConfOk(conf(impl.CodecLess, 4, 3, m)), m == 0)
	}
}

func TestFindSendWritesAFrame(t *testing.T) {
	for _, x := range []struct {
		c          impl.Conf
		text, want string
	}{
		{conf(1, 2, 0, 0), "", "\x00\x00~"},
		{conf(1, 4, 8, 0), "", "\x00\x00\x00\x00~"},
		{conf(1, 2, 0, 1), "", "} } ~"},
		{conf(2, 2, 12, 0), "", "\x01\x01\x01\x00"},
		{conf(2, 4, 12, 0), "", "\x01\x01\x01\x01\x01\x00"},
		{conf(3, 2, 0, 0), "", "\x01\x01\x01\x00"},
		{conf(1, 2, 9, 0), "123456789", "123456789\x6e\x90~"},
		{conf(2, 2, 9, 0), "123456789", "\x0c123456789\x6e\x90\x00"},
		{conf(3, 2, 9, 0), "123456789", "\x90123456789\x6e\x00"},
		{conf(1, 4, 9, 0), "123456789", "123456789\x26\x39\xf4\xcb~"},
		{conf(1, 4, 9, 1<<31), "123456789", "123456789\x26\x39\xf4\xcb~"},
		{conf(2, 4, 9, 0), "123456789", "\x0e123456789\x26\x39\xf4\xcb\x00"},
		{conf(3, 4, 9, 0), "123456789", "\xcb123456789\x26\x39\xf4\x00"},
	} {
		same(t, "send of "+shown(x.text)+" with "+fmt.Sprint(x.c), impl.FindSend(x.c, x.text), x.want)
	}
	source := rand.New(rand.NewSource(20))
	for _, c := range someConfs() {
		for _, text := range someSent(c, source) {
			same(t, "send of "+shown(text)+" with "+fmt.Sprint(c), impl.FindSend(c, text), coded(c, impl.SumPut(c.Sum, text))+endOf(c))
		}
	}
}

// A frame of Most bytes is sent, one of a byte more is not.
func TestFindSendRefuses(t *testing.T) {
	for _, c := range someConfs() {
		for _, letter := range []string{"\x00", "a", "~", "}"} {
			full := strings.Repeat(letter, c.Most)
			same(t, "send of Most bytes", impl.FindSend(c, full), coded(c, impl.SumPut(c.Sum, full))+endOf(c))
			same(t, "send of a byte more", impl.FindSend(c, full+letter), "")
			same(t, "send of many", impl.FindSend(c, strings.Repeat(letter, 5000)), "")
		}
	}
	for _, c := range noConfs() {
		for _, text := range []string{"", "a", "abcde", strings.Repeat("a", 5000)} {
			same(t, "send with "+fmt.Sprint(c), impl.FindSend(c, text), "")
		}
	}
}

// Promise 26.
func TestFindFindsAFrame(t *testing.T) {
	source := rand.New(rand.NewSource(21))
	for _, c := range someConfs() {
		for _, text := range someSent(c, source) {
			sent := impl.FindSend(c, text)
			same(t, "place of the delimiter in "+shown(sent), strings.Index(sent, endOf(c)), len(sent)-1)
			found(t, c, impl.Find{}, sent, "1"+strconv.Quote(text), impl.Find{})
		}
	}
}

// Promise 26, for each byte alone and with each byte mapped.
func TestFindFindsEachByte(t *testing.T) {
	for _, sum := range kinds {
		for b := range 256 {
			text := string([]byte{byte(b)})
			for _, c := range []impl.Conf{conf(1, sum, 1, 0), conf(1, sum, 1, 1<<(b%32)), conf(1, sum, 1, allMapped), conf(2, sum, 1, 0), conf(3, sum, 1, 0)} {
				ahead(t, c, strings.TrimSuffix(impl.FindSend(c, text), endOf(c)), "1"+strconv.Quote(text))
			}
		}
	}
}

// Promise 27.
func TestFindDivisionDoesNotMatter(t *testing.T) {
	source := rand.New(rand.NewSource(22))
	for _, c := range someConfs() {
		for _, f := range someFinds(source, c) {
			for range 5 {
				stream := someStream(source, c, source.Intn(601))
				whole, all := impl.FindFeed(c, f, stream)
				cut := source.Intn(len(stream) + 1)
				first, some := impl.FindFeed(c, f, stream[:cut])
				then, others := impl.FindFeed(c, first, stream[cut:])
				same(t, "events of parts", told(append(some, others...)), told(all))
				same(t, "decoder of parts", then, whole)
				same(t, "ok of the decoder behind a part", impl.FindOk(c, first), true)
				same(t, "ok of the decoder behind all", impl.FindOk(c, whole), true)
			}
		}
	}
}

// Promise 27, with a part for each byte.
func TestFindByteByByte(t *testing.T) {
	source := rand.New(rand.NewSource(23))
	for _, c := range someConfs() {
		stream := someStream(source, c, 600)
		whole, all := impl.FindFeed(c, impl.Find{}, stream)
		var f impl.Find
		var some []impl.Event
		for i := range len(stream) {
			var events []impl.Event
			f, events = impl.FindFeed(c, f, stream[i:i+1])
			some = append(some, events...)
		}
		same(t, "events byte by byte", told(some), told(all))
		same(t, "decoder byte by byte", f, whole)
	}
}

func TestFindFeedOfNoBytes(t *testing.T) {
	source := rand.New(rand.NewSource(24))
	for _, c := range someConfs() {
		for _, f := range someFinds(source, c) {
			found(t, c, f, "", "", f)
		}
		same(t, "all of no bytes", told(impl.FindAll(c, "")), "")
	}
}

// Promise 28.
func TestFindDelimiterResynchronizes(t *testing.T) {
	source := rand.New(rand.NewSource(25))
	for _, c := range someConfs() {
		for _, f := range someFinds(source, c) {
			then, events := impl.FindFeed(c, f, endOf(c))
			same(t, "decoder behind a delimiter", then, impl.Find{})
			if len(events) > 1 {
				t.Fatalf("a delimiter behind %s reports %s", shown(fmt.Sprint(f)), told(events))
			}
			found(t, c, then, impl.FindSend(c, ""), `1""`, impl.Find{})
			want := told(append(slices.Clone(events), impl.Event{Kind: impl.EventFrame}))
			found(t, c, f, endOf(c)+impl.FindSend(c, ""), want, impl.Find{})
		}
	}
}

// Promise 29.
func TestFindAllIsFindFeed(t *testing.T) {
	source := rand.New(rand.NewSource(26))
	for _, c := range someConfs() {
		for _, many := range []int{0, 1, 2, sizeOf(c), sizeOf(c) + 1, sizeOf(c) + 2, 300, 599, 600} {
			for range 4 {
				stream := someStream(source, c, many)
				_, events := impl.FindFeed(c, impl.Find{}, stream)
				same(t, "all of "+shown(stream), told(impl.FindAll(c, stream)), told(events))
			}
		}
		for _, stream := range allOf("\x00\x01\x03}~", 4) {
			_, events := impl.FindFeed(c, impl.Find{}, stream)
			same(t, "all of "+shown(stream), told(impl.FindAll(c, stream)), told(events))
		}
	}
}

// Promise 30.
func TestFindConsecutiveFrames(t *testing.T) {
	source := rand.New(rand.NewSource(27))
	for _, c := range someConfs() {
		list := someSent(c, source)
		for range 40 {
			var want []impl.Event
			stream := ""
			for range 3 {
				text := list[source.Intn(len(list))]
				want = append(want, impl.Event{Kind: impl.EventFrame, Text: text})
				stream += impl.FindSend(c, text)
			}
			found(t, c, impl.Find{}, stream, told(want), impl.Find{})
			same(t, "all of three frames", told(impl.FindAll(c, stream)), told(want))
		}
	}
}

// Promise 31.
func TestFindOnlyFramesHaveText(t *testing.T) {
	source := rand.New(rand.NewSource(28))
	seen := map[int]map[int]int{1: {}, 2: {}, 3: {}}
	for _, c := range someConfs() {
		for _, f := range someFinds(source, c) {
			_, events := impl.FindFeed(c, f, someStream(source, c, 600))
			for _, e := range events {
				seen[c.Codec][e.Kind]++
				if e.Kind < 1 || e.Kind > 6 || len(e.Text) > c.Most || e.Text != "" && e.Kind != impl.EventFrame {
					t.Fatalf("an event is %s with %+v", told([]impl.Event{e}), c)
				}
				if e.Kind == impl.EventFrame {
					same(t, "all of send of it", told(impl.FindAll(c, impl.FindSend(c, e.Text))), told([]impl.Event{e}))
				}
			}
		}
	}
	// Bytes are never wrong for an escape or for the last block of CodecLess, and only an escape aborts.
	for codec, want := range map[int][]int{1: {1, 2, 3, 4, 5}, 2: {1, 2, 4, 5, 6}, 3: {1, 2, 4, 5}} {
		for kind := range 7 {
			same(t, "whether codec "+strconv.Itoa(codec)+" has events "+strconv.Itoa(kind), seen[codec][kind] > 0, slices.Contains(want, kind))
		}
	}
}

// Promise 32.
func TestFindCount(t *testing.T) {
	source := rand.New(rand.NewSource(29))
	for many := range 60 {
		var list []impl.Event
		frames := 0
		for range many {
			kind := 1 + source.Intn(6)
			if kind == 1 {
				frames++
			}
			list = append(list, impl.Event{Kind: kind, Text: strings.Repeat("a", kind%2)})
		}
		for range 3 {
			a, b := impl.FindCount(list)
			same(t, "count of frames", a, frames)
			same(t, "count of the others", b, many-frames)
			source.Shuffle(many, func(i, k int) { list[i], list[k] = list[k], list[i] })
		}
	}
	for _, kind := range []int{0, -1, 2, 3, 4, 5, 6, 7, 257, math.MaxInt, math.MinInt} {
		a, b := impl.FindCount([]impl.Event{{Kind: kind, Text: "a"}, {Kind: impl.EventFrame}, {Kind: kind}})
		same(t, "count of frames", a, 1)
		same(t, "count of the others", b, 2)
	}
	a, b := impl.FindCount(nil)
	same(t, "count of none", a, 0)
	same(t, "count of none", b, 0)
}

func TestFindFollowsTheDocument(t *testing.T) {
	source := rand.New(rand.NewSource(30))
	for _, c := range someConfs() {
		for _, f := range someFinds(source, c) {
			for range 5 {
				stream := someStream(source, c, source.Intn(601))
				then, events := slowFind(c, f, stream)
				found(t, c, f, stream, told(events), then)
			}
		}
		for _, stream := range allOf("\x00\x01\x02}~", 4) {
			then, events := slowFind(c, impl.Find{}, stream)
			found(t, c, impl.Find{}, stream, told(events), then)
		}
	}
}

// No bytes ahead of a delimiter are nothing, and so are two delimiters side by side.
func TestFindNothingAheadOfADelimiter(t *testing.T) {
	for _, c := range someConfs() {
		ahead(t, c, "", "")
		ahead(t, c, endOf(c), "")
		ahead(t, c, endOf(c)+endOf(c), "")
		sent := impl.FindSend(c, "")
		ahead(t, c, sent, `1""`)
		ahead(t, c, endOf(c)+sent+endOf(c)+endOf(c)+sent, `1"" 1""`)
	}
}

// What is behind the last delimiter is held and not reported.
func TestFindBehindTheLastDelimiter(t *testing.T) {
	for _, c := range someConfs() {
		sent := impl.FindSend(c, "")
		part := sent[:len(sent)-1]
		found(t, c, impl.Find{}, sent+part, `1""`, impl.Find{Held: part})
		same(t, "all with a part behind", told(impl.FindAll(c, sent+part)), `1""`)
		same(t, "all of a part", told(impl.FindAll(c, part)), "")
		same(t, "all of many without a delimiter", told(impl.FindAll(c, strings.Repeat("a", 600))), "")
	}
}

// An escape ahead of the delimiter gives up what it ends; it is tried before anything else, but not with too many bytes.
func TestFindEscapeAheadOfTheDelimiter(t *testing.T) {
	for _, c := range someConfs() {
		full := strings.Repeat("a", sizeOf(c)-1) + "}"
		sent := impl.FindSend(c, "")
		if c.Codec != impl.CodecEscape {
			_, events := impl.FindFeed(c, impl.Find{}, full+"\x00"+"}\x00"+sent[:len(sent)-1]+"}\x00")
			if strings.Contains(told(events), "3") {
				t.Fatalf("with %+v events are %s", c, told(events))
			}
			continue
		}
		for _, s := range []string{"}", "a}", "}}", "}]}", "\x00}", "\x11}", full, sent[:len(sent)-1] + "}"} {
			ahead(t, c, s, "3")
		}
		ahead(t, c, "a"+full, "5")
		ahead(t, c, "}~"+sent+"}", `3 1"" 3`)
		found(t, c, impl.Find{Held: "}"}, "~", "3", impl.Find{})
		found(t, c, impl.Find{Held: "ab"}, "}~", "3", impl.Find{})
	}
}

// Bytes that are all mapped decode to nothing, which is nothing only with CodecEscape.
func TestFindBytesThatDecodeToNothing(t *testing.T) {
	for _, sum := range kinds {
		ahead(t, conf(1, sum, 5, 655360), "\x11", "")
		ahead(t, conf(1, sum, 5, 655360), "\x11\x13\x11", "")
		ahead(t, conf(1, sum, 0, allMapped), "\x00\x1f", "")
		ahead(t, conf(1, sum, 5, allMapped), strings.Repeat("\x01", 2*(5+sum)+4), "")
		ahead(t, conf(1, sum, 5, allMapped), strings.Repeat("\x01", 2*(5+sum)+5), "5")
		ahead(t, conf(1, sum, 5, 655360), "\x12", "4")
		ahead(t, conf(1, sum, 5, 655360), "\x11a", "4")
		ahead(t, conf(1, sum, 5, 655360), "}\x11", "4")
		ahead(t, conf(1, sum, 5, 0), "\x11", "4")
		ahead(t, conf(2, sum, 5, 0), "\x01", "4")
		ahead(t, conf(3, sum, 5, 0), "\x01", "4")
	}
	c := conf(1, 2, 5, 655360)
	ahead(t, c, "\x11~"+impl.FindSend(c, "a")+"\x13~\x11", `1"a"`)
	ahead(t, c, "\x11"+strings.TrimSuffix(impl.FindSend(c, "a"), "~")+"\x13", `1"a"`)
}

// Strings of each length are decoded, next to Sum and to Most + Sum too.
func TestFindLengthsOfWhatIsDecoded(t *testing.T) {
	for _, c := range someConfs() {
		for many := 1; many <= c.Most+c.Sum+8; many++ {
			text := strings.Repeat("a", many)
			bytes := coded(c, text)
			if len(bytes) > sizeOf(c) {
				continue
			}
			want := "2"
			switch {
			case many < c.Sum:
				want = "4"
			case many > c.Most+c.Sum:
				want = "5"
			}
			ahead(t, c, bytes, want)
		}
		full := strings.Repeat("a", c.Most)
		ahead(t, c, coded(c, impl.SumPut(c.Sum, "")), `1""`)
		ahead(t, c, coded(c, impl.SumPut(c.Sum, "")[1:]), "4")
		ahead(t, c, coded(c, impl.SumPut(c.Sum, full)), "1"+strconv.Quote(full))
		ahead(t, c, coded(c, impl.SumPut(c.Sum, full+"a")), "5")
	}
}

func TestFindSumThatIsWrong(t *testing.T) {
	for _, c := range someConfs() {
		for _, text := range []string{"", strings.Repeat("a", c.Most)} {
			good := impl.SumPut(c.Sum, text)
			for i := range len(good) {
				bad := good[:i] + string([]byte{good[i] ^ 4}) + good[i+1:]
				ahead(t, c, coded(c, bad), "2")
			}
		}
		other := c
		other.Sum = 6 - c.Sum
		if c.Most > 4 {
			ahead(t, c, coded(c, impl.SumPut(other.Sum, "abc")), "2")
		}
	}
}

// As many bytes as the buffer size are evaluated, one more is too many, whatever they are.
func TestFindBufferSize(t *testing.T) {
	for _, c := range someConfs() {
		full := strings.Repeat("a", sizeOf(c))
		want := "5"
		if c.Codec == impl.CodecCobs {
			// The first byte is the length of a block that is longer than the buffer.
			want = "6"
		}
		found(t, c, impl.Find{}, full, "", impl.Find{Held: full})
		found(t, c, impl.Find{Held: full[:1]}, full[1:], "", impl.Find{Held: full})
		ahead(t, c, full, want)
		found(t, c, impl.Find{}, full+"b", "", over)
		found(t, c, impl.Find{Held: full}, "b", "", over)
		found(t, c, impl.Find{Held: full}, endOf(c), want, impl.Find{})
		ahead(t, c, full+"b", "5")
		ahead(t, c, full+full, "5")
		found(t, c, over, "a", "", over)
		found(t, c, over, endOf(c), "5", impl.Find{})
		found(t, c, over, full+"b"+endOf(c)+"a", "5", impl.Find{Held: "a"})
		// The byte that was too many is not part of what comes behind the delimiter.
		found(t, c, impl.Find{}, full+"b"+endOf(c)+impl.FindSend(c, ""), `5 1""`, impl.Find{})
	}
}

// A frame is found among mapped bytes up to the buffer size, and not beyond it.
func TestFindBufferSizeWithAFrame(t *testing.T) {
	for _, sum := range kinds {
		for _, most := range []int{0, 1, 5, 40} {
			c := conf(impl.CodecEscape, sum, most, 1)
			text := strings.Repeat("a", most)
			bytes := strings.TrimSuffix(impl.FindSend(c, text), "~")
			pad := strings.Repeat("\x00", sizeOf(c)-len(bytes))
			for _, whole := range []string{pad + bytes, bytes + pad} {
				ahead(t, c, whole, "1"+strconv.Quote(text))
				ahead(t, c, whole+"\x00", "5")
				ahead(t, c, "\x00"+whole, "5")
			}
			if doubled := strings.Repeat("~", most+sum); len(coded(c, doubled)) != sizeOf(c)-4 {
				t.Fatal("the buffer does not hold what is escaped")
			}
		}
	}
}

func TestFindWrongBlocks(t *testing.T) {
	for _, sum := range kinds {
		c := conf(impl.CodecCobs, sum, 12, 0)
		for _, s := range []string{"\x02", "\x03\x01", "xx", "\x01\x02", "\x02a\x05abc", "\xff"} {
			ahead(t, c, s, "6")
		}
		less := conf(impl.CodecLess, sum, 12, 0)
		ahead(t, less, "\x02", "4")
		ahead(t, less, "\x05abcd", "2")
		ahead(t, less, "\xff123456", "2")
	}
}

// Each delimiter belongs to its codecs alone.
func TestFindOtherDelimiter(t *testing.T) {
	for _, c := range someConfs() {
		other := "\x00"
		if c.Codec != impl.CodecEscape {
			other = "\x7e"
		}
		found(t, c, impl.Find{}, "a"+other, "", impl.Find{Held: "a" + other})
		same(t, "all with the other delimiter", told(impl.FindAll(c, "a"+other+other)), "")
		same(t, "ok with the other delimiter held", impl.FindOk(c, impl.Find{Held: other}), true)
	}
}

func TestFindOk(t *testing.T) {
	source := rand.New(rand.NewSource(31))
	for _, c := range someConfs() {
		for _, f := range someFinds(source, c) {
			same(t, "ok of "+shown(fmt.Sprint(f)), impl.FindOk(c, f), true)
		}
		same(t, "ok of a full one", impl.FindOk(c, impl.Find{Held: strings.Repeat("a", sizeOf(c))}), true)
		for _, f := range noFinds(c) {
			same(t, "ok of "+shown(fmt.Sprint(f)), impl.FindOk(c, f), false)
		}
	}
	for _, c := range noConfs() {
		for _, f := range []impl.Find{{}, over, {Held: "a"}} {
			same(t, "ok with "+fmt.Sprint(c), impl.FindOk(c, f), false)
		}
	}
}

// BytesMax bytes are taken, one more is refused.
func TestFindBytesMax(t *testing.T) {
	for _, c := range someConfs() {
		sent := impl.FindSend(c, "")
		for _, before := range []string{strings.Repeat(endOf(c), 600), strings.Repeat("a", 599) + endOf(c)} {
			stream := before[len(sent):] + sent
			want := `1""`
			if before[0] == 'a' {
				want = `5 1""`
			}
			found(t, c, impl.Find{}, stream, want, impl.Find{})
			same(t, "all of 600 bytes", told(impl.FindAll(c, stream)), want)
			for _, more := range []string{stream + endOf(c), endOf(c) + stream, stream + "a", stream + stream, stream + strings.Repeat("a", 5000)} {
				found(t, c, impl.Find{}, more, "", impl.Find{})
				found(t, c, impl.Find{Held: "a"}, more, "", impl.Find{})
				found(t, c, over, more, "", impl.Find{})
				same(t, "all of 601 bytes", told(impl.FindAll(c, more)), "")
			}
		}
	}
}

func TestFindRefuses(t *testing.T) {
	for _, c := range noConfs() {
		for _, s := range []string{"", "a", "~", "\x00", "ab~cd~", "ab\x00cd\x00", "}~"} {
			found(t, c, impl.Find{}, s, "", impl.Find{})
			found(t, c, impl.Find{Held: "ab"}, s, "", impl.Find{})
			found(t, c, over, s, "", impl.Find{})
			same(t, "all with "+fmt.Sprint(c), told(impl.FindAll(c, s)), "")
		}
	}
	for _, c := range someConfs() {
		for _, f := range noFinds(c) {
			for _, s := range []string{"", "a", endOf(c), "a" + endOf(c) + "b", impl.FindSend(c, "")} {
				found(t, c, f, s, "", impl.Find{})
			}
		}
	}
}
