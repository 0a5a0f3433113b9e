package tests

import (
	"math"
	"math/rand"
	"slices"
	"strconv"
	"strings"
	"testing"

	"loop.example/cotterpin/impl"
)

const flag = "01111110"

// open is a decoder behind a flag.
var open = impl.Hdlc{In: true}

// told writes events for a comparison and for a message.
func told(events []impl.Event) string {
	var words []string
	for _, e := range events {
		word := strconv.Itoa(e.Kind)
		if e.Text != "" || e.Kind == impl.EventFrame {
			word += strconv.Quote(e.Text)
		}
		words = append(words, word)
	}
	return strings.Join(words, " ")
}

// fed checks one call of HdlcFeed: the events, as told writes them, and the state.
func fed(t *testing.T, kind int, h impl.Hdlc, bits string, want string, then impl.Hdlc) {
	t.Helper()
	state, events := impl.HdlcFeed(kind, h, bits)
	what := "feed of " + shown(bits) + " with kind " + strconv.Itoa(kind)
	same(t, "events of "+what, told(events), want)
	same(t, "state of "+what, state, then)
}

// framed is bits as they stand between flags, whatever they are.
func framed(bits string) string {
	return flag + impl.StuffPut(bits) + flag
}

// slowFeed follows the document bit by bit.
func slowFeed(kind int, h impl.Hdlc, bits string) (impl.Hdlc, []impl.Event) {
	var events []impl.Event
	for _, bit := range bits {
		if bit == '1' {
			h.Ones = min(h.Ones+1, 7)
			if h.In && h.Ones <= 5 && len(h.Bits) < 240 {
				h.Bits += "1"
			}
			if h.In && h.Ones == 7 {
				events = append(events, impl.Event{Kind: 3})
				h.In, h.Bits = false, ""
			}
			continue
		}
		n := h.Ones
		h.Ones = 0
		if n == 6 {
			if h.In {
				events = append(events, slowFrame(kind, h.Bits)...)
			}
			h.In, h.Bits = true, ""
		}
		if n != 5 && n != 6 && h.In && len(h.Bits) < 240 {
			h.Bits += "0"
		}
	}
	return h, events
}

func slowFrame(kind int, bits string) []impl.Event {
	if len(bits) <= 6 {
		return nil
	}
	bits = bits[:len(bits)-6]
	if len(bits) > (24+kind)*8 {
		return []impl.Event{{Kind: 5}}
	}
	if len(bits)%8 != 0 {
		return []impl.Event{{Kind: 6}}
	}
	if len(bits)/8 < kind {
		return []impl.Event{{Kind: 4}}
	}
	text, _ := impl.BitsTo(bits)
	if text, ok := impl.SumGet(kind, text); ok {
		return []impl.Event{{Kind: 1, Text: text}}
	}
	return []impl.Event{{Kind: 2}}
}

// someStates returns valid states: each number of ones, with as many Bits as change what a frame is.
func someStates() []impl.Hdlc {
	var list []impl.Hdlc
	source := rand.New(rand.NewSource(6))
	for ones := range 8 {
		list = append(list, impl.Hdlc{Ones: ones})
		for _, many := range []int{0, 1, 2, 5, 6, 7, 8, 13, 14, 21, 22, 37, 38, 46, 213, 214, 215, 229, 230, 231, 238, 239, 240} {
			list = append(list, impl.Hdlc{In: true, Ones: ones, Bits: mixedBits(source, many)})
		}
		for _, kind := range kinds {
			for _, text := range []string{"", "a", "\xff\xff", strings.Repeat("\xff", 24)} {
				list = append(list, impl.Hdlc{In: true, Ones: ones, Bits: impl.BitsOf(impl.SumPut(kind, text)) + "011111"})
			}
		}
	}
	return list
}

// someFrames returns lists that HdlcPut accepts.
func someFrames() [][]string {
	full := strings.Repeat("\xff", 24)
	list := [][]string{nil, {}, {""}, {"", ""}, {"", "", "", ""}, {"a"}, {"\x7e"}, {"\x1f", "\xf8"}, {full}, {full, full, full, full}, {strings.Repeat("\x00", 24)}}
	source := rand.New(rand.NewSource(7))
	for n := range 25 {
		list = append(list, []string{mixedBytes(source, n)})
	}
	for range 100 {
		frames := make([]string, source.Intn(5))
		for i := range frames {
			frames[i] = mixedBytes(source, source.Intn(25))
		}
		list = append(list, frames)
	}
	return list
}

// someLine returns bits as they come over a line: frames, some with a bit flipped or lost, flags, aborts and noise.
func someLine(source *rand.Rand) string {
	var line strings.Builder
	for line.Len() < 700 {
		bits := impl.HdlcPut(kinds[source.Intn(2)], []string{mixedBytes(source, source.Intn(25))})
		at := source.Intn(len(bits))
		switch source.Intn(7) {
		case 0:
			bits = bits[:at] + string('0'+'1'-rune(bits[at])) + bits[at+1:]
		case 1:
			bits = bits[:at] + bits[at+1:]
		case 2:
			bits = strings.Repeat("1", 1+source.Intn(12))
		case 3:
			bits = mixedBits(source, source.Intn(300))
		case 4:
			bits = "1111110"
		}
		line.WriteString(bits)
	}
	return line.String()
}

func TestHdlcPutWritesFlagsAndStuffedBits(t *testing.T) {
	same(t, "put of no frame", impl.HdlcPut(2, nil), flag)
	same(t, "put of no frame", impl.HdlcPut(4, []string{}), flag)
	same(t, "put of an empty frame", impl.HdlcPut(2, []string{""}), flag+strings.Repeat("0", 16)+flag)
	same(t, "put of an empty frame", impl.HdlcPut(4, []string{""}), flag+strings.Repeat("0", 32)+flag)
	// The long sum of four bytes 255 is all ones as well.
	same(t, "put of ones", impl.HdlcPut(4, []string{"\xff\xff\xff\xff"}), flag+strings.Repeat("111110", 12)+"1111"+flag)
	for _, kind := range kinds {
		for _, frames := range someFrames() {
			want := flag
			for _, text := range frames {
				want += impl.StuffPut(impl.BitsOf(impl.SumPut(kind, text))) + flag
			}
			same(t, "put of "+shown(strings.Join(frames, "|")), impl.HdlcPut(kind, frames), want)
		}
	}
}

func TestHdlcPutRefuses(t *testing.T) {
	for _, kind := range noKinds {
		same(t, "put of kind "+strconv.Itoa(kind), impl.HdlcPut(kind, nil), "")
		same(t, "put of kind "+strconv.Itoa(kind), impl.HdlcPut(kind, []string{"a"}), "")
	}
	full, over := strings.Repeat("a", 24), strings.Repeat("a", 25)
	for _, kind := range kinds {
		for _, frames := range [][]string{
			{over}, {"", over}, {"a", "b", "c", over}, {over, ""}, {strings.Repeat("\x00", 2000)},
			{"", "", "", "", ""}, {"a", "b", "c", "d", "e"}, {full, full, full, full, full}, make([]string, 1000),
		} {
			same(t, "put of "+shown(strings.Join(frames, "|")), impl.HdlcPut(kind, frames), "")
		}
		if impl.HdlcPut(kind, []string{full, full, full, full}) == "" {
			t.Fatal("put refuses as many as there may be")
		}
	}
}

func TestHdlcPutLeavesItsList(t *testing.T) {
	list := []string{"a", "b", "c"}
	impl.HdlcPut(2, list[:2])
	if !slices.Equal(list, []string{"a", "b", "c"}) {
		t.Fatalf("the list is now %q", list)
	}
}

// Promise 14.
func TestHdlcFindsItsFrames(t *testing.T) {
	for _, kind := range kinds {
		for _, frames := range someFrames() {
			var want []impl.Event
			for _, text := range frames {
				want = append(want, impl.Event{Kind: impl.EventFrame, Text: text})
			}
			fed(t, kind, impl.Hdlc{}, impl.HdlcPut(kind, frames), told(want), open)
		}
	}
}

// Promise 15.
func TestHdlcDivisionDoesNotMatter(t *testing.T) {
	source := rand.New(rand.NewSource(8))
	for _, kind := range kinds {
		for range 30 {
			line := someLine(source)
			for _, h := range []impl.Hdlc{{}, open, {Ones: 6}, {In: true, Ones: 7, Bits: strings.Repeat("0", 239)}} {
				whole, all := impl.HdlcFeed(kind, h, line)
				cut := source.Intn(len(line) + 1)
				first, some := impl.HdlcFeed(kind, h, line[:cut])
				if !impl.HdlcOk(first) {
					t.Fatalf("the state behind %s is not ok: %+v", shown(line[:cut]), first)
				}
				then, others := impl.HdlcFeed(kind, first, line[cut:])
				same(t, "events of parts", told(append(some, others...)), told(all))
				same(t, "state of parts", then, whole)
				if !impl.HdlcOk(whole) {
					t.Fatalf("the state is not ok: %+v", whole)
				}
			}
		}
	}
}

// Promise 15, with a part for each bit, and with every short pair of parts.
func TestHdlcBitByBit(t *testing.T) {
	source := rand.New(rand.NewSource(9))
	for range 20 {
		line := someLine(source)
		whole, all := impl.HdlcFeed(2, impl.Hdlc{}, line)
		var state impl.Hdlc
		var some []impl.Event
		for i := range line {
			var events []impl.Event
			state, events = impl.HdlcFeed(2, state, line[i:i+1])
			some = append(some, events...)
		}
		same(t, "events bit by bit", told(some), told(all))
		same(t, "state bit by bit", state, whole)
	}
	for _, h := range []impl.Hdlc{{}, open, {In: true, Ones: 5, Bits: "11111"}} {
		for _, bits := range allBits(10) {
			whole, all := impl.HdlcFeed(2, h, bits)
			for cut := range len(bits) + 1 {
				first, some := impl.HdlcFeed(2, h, bits[:cut])
				then, others := impl.HdlcFeed(2, first, bits[cut:])
				same(t, "events of parts of "+bits, told(append(some, others...)), told(all))
				same(t, "state of parts of "+bits, then, whole)
			}
		}
	}
}

func TestHdlcFeedOfNoBits(t *testing.T) {
	for _, h := range someStates() {
		fed(t, 2, h, "", "", h)
	}
}

// Promise 16.
func TestHdlcFlagResynchronizes(t *testing.T) {
	for _, kind := range kinds {
		for _, h := range someStates() {
			state, events := impl.HdlcFeed(kind, h, flag)
			same(t, "state behind a flag", state, open)
			if len(events) > 1 {
				t.Fatalf("a flag behind %+v reports %s", h, told(events))
			}
			fed(t, kind, state, flag, "", open)
			fed(t, kind, h, flag+flag+flag, told(events), open)
		}
	}
}

// Promise 17.
func TestHdlcOnlyFramesHaveText(t *testing.T) {
	source := rand.New(rand.NewSource(10))
	seen := map[int]int{}
	for _, kind := range kinds {
		for _, h := range someStates() {
			_, events := impl.HdlcFeed(kind, h, someLine(source))
			for _, e := range events {
				seen[e.Kind]++
				if e.Kind < 1 || e.Kind > 6 || len(e.Text) > 24 || e.Text != "" && e.Kind != impl.EventFrame {
					t.Fatalf("an event is %s", told([]impl.Event{e}))
				}
			}
		}
	}
	if len(seen) != 6 {
		t.Fatalf("not each kind of event came: %v", seen)
	}
}

func TestHdlcKindsOfEvents(t *testing.T) {
	for i, kind := range []int{impl.EventFrame, impl.EventSum, impl.EventAbort, impl.EventRunt, impl.EventLong, impl.EventWrong} {
		same(t, "kind of event", kind, i+1)
	}
}

func TestHdlcFollowsTheDocument(t *testing.T) {
	source := rand.New(rand.NewSource(11))
	for _, kind := range kinds {
		for _, h := range someStates() {
			for range 5 {
				line := someLine(source)
				line = line[source.Intn(100):]
				state, events := slowFeed(kind, h, line)
				fed(t, kind, h, line, told(events), state)
			}
			for _, bits := range allBits(8) {
				state, events := slowFeed(kind, h, bits)
				fed(t, kind, h, bits, told(events), state)
			}
		}
	}
}

func TestHdlcFlagsShareANought(t *testing.T) {
	fed(t, 2, impl.Hdlc{}, "011111101111110", "", open)
	fed(t, 2, impl.Hdlc{}, "0111111011111101111110", "", open)
	fed(t, 2, impl.Hdlc{}, "1111110", "", open)
	frame := strings.Repeat("0", 16)
	fed(t, 2, impl.Hdlc{}, "01111110"+frame+"0111111"+"01111110"+frame+flag, `1"" 1""`, open)
	fed(t, 2, impl.Hdlc{}, "011111101111110"+frame+"011111101111110", `1""`, open)
	// Of a flag that has a nought of its own, six Bits are held, else five.
	fed(t, 2, open, "0111111", "", impl.Hdlc{In: true, Ones: 6, Bits: "011111"})
	fed(t, 2, open, "111111", "", impl.Hdlc{In: true, Ones: 6, Bits: "11111"})
}

func TestHdlcFrameOfItsSumAlone(t *testing.T) {
	for _, kind := range kinds {
		empty := strings.Repeat("0", 8*kind)
		fed(t, kind, impl.Hdlc{}, framed(empty), `1""`, open)
		fed(t, kind, impl.Hdlc{}, framed("1"+empty[1:]), "2", open)
		fed(t, kind, impl.Hdlc{}, framed(empty[8:]), "4", open)
		fed(t, kind, impl.Hdlc{}, framed(empty[1:]), "6", open)
	}
}

func TestHdlcFewBitsBetweenFlags(t *testing.T) {
	for _, kind := range kinds {
		fed(t, kind, impl.Hdlc{}, flag+flag, "", open)
		fed(t, kind, impl.Hdlc{In: true, Ones: 6, Bits: "000000"}, "0", "", open)
		fed(t, kind, impl.Hdlc{In: true, Ones: 6, Bits: "00000"}, "0", "", open)
		fed(t, kind, impl.Hdlc{In: true, Ones: 6}, "0", "", open)
		fed(t, kind, impl.Hdlc{In: true, Ones: 6, Bits: "0000000"}, "0", "6", open)
		fed(t, kind, impl.Hdlc{Ones: 6}, "0", "", open)
		fed(t, kind, impl.Hdlc{}, framed("0"), "6", open)
		fed(t, kind, impl.Hdlc{}, framed("1"), "6", open)
	}
}

func TestHdlcFirstEventThatApplies(t *testing.T) {
	for _, kind := range kinds {
		most := 8 * (24 + kind)
		for many := 1; many <= most+40; many++ {
			want := "2"
			switch {
			case many > most:
				want = "5"
			case many%8 != 0:
				want = "6"
			case many < 8*kind:
				want = "4"
			}
			fed(t, kind, impl.Hdlc{}, framed(strings.Repeat("01", many)[:many]), want, open)
		}
	}
}

func TestHdlcFrameOfMostBytes(t *testing.T) {
	for _, kind := range kinds {
		for _, letter := range []string{"\x00", "\xff", "a"} {
			text := strings.Repeat(letter, 24)
			fed(t, kind, impl.Hdlc{}, framed(impl.BitsOf(impl.SumPut(kind, text))), "1"+strconv.Quote(text), open)
			fed(t, kind, impl.Hdlc{}, framed(impl.BitsOf(impl.SumPut(kind, text+letter))), "5", open)
		}
	}
}

func TestHdlcSevenOnes(t *testing.T) {
	six := impl.Hdlc{In: true, Ones: 6, Bits: "0011111"}
	fed(t, 2, open, "00111111", "", six)
	for many := 7; many < 20; many++ {
		ones := strings.Repeat("1", many)
		fed(t, 2, open, "00"+ones, "3", impl.Hdlc{Ones: 7})
		fed(t, 2, open, ones, "3", impl.Hdlc{Ones: 7})
		fed(t, 2, impl.Hdlc{}, ones, "", impl.Hdlc{Ones: 7})
		fed(t, 2, open, ones+"0", "3", impl.Hdlc{})
		fed(t, 2, open, ones+"0000", "3", impl.Hdlc{})
		fed(t, 2, open, ones+flag, "3", open)
		fed(t, 2, open, ones+"01111110"+ones, "3 3", impl.Hdlc{Ones: 7})
	}
	fed(t, 2, six, "1", "3", impl.Hdlc{Ones: 7})
	fed(t, 2, six, "10", "3", impl.Hdlc{})
}

func TestHdlcOnesThatWereSeven(t *testing.T) {
	seven := impl.Hdlc{In: true, Ones: 7, Bits: "01"}
	fed(t, 2, seven, "1", "3", impl.Hdlc{Ones: 7})
	fed(t, 2, seven, "11", "3", impl.Hdlc{Ones: 7})
	fed(t, 2, seven, "0", "", impl.Hdlc{In: true, Bits: "010"})
	fed(t, 2, impl.Hdlc{In: true, Ones: 7}, "1", "3", impl.Hdlc{Ones: 7})
	fed(t, 2, impl.Hdlc{Ones: 7}, "1", "", impl.Hdlc{Ones: 7})
	fed(t, 2, impl.Hdlc{Ones: 7}, "0", "", impl.Hdlc{})
}

func TestHdlcStuffedNought(t *testing.T) {
	fed(t, 2, open, "011111", "", impl.Hdlc{In: true, Ones: 5, Bits: "011111"})
	fed(t, 2, open, "0111110", "", impl.Hdlc{In: true, Bits: "011111"})
	fed(t, 2, open, "01111100", "", impl.Hdlc{In: true, Bits: "0111110"})
	fed(t, 2, open, "01111101", "", impl.Hdlc{In: true, Ones: 1, Bits: "0111111"})
	fed(t, 2, open, "011110", "", impl.Hdlc{In: true, Bits: "011110"})
	fed(t, 2, impl.Hdlc{Ones: 5}, "0", "", impl.Hdlc{})
}

func TestHdlcHoldsNoMore(t *testing.T) {
	noughts := strings.Repeat("0", 240)
	at := func(many, ones int) impl.Hdlc { return impl.Hdlc{In: true, Ones: ones, Bits: noughts[:many]} }
	full := at(240, 0)
	fed(t, 2, at(239, 0), "0", "", full)
	fed(t, 2, at(239, 0), "1", "", impl.Hdlc{In: true, Ones: 1, Bits: noughts[:239] + "1"})
	fed(t, 2, full, "0", "", full)
	fed(t, 2, full, "1", "", at(240, 1))
	fed(t, 2, full, "10", "", full)
	fed(t, 2, full, "111110", "", full)
	fed(t, 2, full, "111111", "", at(240, 6))
	fed(t, 2, full, "1111111", "3", impl.Hdlc{Ones: 7})
	fed(t, 2, open, noughts, "", full)
	fed(t, 2, open, noughts+"0", "", full)
	fed(t, 2, open, noughts+noughts+"1", "", at(240, 1))
	for _, kind := range kinds {
		fed(t, kind, full, flag, "5", open)
		fed(t, kind, full, "1111110", "5", open)
		fed(t, kind, open, noughts+noughts+noughts+flag+"0", "5", impl.Hdlc{In: true, Bits: "0"})
	}
}

func TestHdlcOk(t *testing.T) {
	for _, h := range someStates() {
		if !impl.HdlcOk(h) {
			t.Fatalf("%+v is not ok", h)
		}
	}
	if !impl.HdlcOk(impl.Hdlc{}) || !impl.HdlcOk(open) {
		t.Fatal("a new one is not ok")
	}
	for _, h := range noStates() {
		if impl.HdlcOk(h) {
			t.Fatalf("%+v is ok", h)
		}
	}
}

// noStates returns states that HdlcOk rejects.
func noStates() []impl.Hdlc {
	return []impl.Hdlc{
		{Bits: "0"}, {Bits: "1"}, {Bits: "011111", Ones: 6}, {Bits: "x"}, {Bits: strings.Repeat("0", 241)},
		{Ones: 8}, {Ones: -1}, {Ones: math.MaxInt}, {Ones: math.MinInt}, {Ones: 1<<32 + 1},
		{In: true, Ones: 8}, {In: true, Ones: -1}, {In: true, Ones: math.MaxInt}, {In: true, Ones: math.MinInt}, {In: true, Ones: 8, Bits: "01"},
		{In: true, Bits: "2"}, {In: true, Bits: "/"}, {In: true, Bits: "01x"}, {In: true, Bits: "\x00"}, {In: true, Bits: "\xb1"}, {In: true, Bits: " 1"},
		{In: true, Bits: strings.Repeat("0", 241)}, {In: true, Bits: strings.Repeat("1", 2000)}, {In: true, Bits: strings.Repeat("0", 239) + "2"},
	}
}

func TestHdlcFeedRefuses(t *testing.T) {
	held := impl.Hdlc{In: true, Ones: 1, Bits: "01"}
	line := "1111111" + framed("0")
	for _, kind := range noKinds {
		fed(t, kind, held, line, "", impl.Hdlc{})
		fed(t, kind, held, "", "", impl.Hdlc{})
		fed(t, kind, impl.Hdlc{}, flag, "", impl.Hdlc{})
	}
	for _, kind := range kinds {
		for _, h := range noStates() {
			fed(t, kind, h, line, "", impl.Hdlc{})
			fed(t, kind, h, "", "", impl.Hdlc{})
		}
		for _, bits := range noBits() {
			fed(t, kind, held, bits, "", impl.Hdlc{})
			fed(t, kind, held, line+bits, "", impl.Hdlc{})
		}
		fed(t, kind, impl.Hdlc{}, strings.Repeat("0", 1200-len(line))+line, "6", open)
	}
}
