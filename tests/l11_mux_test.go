package tests

import (
	"fmt"
	"math"
	"math/rand"
	"slices"
	"strconv"
	"strings"
	"testing"

	"loop.example/cotterpin/impl"
)

// spoken is messages as a text.
func spoken(list []impl.Told) string {
	out := ""
	for _, one := range list {
		out += fmt.Sprintf("%d %q;", one.Chan, one.Text)
	}
	return out
}

// opened is a Mux of these strings.
func opened(list ...string) impl.Mux {
	return impl.Mux{Open: list}
}

// long is so many bytes of one kind.
func long(many int) string {
	return strings.Repeat("x", many)
}

// slowCut works out how many fragments there are first.
func slowCut(ch int, s string, size int) []string {
	many := max(1, (len(s)+size-1)/size)
	out := make([]string, many)
	for i := range out {
		header := ch
		if i == many-1 {
			header += 128
		}
		out[i] = string([]byte{byte(header)}) + s[i*size:min(len(s), (i+1)*size)]
	}
	return out
}

// slowTake follows the document.
func slowTake(m impl.Mux, t string) (impl.Mux, []impl.Told) {
	after := impl.Mux{Open: slices.Clone(m.Open)}
	if t == "" {
		return after, nil
	}
	ch := int(t[0]) % 128
	if ch != 0 && ch != 1 && ch != 2 {
		return after, nil
	}
	after.Open[ch] += t[1:]
	if len(after.Open[ch]) > 600 {
		after.Open[ch] = ""
		return after, nil
	}
	if t[0] < 128 {
		return after, nil
	}
	text := after.Open[ch]
	after.Open[ch] = ""
	return after, []impl.Told{{Chan: ch, Text: text}}
}

// slowWeave is the order that the document describes, with places instead of lists that become shorter.
func slowWeave(a, b []string, turns []bool) []string {
	var out []string
	i, k := 0, 0
	for i < len(a) || k < len(b) {
		step := i + k
		fromA := i < len(a)
		if fromA && k < len(b) {
			fromA = step < len(turns) && turns[step]
		}
		if fromA {
			out = append(out, a[i])
			i++
		} else {
			out = append(out, b[k])
			k++
		}
	}
	return out
}

// someFragment is a fragment of a channel mostly, sometimes of none, long, or nothing.
func someFragment(source *rand.Rand) string {
	text := mixedBytes(source, source.Intn(8))
	switch source.Intn(12) {
	case 0:
		return ""
	case 1:
		return mixedBytes(source, 1+source.Intn(4))
	case 2:
		text = ""
	case 3:
		text = mixedBytes(source, source.Intn(700))
	case 4:
		text = mixedBytes(source, 299+source.Intn(3))
	}
	header := source.Intn(3) + 128*source.Intn(2)
	return string([]byte{byte(header)}) + text
}

func someFragments(source *rand.Rand, many int) []string {
	var list []string
	for range many {
		list = append(list, someFragment(source))
	}
	return list
}

// someMux is a Mux that is valid.
func someMux(source *rand.Rand) impl.Mux {
	m := opened("", "", "")
	for ch := range m.Open {
		m.Open[ch] = mixedBytes(source, []int{0, 0, 1, source.Intn(30), source.Intn(601), 599, 600}[source.Intn(7)])
	}
	return m
}

func someTurns(source *rand.Rand, many int) []bool {
	turns := make([]bool, many)
	for i := range turns {
		turns[i] = source.Intn(2) == 0
	}
	return turns
}

// noMuxes returns those that are not valid.
func noMuxes() []impl.Mux {
	return []impl.Mux{
		{}, opened(), opened(""), opened("", ""), opened("", "", "", ""), opened("a", "b"), opened("a", "b", "c", "d"), // too few or too many
		opened(long(601), "", ""), opened("", long(601), ""), opened("", "", long(601)), opened("a", long(5000), "b"), opened(long(601), long(601), long(601)), // too long
		opened(long(601)), opened("", "", "", long(601)), {Open: make([]string, 128)},
	}
}

func sameList(t *testing.T, what string, got, want []string) {
	t.Helper()
	same(t, what, fmt.Sprintf("%q", got), fmt.Sprintf("%q", want))
}

// taken checks a fragment: what Open is then, and what is completed.
func taken(t *testing.T, m impl.Mux, fragment string, want impl.Mux, messages ...impl.Told) {
	t.Helper()
	what := "take of " + shown(fragment)
	after, list := impl.MuxTake(m, fragment)
	sameList(t, what, after.Open, want.Open)
	same(t, "messages of "+what, spoken(list), spoken(messages))
}

func TestMuxLimits(t *testing.T) {
	same(t, "ChansMax", impl.ChansMax, 3)
	same(t, "MuxMax", impl.MuxMax, 40)
}

func TestMuxOk(t *testing.T) {
	for _, m := range []impl.Mux{
		opened("", "", ""), opened("a", "", "\x00"), opened(long(600), "", ""), opened("", long(600), ""), opened("", "", long(600)), opened(long(600), long(600), long(600)), opened("", long(41), ""),
	} {
		same(t, fmt.Sprintf("whether %q is ok", m.Open), impl.MuxOk(m), true)
	}
	for _, m := range noMuxes() {
		same(t, fmt.Sprintf("whether %q is ok", m.Open), impl.MuxOk(m), false)
	}
}

func TestMuxNewIsEmpty(t *testing.T) {
	m := impl.MuxNew()
	sameList(t, "a new Mux", m.Open, []string{"", "", ""})
	same(t, "whether a new Mux is ok", impl.MuxOk(m), true)
	spoil(m.Open)
	sameList(t, "a new Mux beside one that is spoilt", impl.MuxNew().Open, []string{"", "", ""})
}

func TestMuxCutFragments(t *testing.T) {
	for _, x := range []struct {
		ch   int
		s    string
		size int
		want []string
	}{
		{0, "hello", 2, []string{"\x00he", "\x00ll", "\x80o"}},
		{1, "hello", 4, []string{"\x01hell", "\x81o"}},
		{2, "hello", 5, []string{"\x82hello"}},
		{2, "hello", 6, []string{"\x82hello"}},
		{2, "hello", 40, []string{"\x82hello"}},
		{1, "abc", 1, []string{"\x01a", "\x01b", "\x81c"}},
		{0, "abcd", 2, []string{"\x00ab", "\x80cd"}}, // a multiple of size
		{2, "abcdef", 3, []string{"\x02abc", "\x82def"}},
		{0, "", 1, []string{"\x80"}}, // an empty message
		{1, "", 3, []string{"\x81"}},
		{2, "", 40, []string{"\x82"}},
		{0, "\x80\x00", 1, []string{"\x00\x80", "\x80\x00"}},
		{0, long(40), 40, []string{"\x80" + long(40)}},
		{1, long(40), 39, []string{"\x01" + long(39), "\x81x"}},
		{2, long(40), 20, []string{"\x02" + long(20), "\x82" + long(20)}},
	} {
		sameList(t, fmt.Sprintf("cut of %d %q %d", x.ch, x.s, x.size), impl.MuxCut(x.ch, x.s, x.size), x.want)
	}
}

func TestMuxCutRefuses(t *testing.T) {
	for _, ch := range []int{-1, 3, 4, 127, 128, 130, 256, 258, -128, -254, -256, math.MaxInt, math.MinInt} {
		for _, s := range []string{"", "a", long(40), long(41)} {
			sameList(t, fmt.Sprintf("cut on channel %d", ch), impl.MuxCut(ch, s, 1), nil)
		}
	}
	for ch := range 3 {
		for _, size := range []int{0, -1, -2, 41, 42, 600, math.MaxInt, math.MinInt} {
			for _, s := range []string{"", "a", "hello", long(40), long(41)} {
				sameList(t, fmt.Sprintf("cut of %q with size %d", s, size), impl.MuxCut(ch, s, size), nil)
			}
		}
		for _, many := range []int{41, 42, 80, 600, 601} {
			for _, size := range []int{1, 2, 20, 40} {
				sameList(t, fmt.Sprintf("cut of %d bytes", many), impl.MuxCut(ch, long(many), size), nil)
			}
		}
	}
}

// Promise 50.
func TestMuxFragmentsAreReassembled(t *testing.T) {
	source := rand.New(rand.NewSource(64))
	for ch := range 3 {
		for many := range 41 {
			for size := 1; size <= 40; size++ {
				s := mixedBytes(source, many)
				list := impl.MuxCut(ch, s, size)
				what := fmt.Sprintf("cut of %d %q %d", ch, s, size)
				sameList(t, what, list, slowCut(ch, s, size))
				for _, fragment := range list {
					if len(fragment) < 1 || len(fragment) > size+1 {
						t.Fatalf("%s has %q", what, fragment)
					}
				}
				if (len(list)-1)*size >= max(1, many) {
					t.Fatalf("%s has %d fragments", what, len(list))
				}
				same(t, "messages of "+what, spoken(impl.MuxAll(list)), spoken([]impl.Told{{Chan: ch, Text: s}}))
			}
		}
	}
}

func TestMuxTakeChannels(t *testing.T) {
	m := opened("a", "", "c")
	taken(t, m, "\x00x", opened("ax", "", "c"))
	taken(t, m, "\x01x", opened("a", "x", "c"))
	taken(t, m, "\x02xyz", opened("a", "", "cxyz"))
	taken(t, m, "\x80x", opened("", "", "c"), impl.Told{Chan: 0, Text: "ax"})
	taken(t, m, "\x81x", opened("a", "", "c"), impl.Told{Chan: 1, Text: "x"})
	taken(t, m, "\x82xyz", opened("a", "", ""), impl.Told{Chan: 2, Text: "cxyz"})
	taken(t, m, "\x00\x80", opened("a\x80", "", "c")) // only the first byte is a header
	taken(t, m, "\x80\x01", opened("", "", "c"), impl.Told{Chan: 0, Text: "a\x01"})
}

func TestMuxTakeOfNothing(t *testing.T) {
	m := opened("a", "", "c")
	taken(t, m, "", m) // a fragment with no bytes
	taken(t, m, "\x00", m)
	taken(t, m, "\x01", m)
	taken(t, m, "\x02", m)
	taken(t, m, "\x80", opened("", "", "c"), impl.Told{Chan: 0, Text: "a"})
	taken(t, m, "\x81", m, impl.Told{Chan: 1}) // an empty message
	taken(t, m, "\x82", opened("a", "", ""), impl.Told{Chan: 2, Text: "c"})
	taken(t, impl.MuxNew(), "", impl.MuxNew())
	taken(t, impl.MuxNew(), "\x80", impl.MuxNew(), impl.Told{Chan: 0})
}

// A header that is not one of six changes nothing.
func TestMuxTakeOfNoChannel(t *testing.T) {
	for _, m := range []impl.Mux{impl.MuxNew(), opened("a", "", "c"), opened(long(600), long(600), long(600))} {
		for header := range 256 {
			if header%128 < 3 {
				continue
			}
			for _, text := range []string{"", "a", "\x00", "\x80abc", long(600), long(601)} {
				taken(t, m, string([]byte{byte(header)})+text, m)
			}
		}
	}
}

func TestMuxTakeBytesMax(t *testing.T) {
	for ch := range 3 {
		plain, last := string([]byte{byte(ch)}), string([]byte{byte(ch + 128)})
		with := func(many int) impl.Mux {
			m := opened("a", "b", "c")
			m.Open[ch] = long(many)
			return m
		}
		told := func(many int) impl.Told { return impl.Told{Chan: ch, Text: long(many)} }
		taken(t, with(600), plain, with(600))
		taken(t, with(600), last, with(0), told(600))
		for _, more := range []int{1, 2, 40, 600, 601} {
			taken(t, with(600), plain+long(more), with(0))
			taken(t, with(600), last+long(more), with(0))
		}
		taken(t, with(599), plain+"x", with(600))
		taken(t, with(599), last+"x", with(0), told(600))
		taken(t, with(599), plain+"xx", with(0))
		taken(t, with(599), last+"xx", with(0))
		taken(t, with(0), plain+long(600), with(600))
		taken(t, with(0), last+long(600), with(0), told(600))
		taken(t, with(0), plain+long(601), with(0))
		taken(t, with(0), last+long(601), with(0))
	}
}

// What was cleared is not part of the message behind it.
func TestMuxBehindWhatWasCleared(t *testing.T) {
	for _, x := range []struct {
		list []string
		want []impl.Told
	}{
		{[]string{"\x00" + long(600), "\x00a", "\x80b"}, []impl.Told{{Chan: 0, Text: "b"}}},
		{[]string{"\x00" + long(600), "\x80a", "\x80b"}, []impl.Told{{Chan: 0, Text: "b"}}},
		{[]string{"\x00" + long(601), "\x80"}, []impl.Told{{Chan: 0}}},
		{[]string{"\x00" + long(600), "\x01b", "\x00a", "\x81c", "\x80"}, []impl.Told{{Chan: 1, Text: "bc"}, {Chan: 0}}},
		{[]string{"\x82a", "\x82b", "\x82"}, []impl.Told{{Chan: 2, Text: "a"}, {Chan: 2, Text: "b"}, {Chan: 2}}},
	} {
		same(t, fmt.Sprintf("messages of %.60q", x.list), spoken(impl.MuxAll(x.list)), spoken(x.want))
	}
	pieces := slices.Repeat([]string{"\x01" + long(40)}, 15)
	same(t, "messages of 600 bytes", spoken(impl.MuxAll(append(slices.Clone(pieces), "\x81"))), spoken([]impl.Told{{Chan: 1, Text: long(600)}}))
	same(t, "messages of 601 bytes", spoken(impl.MuxAll(append(slices.Clone(pieces), "\x81x"))), "")
	same(t, "messages of 601 bytes and the rest", spoken(impl.MuxAll(append(slices.Clone(pieces), "\x01x", "\x01a", "\x81b"))), spoken([]impl.Told{{Chan: 1, Text: "ab"}}))
}

// Promise 51.
func TestMuxFragmentChangesItsChannelOnly(t *testing.T) {
	source := rand.New(rand.NewSource(65))
	kinds := map[string]int{}
	for range 20000 {
		m := someMux(source)
		fragment := someFragment(source)
		before := slices.Clone(m.Open)
		after, list := impl.MuxTake(m, fragment)
		want, wanted := slowTake(m, fragment)
		what := fmt.Sprintf("take of %.30q with %.30q", fragment, before)
		sameList(t, what, after.Open, want.Open)
		same(t, "messages of "+what, spoken(list), spoken(wanted))
		sameList(t, "the argument behind "+what, m.Open, before)
		same(t, "whether it is ok behind "+what, impl.MuxOk(after), true)
		for ch := range 3 {
			if fragment == "" || int(fragment[0])%128 != ch {
				same(t, "another channel behind "+what, after.Open[ch], before[ch])
			}
		}
		if len(list) > 1 || len(list) == 1 && (fragment == "" || fragment[0] < 128) {
			t.Fatalf("%s completes %s", what, spoken(list))
		}
		kinds[kindOf(before, after.Open, list)]++
	}
	for _, kind := range []string{"nothing", "grown", "cleared", "completed"} {
		if kinds[kind] < 200 {
			t.Errorf("%s comes %d times only: the fragments are too tame", kind, kinds[kind])
		}
	}
}

// kindOf says what a fragment did.
func kindOf(before, after []string, list []impl.Told) string {
	was, is := len(strings.Join(before, "")), len(strings.Join(after, ""))
	switch {
	case len(list) > 0:
		return "completed"
	case is < was:
		return "cleared"
	case is > was:
		return "grown"
	}
	return "nothing"
}

func TestMuxTakeRefuses(t *testing.T) {
	for _, m := range noMuxes() {
		for _, fragment := range []string{"", "\x00", "\x80", "\x01a", "\x81a", "\x02a", "\x82", "\x03a", "\x83", "\xff", "\x00" + long(601), "\x80" + long(601)} {
			after, list := impl.MuxTake(m, fragment)
			if after.Open != nil || len(list) != 0 {
				t.Fatalf("take of %q with %.60q is %.60q, %s", fragment, m.Open, after.Open, spoken(list))
			}
		}
	}
}

// Promise 52.
func TestMuxReassemblyProceedsInOrder(t *testing.T) {
	source := rand.New(rand.NewSource(66))
	for n := range 300 {
		list := someFragments(source, n%25)
		all := impl.MuxAll(list)
		m := impl.MuxNew()
		var one, own []impl.Told
		for i := range len(list) + 1 {
			part := impl.MuxAll(list[:i])
			if len(part) > i || len(part) > len(all) || !slices.Equal(part, all[:len(part)]) {
				t.Fatalf("%d of %.20q are %s, all are %s", i, list, spoken(part), spoken(all))
			}
			same(t, "messages of takes in turn", spoken(own), spoken(part))
			if i < len(list) {
				m, one = impl.MuxTake(m, list[i])
				own = append(own, one...)
			}
		}
	}
	same(t, "messages of no fragments", spoken(impl.MuxAll(nil)), "")
	same(t, "messages of an empty list", spoken(impl.MuxAll([]string{})), "")
	same(t, "messages of fragments of no channel", spoken(impl.MuxAll([]string{"", "\x83a", "\x03a", "\xff", "\x7f"})), "")
}

func TestMuxAllFollowsTheDocument(t *testing.T) {
	source := rand.New(rand.NewSource(67))
	for n := range 400 {
		list := someFragments(source, n%40)
		before := slices.Clone(list)
		m := opened("", "", "")
		var want, more []impl.Told
		for _, fragment := range list {
			m, more = slowTake(m, fragment)
			want = append(want, more...)
		}
		same(t, "messages", spoken(impl.MuxAll(list)), spoken(want))
		sameList(t, "the fragments behind their messages", list, before)
	}
}

func TestMuxWeaveTurns(t *testing.T) {
	a, b := []string{"a", "b", "c"}, []string{"1", "2"}
	yes, no := true, false
	for _, x := range []struct {
		a, b  []string
		turns []bool
		want  string
	}{
		{a, b, []bool{yes, no, yes, no, yes}, "a1b2c"},
		{a, b, []bool{yes, yes, yes, yes, yes}, "abc12"}, // a has none left
		{a, b, []bool{no, no, no, no, no}, "12abc"},      // b has none left
		{a, b, nil, "12abc"},                             // no turns: b first
		{a, b, []bool{}, "12abc"},
		{a, b, []bool{yes}, "a12bc"}, // fewer turns than fragments
		{a, b, []bool{no, yes}, "1a2bc"},
		{a, b, []bool{yes, yes, no}, "ab12c"},
		{a, b, []bool{no, no, no, no, yes, yes, yes, yes, yes, yes}, "12abc"}, // more turns than fragments
		{a, b, []bool{yes, no, no, no, no, no, no, no, no, no}, "a12bc"},
		{a, b, []bool{no, no, yes, yes, no}, "12abc"}, // a turn is spent with each step, whoever has it
		{b, a, []bool{yes, yes, yes, no, yes}, "12abc"},
		{a, nil, []bool{no, no, no}, "abc"},
		{a, nil, nil, "abc"},
		{nil, b, []bool{yes, yes}, "12"},
		{nil, b, nil, "12"},
		{a, a, []bool{yes, no, yes, no}, "aabbcc"},
		{nil, nil, []bool{yes, no}, ""},
		{nil, nil, nil, ""},
		{[]string{}, []string{}, []bool{}, ""},
	} {
		got := impl.MuxWeave(x.a, x.b, x.turns)
		same(t, fmt.Sprintf("weave of %q %q %v", x.a, x.b, x.turns), strings.Join(got, ""), x.want)
		same(t, "number of fragments", len(got), len(x.a)+len(x.b))
	}
	sameList(t, "weave of empty fragments", impl.MuxWeave([]string{"", "a"}, []string{""}, []bool{yes, no}), []string{"", "", "a"})
	sameList(t, "weave of any texts", impl.MuxWeave([]string{"\xff", long(700)}, []string{"\x03"}, []bool{yes, no}), []string{"\xff", "\x03", long(700)})
}

func TestMuxWeaveFollowsTheDocument(t *testing.T) {
	source := rand.New(rand.NewSource(68))
	for range 3000 {
		var a, b []string
		for i := range source.Intn(7) {
			a = append(a, "a"+strconv.Itoa(i))
		}
		for i := range source.Intn(7) {
			b = append(b, "b"+strconv.Itoa(i))
		}
		turns := someTurns(source, source.Intn(16))
		sameList(t, fmt.Sprintf("weave of %q %q %v", a, b, turns), impl.MuxWeave(a, b, turns), slowWeave(a, b, turns))
	}
}

// Promise 53.
func TestMuxChannelsDoNotInterfere(t *testing.T) {
	source := rand.New(rand.NewSource(69))
	messages := func(ch int) ([]string, []string) {
		var list, texts []string
		for range source.Intn(4) {
			text := mixedBytes(source, source.Intn(41))
			texts = append(texts, text)
			list = append(list, impl.MuxCut(ch, text, 1+source.Intn(12))...)
		}
		return list, texts
	}
	for range 1000 {
		first := source.Intn(3)
		second := (first + 1 + source.Intn(2)) % 3
		a, told := messages(first)
		b, said := messages(second)
		woven := impl.MuxWeave(a, b, someTurns(source, source.Intn(30)))
		sameList(t, "fragments of one channel", ofChannel(woven, first), a)
		sameList(t, "fragments of the other", ofChannel(woven, second), b)
		same(t, "number of fragments", len(woven), len(a)+len(b))
		all := impl.MuxAll(woven)
		sameList(t, "messages of one channel", impl.MuxOf(all, first), told)
		sameList(t, "messages of the other", impl.MuxOf(all, second), said)
		sameList(t, "messages of the third", impl.MuxOf(all, 3-first-second), nil)
	}
	for n := range 400 {
		list := someFragments(source, n%40)
		all := impl.MuxAll(list)
		for ch := range 3 {
			alone := impl.MuxAll(ofChannel(list, ch))
			sameList(t, "messages of channel "+strconv.Itoa(ch), impl.MuxOf(all, ch), impl.MuxOf(alone, ch))
			same(t, "number of messages of the channel alone", len(impl.MuxOf(alone, ch)), len(alone))
		}
	}
}

// ofChannel is the fragments of a channel.
func ofChannel(list []string, ch int) []string {
	var out []string
	for _, fragment := range list {
		if fragment != "" && int(fragment[0])%128 == ch {
			out = append(out, fragment)
		}
	}
	return out
}

// Promise 54.
func TestMuxMessagesBelongToChannels(t *testing.T) {
	source := rand.New(rand.NewSource(70))
	for n := range 400 {
		all := impl.MuxAll(someFragments(source, n%40))
		many := 0
		var queues [3][]string
		for ch := range 3 {
			queues[ch] = impl.MuxOf(all, ch)
			many += len(queues[ch])
		}
		same(t, "number of messages of all channels", many, len(all))
		for _, one := range all {
			same(t, "next message of its channel", queues[one.Chan][0], one.Text)
			queues[one.Chan] = queues[one.Chan][1:]
		}
	}
}

func TestMuxOf(t *testing.T) {
	list := []impl.Told{{Chan: 1, Text: "a"}, {Chan: 0, Text: "b"}, {Chan: 1, Text: ""}, {Chan: 1, Text: "a"}, {Chan: 2, Text: long(700)}}
	sameList(t, "texts of channel 0", impl.MuxOf(list, 0), []string{"b"})
	sameList(t, "texts of channel 1", impl.MuxOf(list, 1), []string{"a", "", "a"})
	sameList(t, "texts of channel 2", impl.MuxOf(list, 2), []string{long(700)})
	for _, ch := range []int{-1, 3, 128, 129, 257, math.MaxInt, math.MinInt} {
		sameList(t, "texts of channel "+strconv.Itoa(ch), impl.MuxOf(list, ch), nil)
		// No number is refused: a list may have been made by hand.
		sameList(t, "texts of channel "+strconv.Itoa(ch), impl.MuxOf(append(list, impl.Told{Chan: ch, Text: "c"}), ch), []string{"c"})
	}
	sameList(t, "texts of nothing", impl.MuxOf(nil, 0), nil)
	sameList(t, "texts of an empty list", impl.MuxOf([]impl.Told{}, 0), nil)
}

// No result shares memory with an argument, and the spare capacity of an argument is left alone.
func TestMuxSharesNoMemory(t *testing.T) {
	list := roomy([]string{"a", "b", "c"})
	unspoilt := func(what string) {
		t.Helper()
		sameList(t, "the argument behind "+what, list, []string{"a", "b", "c"})
		sameList(t, "the spare capacity behind "+what, list[3:cap(list)], []string{"mark", "mark", "mark"})
	}
	for _, fragment := range []string{"", "\x00", "\x03", "\x01x", "\x81x", "\x82" + long(601)} {
		after, _ := impl.MuxTake(impl.Mux{Open: list}, fragment)
		spoil(after.Open)
		unspoilt("take of " + shown(fragment))
	}
	for _, other := range [][]string{nil, {"d"}, list} {
		for _, turns := range [][]bool{nil, {true}, {true, true, true}, {false, true, false, true}} {
			spoil(impl.MuxWeave(list, other, turns))
			unspoilt("weave")
			spoil(impl.MuxWeave(other, list, turns))
			unspoilt("weave")
		}
	}
	impl.MuxAll(list)
	unspoilt("all")
	first, second := impl.MuxCut(0, "abc", 1), impl.MuxCut(0, "abc", 1)
	spoil(first)
	sameList(t, "fragments beside some that are spoilt", second, []string{"\x00a", "\x00b", "\x80c"})
}
