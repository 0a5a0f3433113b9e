package tests

import (
	"fmt"
	"math"
	"math/rand"
	"slices"
	"strconv"
	"strings"
	"testing"

	"loop.example/cotterpin/impl"
)

// The steps, with short names for the tables.
const (
	send      = impl.StepSend
	there     = impl.StepThere
	here      = impl.StepHere
	lose      = impl.StepLose
	loseBack  = impl.StepLoseBack
	twice     = impl.StepTwice
	twiceBack = impl.StepTwiceBack
)

var allSteps = []int{send, there, here, lose, loseBack, twice, twiceBack}

// noSteps are numbers that are no steps.
var noSteps = []int{0, 8, 9, -1, -7, 257, 1<<32 + 1, math.MaxInt, math.MinInt}

// lineConf is what the tables use.
var lineConf = conf(impl.CodecCobs, impl.SumShort, 6, 0)

// lineText writes a line for a comparison; a nil list is written as an empty one.
func lineText(l impl.Line) string {
	return fmt.Sprintf("%+v msgs %q next %d got %q there %q here %q to %q back %q", l.Conf, l.Msgs, l.Next, l.Got,
		fmt.Sprint(l.There), fmt.Sprint(l.Here), l.To, l.Back)
}

func sameLine(t *testing.T, what string, got, want impl.Line) {
	t.Helper()
	if lineText(got) != lineText(want) {
		t.Fatalf("%s is\n%s, not\n%s", what, lineText(got), lineText(want))
	}
}

// stepped checks one call of LineDo.
func stepped(t *testing.T, l impl.Line, step int, want impl.Line, wanted bool) {
	t.Helper()
	before := lineText(l)
	after, ok := impl.LineDo(l, step)
	what := "step " + strconv.Itoa(step) + " of " + before
	same(t, "whether possible: "+what, ok, wanted)
	sameLine(t, what, after, want)
	same(t, "the argument behind "+what, lineText(l), before)
}

// digitOf is the parity digit of a number.
func digitOf(n int) string {
	return []string{"0", "1"}[n&1]
}

// slowDo follows the document; l is valid.
func slowDo(l impl.Line, step int) (impl.Line, bool) {
	to, back := slices.Clone(l.To), slices.Clone(l.Back)
	changed := l
	changed.Got = slices.Clone(l.Got)
	concerned := map[int]*[]string{there: &to, here: &back, lose: &to, loseBack: &back, twice: &to, twiceBack: &back}[step]
	if step != send && (concerned == nil || len(*concerned) == 0) {
		return l, false
	}
	if step == send && (l.Next == len(l.Msgs) || len(to) == 5) {
		return l, false
	}
	first := ""
	switch step {
	case send:
		to = append(to, impl.FindSend(l.Conf, digitOf(l.Next)+l.Msgs[l.Next]))
	case twice, twiceBack:
		if len(*concerned) < 5 {
			*concerned = slices.Insert(*concerned, 0, (*concerned)[0])
		}
	default:
		first, *concerned = (*concerned)[0], (*concerned)[1:]
	}
	switch step {
	case there:
		back = slowThere(&changed, first, back)
	case here:
		slowHere(&changed, first)
	}
	changed.To, changed.Back = to, back
	return changed, true
}

func slowThere(l *impl.Line, first string, back []string) []string {
	after, events := slowFind(l.Conf, l.There, first)
	l.There = after
	for _, e := range events {
		if e.Kind != 1 || !strings.HasPrefix(e.Text, "0") && !strings.HasPrefix(e.Text, "1") {
			continue
		}
		if e.Text[:1] == digitOf(len(l.Got)) && len(l.Got) < len(l.Msgs) {
			l.Got = append(l.Got, e.Text[1:])
		}
		if len(back) < 5 {
			back = append(back, impl.FindSend(l.Conf, e.Text[:1]))
		}
	}
	return back
}

func slowHere(l *impl.Line, first string) {
	after, events := slowFind(l.Conf, l.Here, first)
	l.Here = after
	for _, e := range events {
		if e.Kind == 1 && e.Text == digitOf(l.Next) && l.Next < len(l.Msgs) {
			l.Next++
		}
	}
}

// slowCalm makes rounds out of steps.
func slowCalm(l impl.Line, rounds int) impl.Line {
	for range rounds {
		for _, step := range []int{there, here} {
			for ok := true; ok; {
				l, ok = slowDo(l, step)
			}
		}
		l, _ = slowDo(l, send)
	}
	return l
}

// someMsgs returns messages that a configuration allows, at most MsgsMax of them.
func someMsgs(source *rand.Rand, c impl.Conf) []string {
	var list []string
	if c.Most == 0 {
		return nil
	}
	for range source.Intn(7) {
		list = append(list, mixedOf(source, special+"01", source.Intn(c.Most)))
	}
	return list
}

// someSteps returns so many steps, some of which are none; how much is lost differs from list to list.
func someSteps(source *rand.Rand, many int) []int {
	steps := make([]int, many)
	losses := source.Intn(4)
	for i := range steps {
		steps[i] = []int{send, there, here}[source.Intn(3)]
		if source.Intn(6) < losses {
			steps[i] = append([]int{0, 8}, allSteps...)[source.Intn(9)]
		}
	}
	return steps
}

// someWire returns elements in transit, of which at most one frame comes each: frames, damaged ones, parts and noise.
func someWire(source *rand.Rand, c impl.Conf) []string {
	var list []string
	for range source.Intn(6) {
		text := impl.FindSend(c, digitOf(source.Intn(2))+mixedBytes(source, source.Intn(max(c.Most, 1))))
		switch source.Intn(8) {
		case 0:
			text = text[source.Intn(len(text)+1):]
		case 1:
			text = text[:source.Intn(len(text)+1)]
		case 2:
			text = impl.FindSend(c, mixedOf(source, "012", source.Intn(c.Most+1)))
		case 3:
			text = mixedBytes(source, source.Intn(20))
		case 4:
			text = ""
		case 5, 6:
			text = impl.FindSend(c, digitOf(source.Intn(2)))
		}
		list = append(list, text)
	}
	return list
}

// someLines returns valid lines: such as steps lead to, and others.
func someLines(source *rand.Rand, many int) []impl.Line {
	var list []impl.Line
	confs := someConfs()
	for range many {
		c := confs[source.Intn(len(confs))]
		msgs := someMsgs(source, c)
		list = append(list, impl.LinePlay(c, msgs, someSteps(source, source.Intn(81))))
		finds := someFinds(source, c)
		l := impl.Line{Conf: c, Msgs: msgs, Next: source.Intn(len(msgs) + 1), To: someWire(source, c), Back: someWire(source, c)}
		for range source.Intn(len(msgs) + 1) {
			l.Got = append(l.Got, mixedBytes(source, source.Intn(50)))
		}
		if source.Intn(3) == 0 {
			l.There, l.Here = finds[source.Intn(len(finds))], finds[source.Intn(len(finds))]
		}
		list = append(list, l)
	}
	return list
}

// inTransit is a line with these lists of what is on its way.
func inTransit(to, back []string) impl.Line {
	l := impl.LineNew(lineConf, []string{"one", "", "three"})
	l.To, l.Back = to, back
	return l
}

// frame is what lineConf sends.
func frame(text string) string {
	return impl.FindSend(lineConf, text)
}

func TestLineLimits(t *testing.T) {
	for i, step := range allSteps {
		same(t, "step", step, i+1)
	}
	for _, x := range [][2]int{{impl.MsgsMax, 6}, {impl.WireMax, 5}, {impl.StepsMax, 80}, {impl.CalmMax, 12}} {
		same(t, "limit", x[0], x[1])
	}
}

// Promise 33.
func TestLineNewIsEmpty(t *testing.T) {
	source := rand.New(rand.NewSource(40))
	for _, c := range someConfs() {
		for range 10 {
			msgs := someMsgs(source, c)
			l := impl.LineNew(c, msgs)
			sameLine(t, "a new line", l, impl.Line{Conf: c, Msgs: msgs})
			same(t, "ok of a new line", impl.LineOk(l), true)
			same(t, "what a new line got", len(l.Got), 0)
			same(t, "next of a new line", l.Next, 0)
		}
	}
}

// No messages and MsgsMax messages are allowed, one more is not; nor is a message of Most bytes.
func TestLineNewLimits(t *testing.T) {
	for _, c := range someConfs() {
		for _, none := range [][]string{nil, {}} {
			l := impl.LineNew(c, none)
			sameLine(t, "a line with no messages", l, impl.Line{Conf: c})
			for _, step := range allSteps {
				stepped(t, l, step, l, false)
			}
			sameLine(t, "play with no messages", impl.LinePlay(c, none, allSteps), l)
			sameLine(t, "calm with no messages", impl.LineCalm(l, 12), l)
		}
		most := strings.Repeat("a", c.Most)
		for _, list := range [][]string{{most}, {"", most}, {most + "a"}, {strings.Repeat("a", 5000)}, make([]string, 7), make([]string, 100)} {
			sameLine(t, "a line with "+shown(strings.Join(list, "|")), impl.LineNew(c, list), impl.Line{})
			sameLine(t, "play with "+shown(strings.Join(list, "|")), impl.LinePlay(c, list, allSteps), impl.Line{})
			same(t, "ok with "+shown(strings.Join(list, "|")), impl.LineOk(impl.Line{Conf: c, Msgs: list}), false)
		}
		if c.Most == 0 {
			continue
		}
		list := slices.Repeat([]string{most[1:]}, 6)
		l := impl.LineNew(c, list)
		sameLine(t, "a line with as many as there may be", l, impl.Line{Conf: c, Msgs: list})
		last := impl.LineCalm(l, 12)
		same(t, "what came of messages of Most - 1 bytes", fmt.Sprint(last.Got, last.Next), fmt.Sprint(list, 6))
	}
	for _, c := range noConfs() {
		for _, list := range [][]string{nil, {""}, {"a", "b"}} {
			sameLine(t, "a line with "+fmt.Sprint(c), impl.LineNew(c, list), impl.Line{})
			sameLine(t, "play with "+fmt.Sprint(c), impl.LinePlay(c, list, allSteps), impl.Line{})
		}
	}
}

// noLines returns lines each of which is not valid in one way.
func noLines() []impl.Line {
	c := lineConf
	msgs := []string{"a", "", "bcdef"}
	wire := slices.Repeat([]string{frame("0a")}, 6)
	list := []impl.Line{
		{}, {Conf: c, Msgs: make([]string, 7)}, {Conf: c, Msgs: []string{"a", "sixsix"}}, {Conf: c, Msgs: []string{"sixsix", "a"}},
		{Conf: c, Msgs: msgs, Next: -1}, {Conf: c, Msgs: msgs, Next: 4}, {Conf: c, Next: 1}, {Conf: c, Msgs: msgs, Next: math.MinInt}, {Conf: c, Msgs: msgs, Next: math.MaxInt},
		{Conf: c, Msgs: msgs, Got: make([]string, 4)}, {Conf: c, Msgs: msgs, Next: 3, Got: make([]string, 6)}, {Conf: c, Got: []string{""}},
		{Conf: c, Msgs: msgs, To: wire}, {Conf: c, Msgs: msgs, Back: wire}, {Conf: c, Msgs: msgs, To: make([]string, 100)}, {Conf: c, Back: make([]string, 6)},
	}
	for _, f := range noFinds(c) {
		list = append(list, impl.Line{Conf: c, Msgs: msgs, There: f}, impl.Line{Conf: c, Msgs: msgs, Here: f})
	}
	for _, bad := range noConfs() {
		list = append(list, impl.Line{Conf: bad}, impl.Line{Conf: bad, Msgs: msgs, To: wire[:1], Back: wire[:1]})
	}
	return list
}

func TestLineOk(t *testing.T) {
	source := rand.New(rand.NewSource(41))
	for _, l := range someLines(source, 400) {
		same(t, "ok of "+lineText(l), impl.LineOk(l), true)
	}
	msgs := []string{"a", "", "bcdef"}
	long := []string{strings.Repeat("a", 5000), "", "\x00", "~", "0"}
	for _, l := range []impl.Line{
		{Conf: lineConf},
		{Conf: lineConf, Msgs: msgs, Next: 3},
		{Conf: lineConf, Msgs: msgs, Got: make([]string, 3)},
		{Conf: lineConf, Msgs: msgs, Next: 1, Got: long[:3]},
		{Conf: lineConf, Msgs: msgs, To: long, Back: long},
		{Conf: lineConf, Msgs: msgs, There: over, Here: impl.Find{Held: strings.Repeat("a", 20)}},
	} {
		same(t, "ok of "+lineText(l), impl.LineOk(l), true)
	}
	for _, l := range noLines() {
		same(t, "ok of "+lineText(l), impl.LineOk(l), false)
	}
}

func TestLineRefusesWhatIsNotValid(t *testing.T) {
	for _, l := range noLines() {
		for _, step := range slices.Concat(allSteps, noSteps) {
			stepped(t, l, step, impl.Line{}, false)
		}
		for _, rounds := range []int{-1, 0, 1, 12, 13} {
			sameLine(t, "calm of "+lineText(l), impl.LineCalm(l, rounds), impl.Line{})
		}
	}
}

func TestLineStepSend(t *testing.T) {
	msgs := []string{"one", "", "three"}
	l := impl.LineNew(lineConf, msgs)
	for i, want := range []string{"0one", "1", "0three"} {
		l.Next = i
		sent := l
		sent.To = []string{frame(want)}
		stepped(t, l, send, sent, true)
	}
	l.Next = 3
	stepped(t, l, send, l, false)
	l.Next = 1
	for many := range 5 {
		more, ok := impl.LineDo(l, send)
		same(t, "whether a send is possible", ok, true)
		same(t, "how many are on their way", len(more.To), many+1)
		same(t, "the last on its way", more.To[many], frame("1"))
		l = more
	}
	stepped(t, l, send, l, false)
}

func TestLineStepThere(t *testing.T) {
	none := inTransit(nil, []string{frame("0")})
	stepped(t, none, there, none, false)
	for _, x := range []struct {
		got       []string
		text      string
		then, ans []string
	}{
		{nil, frame("0one"), []string{"one"}, []string{frame("0")}},
		{nil, frame("0"), []string{""}, []string{frame("0")}},
		{nil, frame("00"), []string{"0"}, []string{frame("0")}},
		{nil, frame("1one"), nil, []string{frame("1")}},
		{[]string{"a"}, frame("0one"), []string{"a"}, []string{frame("0")}},
		{[]string{"a"}, frame("1"), []string{"a", ""}, []string{frame("1")}},
		{[]string{"a", "b"}, frame("0c"), []string{"a", "b", "c"}, []string{frame("0")}},
		{[]string{"a", "b", "c"}, frame("1d"), []string{"a", "b", "c"}, []string{frame("1")}},
		{[]string{"a", "b", "c"}, frame("0d"), []string{"a", "b", "c"}, []string{frame("0")}},
		{nil, frame(""), nil, nil},
		{nil, frame("2one"), nil, nil},
		{nil, frame("/"), nil, nil},
		{nil, frame("\x00"), nil, nil},
		{nil, frame("\x01"), nil, nil},
		{nil, frame("x0"), nil, nil},
		{nil, "\x00", nil, nil},
		{nil, "", nil, nil},
		{nil, "\x02\x00", nil, nil},
		{nil, "0one\x00", nil, nil},
	} {
		l := inTransit([]string{x.text, "rest"}, nil)
		l.Got = x.got
		want := l
		want.To, want.Got, want.Back = []string{"rest"}, x.then, x.ans
		stepped(t, l, there, want, true)
	}
}

func TestLineStepHere(t *testing.T) {
	none := inTransit([]string{frame("0")}, nil)
	stepped(t, none, here, none, false)
	for _, x := range []struct {
		next int
		text string
		then int
	}{
		{0, frame("0"), 1}, {0, frame("1"), 0}, {1, frame("1"), 2}, {1, frame("0"), 1}, {2, frame("0"), 3}, {3, frame("1"), 3}, {3, frame("0"), 3},
		{0, frame("00"), 0}, {0, frame("0a"), 0}, {0, frame(""), 0}, {0, frame("a0"), 0}, {0, "0", 0}, {0, "\x00", 0}, {0, "", 0}, {1, frame("01"), 1},
	} {
		l := inTransit(nil, []string{x.text, "rest"})
		l.Next = x.next
		want := l
		want.Back, want.Next = []string{"rest"}, x.then
		if x.text == "0" {
			want.Here = impl.Find{Held: "0"}
		}
		stepped(t, l, here, want, true)
	}
}

func TestLineStepsThatLoseAndRepeat(t *testing.T) {
	five := []string{"a", "b", "c", "d", "e"}
	for many := range 6 {
		for other := range 6 {
			l := inTransit(five[:many], five[:other])
			lost, lostBack, repeated, repeatedBack := l, l, l, l
			if many > 0 {
				lost.To = five[1:many]
			}
			if other > 0 {
				lostBack.Back = five[1:other]
			}
			// Where there is no room the step is possible and changes nothing.
			if many > 0 && many < 5 {
				repeated.To = append([]string{"a"}, five[:many]...)
			}
			if other > 0 && other < 5 {
				repeatedBack.Back = append([]string{"a"}, five[:other]...)
			}
			stepped(t, l, lose, lost, many > 0)
			stepped(t, l, loseBack, lostBack, other > 0)
			stepped(t, l, twice, repeated, many > 0)
			stepped(t, l, twiceBack, repeatedBack, other > 0)
		}
	}
}

func TestLineNoStep(t *testing.T) {
	source := rand.New(rand.NewSource(42))
	for _, l := range someLines(source, 50) {
		for _, step := range noSteps {
			stepped(t, l, step, l, false)
		}
	}
	l := inTransit([]string{frame("0")}, nil)
	sameLine(t, "play of what is no step", impl.LinePlay(l.Conf, l.Msgs, noSteps), impl.LineNew(l.Conf, l.Msgs))
}

// An element may be longer than FindFeed allows, hold several frames, or a part of one.
func TestLineElementsOfAnyKind(t *testing.T) {
	long := strings.Repeat("a", 700) + "\x00"
	l := inTransit([]string{long + frame("0one")}, []string{long + frame("0")})
	want := l
	want.To, want.Got, want.Back = nil, []string{"one"}, []string{l.Back[0], frame("0")}
	stepped(t, l, there, want, true)
	want = l
	want.Back, want.Next = nil, 1
	stepped(t, l, here, want, true)

	l = inTransit([]string{frame("0a") + frame("0b") + frame("1c") + "\x02\x00" + frame("0d") + frame("1e") + frame("0f") + frame("1g")}, nil)
	want = l
	want.To, want.Got = nil, []string{"a", "c", "d"}
	want.Back = []string{frame("0"), frame("0"), frame("1"), frame("0"), frame("1")}
	stepped(t, l, there, want, true)

	l = inTransit(nil, []string{frame("0") + frame("0") + frame("x") + frame("1") + frame("0") + frame("1")})
	want = l
	want.Back, want.Next = nil, 3
	stepped(t, l, here, want, true)

	parts := []string{frame("0one")[:3], frame("0one")[3:] + "b"}
	l, _ = impl.LineDo(inTransit(parts, nil), there)
	same(t, "what is held there", l.There, impl.Find{Held: parts[0]})
	l, _ = impl.LineDo(l, there)
	want = inTransit(nil, []string{frame("0")})
	want.Got, want.There = []string{"one"}, impl.Find{Held: "b"}
	sameLine(t, "a frame in two elements", l, want)

	parts = []string{frame("0")[:1], frame("0")[1:] + strings.Repeat("b", 30)}
	l, _ = impl.LineDo(inTransit(nil, parts), here)
	same(t, "what is held here", l.Here, impl.Find{Held: parts[0]})
	l, _ = impl.LineDo(l, here)
	want = inTransit(nil, nil)
	want.Next, want.Here = 1, over
	sameLine(t, "an answer in two elements", l, want)
}

// With WireMax elements on their way back an answer is dropped, but the message is kept.
func TestLineNoRoomForAnAnswer(t *testing.T) {
	five := slices.Repeat([]string{frame("1")}, 5)
	l := inTransit([]string{frame("0one")}, five)
	want := l
	want.To, want.Got = nil, []string{"one"}
	stepped(t, l, there, want, true)
	l = inTransit([]string{frame("0one")}, five[:4])
	want = l
	want.To, want.Got, want.Back = nil, []string{"one"}, append(five[:4:4], frame("0"))
	stepped(t, l, there, want, true)
}

// Promise 34.
func TestLineDoIsValid(t *testing.T) {
	source := rand.New(rand.NewSource(43))
	possible := map[int][2]int{}
	for _, l := range someLines(source, 2000) {
		for _, step := range append([]int{0, 8}, allSteps...) {
			after, ok := impl.LineDo(l, step)
			same(t, "ok behind a step", impl.LineOk(after), true)
			if grown := len(after.Got) - len(l.Got); grown < 0 || grown > 1 || !slices.Equal(after.Got[:len(l.Got)], l.Got) {
				t.Fatalf("step %d of %s got %q", step, lineText(l), after.Got)
			}
			if after.Next < l.Next {
				t.Fatalf("step %d of %s is now at %d", step, lineText(l), after.Next)
			}
			count := possible[step]
			if ok {
				count[1]++
			} else {
				count[0]++
				sameLine(t, "a line behind a step that is not possible", after, l)
			}
			possible[step] = count
		}
	}
	for _, step := range allSteps {
		if possible[step][0] < 100 || possible[step][1] < 100 {
			t.Fatalf("step %d was not possible, or possible, so often: %v", step, possible[step])
		}
	}
}

func TestLineFollowsTheDocument(t *testing.T) {
	source := rand.New(rand.NewSource(44))
	for _, l := range someLines(source, 1000) {
		for _, step := range slices.Concat(allSteps, []int{0, 8}) {
			want, wanted := slowDo(l, step)
			stepped(t, l, step, want, wanted)
		}
		rounds := source.Intn(13)
		sameLine(t, "calm of "+lineText(l), impl.LineCalm(l, rounds), slowCalm(l, rounds))
	}
}

// Promise 35.
func TestLinePlayIsSteps(t *testing.T) {
	source := rand.New(rand.NewSource(45))
	for _, c := range someConfs() {
		for _, many := range []int{0, 1, 2, 10, 40, 79, 80, source.Intn(81)} {
			msgs, steps := someMsgs(source, c), someSteps(source, many)
			l := impl.LineNew(c, msgs)
			for _, step := range steps {
				l, _ = impl.LineDo(l, step)
			}
			sameLine(t, "play of "+fmt.Sprint(steps), impl.LinePlay(c, msgs, steps), l)
		}
	}
}

// StepsMax steps are performed, those behind are not, and one that is not possible counts.
func TestLinePlayStepsMax(t *testing.T) {
	msgs := []string{"one"}
	for _, wasted := range []int{0, there, 99} {
		steps := append(slices.Repeat([]int{wasted}, 79), send)
		l := impl.LinePlay(lineConf, msgs, steps)
		same(t, "how many are on their way behind 80 steps", len(l.To), 1)
		for _, more := range [][]int{{send}, {there}, {lose, send, send}, steps} {
			sameLine(t, "play of more steps", impl.LinePlay(lineConf, msgs, slices.Concat(steps, more)), l)
		}
		l = impl.LinePlay(lineConf, msgs, append([]int{wasted}, steps...))
		same(t, "how many are on their way with the send as step 81", len(l.To), 0)
	}
	source := rand.New(rand.NewSource(46))
	for range 100 {
		steps := someSteps(source, 80+source.Intn(200))
		sameLine(t, "play of many steps", impl.LinePlay(lineConf, msgs, steps), impl.LinePlay(lineConf, msgs, steps[:80]))
	}
}

// inOrder checks promise 36 of a line.
func inOrder(t *testing.T, l impl.Line, steps []int) {
	t.Helper()
	many := len(l.Got)
	if many > len(l.Msgs) || !slices.Equal(l.Got, l.Msgs[:many]) || l.Next != many && l.Next != many-1 {
		t.Fatalf("behind %v the line is %s", steps, lineText(l))
	}
}

// Promises 36 and 37.
func TestLineMessagesArriveInOrderAndOnce(t *testing.T) {
	source := rand.New(rand.NewSource(47))
	partly := 0
	for _, c := range someConfs() {
		for range 40 {
			msgs, steps := someMsgs(source, c), someSteps(source, source.Intn(81))
			l := impl.LinePlay(c, msgs, steps)
			inOrder(t, l, steps)
			if len(l.Got) > 0 && len(l.Got) < len(msgs) {
				partly++
			}
			last := impl.LineCalm(l, 12)
			same(t, "what came behind "+fmt.Sprint(steps), fmt.Sprintf("%q %d", last.Got, last.Next), fmt.Sprintf("%q %d", msgs, len(msgs)))
		}
	}
	if partly < 100 {
		t.Fatalf("only %d lines had got some of their messages", partly)
	}
}

// Promises 36 and 37, for every short list of steps; messages that are the same are told apart.
func TestLineShortListsOfSteps(t *testing.T) {
	msgs := []string{"a", "a", "b"}
	all := [][]int{nil}
	for i := 0; len(all[i]) < 5; i++ {
		for _, step := range allSteps {
			all = append(all, append(slices.Clone(all[i]), step))
		}
	}
	begun := []int{send, twice, there}
	for _, steps := range all {
		l := impl.LinePlay(lineConf, msgs, append(begun[:3:3], steps...))
		inOrder(t, l, steps)
		if len(steps) < 4 {
			last := impl.LineCalm(l, 12)
			same(t, "what came behind "+fmt.Sprint(steps), fmt.Sprint(last.Got, last.Next), fmt.Sprint(msgs, 3))
		}
	}
}

// A transmission that is lost is sent again; one that comes twice is kept once and answered twice.
func TestLineTransmissionLostOrTwice(t *testing.T) {
	msgs := []string{"one", "", "three"}
	play := func(steps ...int) impl.Line { return impl.LinePlay(lineConf, msgs, steps) }
	sameLine(t, "lost", play(send, lose), impl.LineNew(lineConf, msgs))
	want := inTransit(nil, []string{frame("0")})
	want.Got = []string{"one"}
	sameLine(t, "lost and sent again", play(send, lose, send, there), want)
	want.Back = []string{frame("0"), frame("0")}
	sameLine(t, "twice", play(send, twice, there, there), want)
	sameLine(t, "sent twice", play(send, send, there, there), want)
	// The second answer is about the message before and changes nothing.
	want.Back, want.Next = nil, 1
	sameLine(t, "answered twice", play(send, twice, there, there, here, here), want)
	want.Got, want.Next = []string{"one", ""}, 2
	sameLine(t, "answered twice and sent on", play(send, twice, there, there, here, send, there, here, here), want)
}

// An answer that is lost is given again when the message comes again; one that comes twice confirms once.
func TestLineAnswerLostOrTwice(t *testing.T) {
	msgs := []string{"one", "", "three"}
	play := func(steps ...int) impl.Line { return impl.LinePlay(lineConf, msgs, steps) }
	want := inTransit(nil, nil)
	want.Got = []string{"one"}
	sameLine(t, "lost", play(send, there, loseBack), want)
	want.To = []string{frame("0one")}
	sameLine(t, "lost and sent again", play(send, there, loseBack, send), want)
	want.To, want.Back = nil, []string{frame("0")}
	sameLine(t, "lost and answered again", play(send, there, loseBack, send, there), want)
	want.Back, want.Next = nil, 1
	sameLine(t, "lost and confirmed then", play(send, there, loseBack, send, there, here), want)
	sameLine(t, "twice", play(send, there, twiceBack, here, here), want)
	want.To = []string{frame("1")}
	sameLine(t, "twice and sent on", play(send, there, twiceBack, here, here, send), want)
}

func TestLineCalmRounds(t *testing.T) {
	msgs := []string{"a", "b", "c", "d", "e", "f"}
	l := impl.LineNew(lineConf, msgs)
	sameLine(t, "no round", impl.LineCalm(l, 0), l)
	want := l
	for round := 1; round <= 12; round++ {
		many := min(round-1, 6)
		want.Got, want.Next, want.To = msgs[:many], many, nil
		if many < 6 {
			want.To = []string{frame(digitOf(many) + msgs[many])}
		}
		sameLine(t, strconv.Itoa(round)+" rounds", impl.LineCalm(l, round), want)
	}
	for _, rounds := range []int{13, 14, -1, -12, math.MaxInt, math.MinInt, 1<<32 + 1} {
		sameLine(t, strconv.Itoa(rounds)+" rounds", impl.LineCalm(l, rounds), impl.Line{})
	}
	// In a round all goes there before anything comes back, and what has no room for its answer is not answered.
	five := slices.Repeat([]string{frame("0a")}, 5)
	full := inTransit(five, slices.Repeat([]string{frame("1")}, 5))
	want = inTransit([]string{frame("0one")}, nil)
	want.Got = []string{"a"}
	sameLine(t, "a round of a full line", impl.LineCalm(full, 1), want)
}

// Promise 38.
func TestLineRoundsCompose(t *testing.T) {
	source := rand.New(rand.NewSource(48))
	for _, l := range someLines(source, 100) {
		for n := 1; n <= 12; n++ {
			sameLine(t, strconv.Itoa(n)+" rounds", impl.LineCalm(l, n), impl.LineCalm(impl.LineCalm(l, n-1), 1))
		}
	}
}

// spoil overwrites all that a list can reach.
func spoil(list []string) {
	list = list[:cap(list)]
	for i := range list {
		list[i] = "spoilt"
	}
}

// roomy is a list with spare capacity, in which a marker stands.
func roomy(list []string) []string {
	return append(append(make([]string, 0, len(list)+3), list...), "mark", "mark", "mark")[:len(list)]
}

// No result shares memory with an argument, nor do the lists of one result, and the spare capacity of an argument is left alone.
func TestLineSharesNoMemory(t *testing.T) {
	source := rand.New(rand.NewSource(49))
	for _, x := range someLines(source, 200) {
		calls := map[string]func(l impl.Line) impl.Line{
			"new":  func(l impl.Line) impl.Line { return impl.LineNew(l.Conf, l.Msgs) },
			"play": func(l impl.Line) impl.Line { return impl.LinePlay(l.Conf, l.Msgs, allSteps) },
			"calm": func(l impl.Line) impl.Line { return impl.LineCalm(l, 0) },
			"more": func(l impl.Line) impl.Line { return impl.LineCalm(l, 3) },
		}
		for _, step := range append([]int{0}, allSteps...) {
			calls["step "+strconv.Itoa(step)] = func(l impl.Line) impl.Line { after, _ := impl.LineDo(l, step); return after }
		}
		for name, call := range calls {
			l := x
			l.Msgs, l.Got, l.To, l.Back = roomy(x.Msgs), roomy(x.Got), roomy(x.To), roomy(x.Back)
			before := lineText(l)
			for i := range 4 {
				after := call(l)
				want := [4][]string{slices.Clone(after.Msgs), slices.Clone(after.Got), slices.Clone(after.To), slices.Clone(after.Back)}
				lists := [4][]string{after.Msgs, after.Got, after.To, after.Back}
				spoil(lists[i])
				for k := range lists {
					if k != i && !slices.Equal(lists[k], want[k]) {
						t.Fatalf("%s of %s: lists share memory", name, before)
					}
				}
			}
			same(t, "the argument behind "+name, lineText(l), before)
			for _, list := range [][]string{l.Msgs, l.Got, l.To, l.Back} {
				same(t, "the spare capacity behind "+name, strings.Join(list[len(list):cap(list)], " "), "mark mark mark")
			}
		}
	}
}
