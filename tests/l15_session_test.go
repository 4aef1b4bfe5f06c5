package tests

import (
	"fmt"
	"math"
	"math/rand"
	"slices"
	"strconv"
	"strings"
	"sync"
	"testing"

	"loop.example/g00324/impl"
)

// It has just these fields, in this order: else this would not build.
var _ = struct {
	In   string
	Out  string
	On   bool
	Over bool
	Box  int
	View []int
}(impl.Session{})

// answered is what Answer tells and does.
type answered struct {
	now   impl.Session
	yes   string
	no    string
	calls []impl.Call
}

// looking is a session that is On, with something in In and Out, which no word may change.
func looking(box int, view ...int) impl.Session {
	return impl.Session{In: "in", Out: "out", On: true, Box: box, View: view}
}

func likeSessions(a, b impl.Session) bool {
	return a.In == b.In && a.Out == b.Out && a.On == b.On && a.Over == b.Over && a.Box == b.Box && slices.Equal(a.View, b.View)
}

func copySession(x impl.Session) impl.Session {
	x.View = slices.Clone(x.View)
	return x
}

// withFieldOf has a session another way.
func withFieldOf(x impl.Session, change func(x *impl.Session)) impl.Session {
	x = copySession(x)
	change(&x)
	return x
}

func likeAnswers(a, b answered) bool {
	return likeSessions(a.now, b.now) && a.yes == b.yes && a.no == b.no && slices.Equal(a.calls, b.calls)
}

func answerOf(x impl.Session, s impl.Store, gid int, list []impl.Token) answered {
	now, yes, no, calls := impl.Answer(x, s, gid, list)
	return answered{now, yes, no, calls}
}

func viewOf(b impl.Box) []int {
	var view []int
	for _, m := range b.Mails {
		view = append(view, m.Gid)
	}
	return view
}

// toldByWords has a list at hand out of which each one that is told is taken at once.
func toldByWords(x impl.Session, s impl.Store) (impl.Session, string) {
	if x.Box == 0 {
		return x, ""
	}
	at := boxAtByWords(s, x.Box)
	if at < 0 {
		return withFieldOf(x, func(x *impl.Session) { x.Box, x.View = 0, nil }), "* BYE box\r\n"
	}
	said, counted, there := "", slices.Clone(x.View), viewOf(s.Boxes[at])
	for i := 0; i < len(counted); {
		if slices.Contains(there, counted[i]) {
			i++
		} else {
			said += fmt.Sprintf("* %d EXPUNGE\r\n", i+1)
			counted = slices.Delete(counted, i, i+1)
		}
	}
	for _, gid := range there {
		if !slices.Contains(x.View, gid) {
			said += fmt.Sprintf("* %d EXISTS\r\n", len(there))
			break
		}
	}
	return withFieldOf(x, func(x *impl.Session) { x.View = there }), said
}

func flagsByBits(list []impl.Reg) int {
	n := 0
	for i, r := range list {
		if i < 3 && r.Val&1 == 1 {
			n += 1 << i
		}
	}
	return n
}

func tellsText(text string) string {
	plain := len(text) <= 60
	for i := range len(text) {
		plain = plain && text[i] >= 32 && text[i] <= 126
	}
	if !plain {
		return countedOf(text)
	}
	return `"` + strings.NewReplacer(`"`, `\"`, `\`, `\\`).Replace(text) + `"`
}

func tellsName(name string) string {
	text := tellsText(name)
	if text[0] == '{' {
		return ""
	}
	return text
}

// sayingWords is a word with what is behind it, as answerByWords asks for it.
type sayingWords struct {
	word   string
	behind int
}

// answerByWords goes through the words in the order of the document.
func answerByWords(x impl.Session, s impl.Store, gid int, list []impl.Token) answered {
	if len(list) < 2 || list[0].Kind != 1 || list[1].Kind != 1 {
		return answered{x, "* BAD\r\n", "", nil}
	}
	tag := list[0].Text
	out := answered{x, tag + " BAD\r\n", tag + " NO\r\n", nil}
	form := sayingWords{list[1].Text, len(list) - 2}
	switch form {
	case sayingWords{"LOGIN", 2}:
		out.now.On = true
		out.yes = tag + " OK\r\n"
	case sayingWords{"NOOP", 0}:
		now, news := toldByWords(x, s)
		out.now, out.yes = now, news+tag+" OK\r\n"
	case sayingWords{"LOGOUT", 0}:
		out.now.Over = true
		out.yes = "* BYE\r\n" + tag + " OK\r\n"
	default:
		if x.On {
			out = onByWords(out, s, gid, form, list)
		}
	}
	return out
}

func onByWords(out answered, s impl.Store, gid int, form sayingWords, list []impl.Token) answered {
	ok, name, text := list[0].Text+" OK\r\n", "", ""
	if form.behind > 0 {
		name = list[2].Text
	}
	if form.behind > 1 {
		text = list[3].Text
	}
	switch form {
	case sayingWords{"LIST", 0}:
		out.yes = ""
		for _, b := range s.Boxes {
			out.yes += "* LIST " + tellsName(b.Name) + "\r\n"
		}
		out.yes += ok
	case sayingWords{"CREATE", 1}:
		out.yes, out.calls = ok, []impl.Call{callOf(1, gid, 0, 0, name)}
	case sayingWords{"DELETE", 1}, sayingWords{"RENAME", 2}, sayingWords{"SELECT", 1}, sayingWords{"STATUS", 1}, sayingWords{"APPEND", 2}:
		at := boxNamedByWords(s, name)
		if at < 0 {
			out.yes = out.no
			if form.word == "SELECT" {
				out.now.Box, out.now.View = 0, nil
			}
			return out
		}
		return boxByWordsOf(out, s.Boxes[at], gid, form.word, ok, text)
	default:
		if out.now.Box != 0 {
			return viewByWords(out, s, form, ok, name, text)
		}
	}
	return out
}

func boxByWordsOf(out answered, b impl.Box, gid int, word, ok, text string) answered {
	out.yes = ok
	switch word {
	case "DELETE":
		out.calls = []impl.Call{callOf(3, b.Gid, 0, 0, "")}
	case "RENAME":
		out.calls = []impl.Call{callOf(2, b.Gid, 0, 0, text)}
	case "APPEND":
		out.calls = []impl.Call{callOf(4, b.Gid, gid, 0, text)}
	case "STATUS":
		out.yes = fmt.Sprintf("* STATUS %s %d %d\r\n", tellsName(b.Name), len(b.Mails), b.Next) + ok
	case "SELECT":
		out.now.Box, out.now.View = b.Gid, viewOf(b)
		out.yes = fmt.Sprintf("* %d EXISTS\r\n* OK NEXT %d\r\n", len(b.Mails), b.Next) + ok
	}
	return out
}

// viewByWords goes through all of the View, and asks of each place whether it is picked.
func viewByWords(out answered, s impl.Store, form sayingWords, ok, set, n string) answered {
	var b impl.Box
	if at := boxAtByWords(s, out.now.Box); at >= 0 {
		b = s.Boxes[at]
	}
	ranges, isSet := setByWords(set)
	figure := strings.Index("01234567", n)
	before := out.now
	picked := pickedByWords(ranges, len(before.View))
	switch {
	case form == sayingWords{"FETCH", 1} && isSet:
		out.now, out.yes = toldByWords(before, s)
	case form == sayingWords{"STORE", 2} && isSet && len(n) == 1 && figure >= 0, form == sayingWords{"EXPUNGE", 0}:
		out.yes = ""
	default:
		return out
	}
	for i, gid := range before.View {
		at := placeByWords(b, gid)
		if at < 0 {
			continue
		}
		m := b.Mails[at]
		switch {
		case form.word == "EXPUNGE" && flagsByBits(m.Flags) >= 4:
			out.calls = append(out.calls, callOf(6, before.Box, gid, 0, ""))
		case form.word == "STORE" && slices.Contains(picked, i+1):
			out.calls = append(out.calls, callOf(5, before.Box, gid, figure, ""))
		case form.word == "FETCH" && slices.Contains(picked, i+1):
			out.yes += fmt.Sprintf("* %d FETCH %d %d %s\r\n", i+1, m.Uid, flagsByBits(m.Flags), tellsText(m.Text))
		}
	}
	out.yes += ok
	return out
}

// tokensOf reads a line that is all there.
func tokensOf(t *testing.T, line string) []impl.Token {
	t.Helper()
	list, rest, code := impl.ReadTokens(line + "\r\n")
	if code != 0 || rest != "" {
		t.Fatalf("%q is no line: %d, %q", line, code, rest)
	}
	return list
}

// answersLine holds all that is answered to a line with the tag `a` against what is written out; lines stand without 13 and 10.
func answersLine(t *testing.T, x impl.Session, s impl.Store, line string, now impl.Session, lines []string, calls ...impl.Call) {
	t.Helper()
	want := answered{now, strings.Join(lines, "\r\n") + "\r\n", "a NO\r\n", calls}
	if got := answerOf(x, s, 900, tokensOf(t, "a "+line)); !likeAnswers(got, want) {
		t.Errorf("%q to %+v:\n%+v, not\n%+v", line, x, got, want)
	}
}

func asAnsweredByWords(t *testing.T, x impl.Session, s impl.Store, gid int, list []impl.Token) answered {
	t.Helper()
	got, want := answerOf(x, s, gid, list), answerByWords(x, s, gid, list)
	if !likeAnswers(got, want) {
		t.Fatalf("%+v to %+v of %s:\n%+v, not\n%+v", list, x, brief(s), got, want)
	}
	return got
}

func asToldByWords(t *testing.T, x impl.Session, s impl.Store) (impl.Session, string) {
	t.Helper()
	now, told := impl.Told(x, s)
	wantNow, want := toldByWords(x, s)
	if !likeSessions(now, wantNow) || told != want {
		t.Fatalf("Told(%+v) of %s = %+v, %q, not %+v, %q", x, brief(s), now, told, wantNow, want)
	}
	return now, told
}

func toldLines(t *testing.T, x impl.Session, s impl.Store, now impl.Session, lines ...string) {
	t.Helper()
	want := strings.Join(append(lines, ""), "\r\n")
	if got, said := impl.Told(x, s); said != want || !likeSessions(got, now) {
		t.Errorf("Told(%+v) of %s = %+v, %q, not %+v, %q", x, brief(s), got, said, now, want)
	}
}

// postStore: box 5 has five mails, of the Uids 1 .. 5, with flags 0, 4, 1, 7 and 3; box 6 has one; box 9 has none.
func postStore(t *testing.T) impl.Store {
	t.Helper()
	return behind(t, impl.StoreNew(1), postCalls()...)
}

func postCalls() []storeCall {
	return []storeCall{
		makes(5, "inbox"), makes(9, "empty"), makes(6, "work"), puts(5, 40), puts(5, 20), puts(5, 70), puts(6, 60), puts(5, 10), puts(5, 30),
		marks(5, 20, 4), marks(5, 70, 1), marks(5, 10, 7), marks(5, 30, 3),
	}
}

// without is the store once these of box 5 are taken out.
func without(t *testing.T, s impl.Store, gids ...int) impl.Store {
	t.Helper()
	for _, gid := range gids {
		s = behind(t, s, takes(5, gid))
	}
	return s
}

// allOf is the View of a session that looked at box 5 of postStore.
func allOf() impl.Session {
	return looking(5, 40, 20, 70, 10, 30)
}

// counting is one who has nothing but what is told: of each mail there is, one that it knows (its Gid), or 0.
type counting struct {
	mails []int
}

// hears goes by the numbers that it is told, line by line.
func (c *counting) hears(t *testing.T, said string) {
	t.Helper()
	if strings.Contains(said, "* OK NEXT ") || strings.Contains(said, "* BYE box\r\n") || strings.HasSuffix(said, "tSELECT NO\r\n") {
		c.mails = nil
	}
	for _, line := range strings.SplitAfter(said, "\r\n") {
		parts := strings.Fields(line)
		if len(parts) != 3 || parts[0] != "*" {
			continue
		}
		n, _ := strconv.Atoi(parts[1])
		switch parts[2] {
		case "EXPUNGE":
			if n < 1 || n > len(c.mails) {
				t.Fatalf("%q: %d was told of %d", said, n, len(c.mails))
			}
			c.mails = slices.Delete(c.mails, n-1, n)
		case "EXISTS":
			if n < len(c.mails) {
				t.Fatalf("%q: %d there, of %d that stay", said, n, len(c.mails))
			}
			c.mails = append(c.mails, make([]int, n-len(c.mails))...)
		}
	}
}

// countsAs holds what it counts against a View, and learns what it does not know yet.
func (c *counting) countsAs(t *testing.T, view []int) {
	t.Helper()
	if len(c.mails) != len(view) {
		t.Fatalf("it counts %v of %v", c.mails, view)
	}
	for i, gid := range view {
		if c.mails[i] != 0 && c.mails[i] != gid {
			t.Fatalf("number %d is %d to it, and %d", i+1, c.mails[i], gid)
		}
		c.mails[i] = gid
	}
}

func TestSessionNew(t *testing.T) {
	if x := impl.SessionNew(); !likeSessions(x, impl.Session{Out: "* OK\r\n"}) {
		t.Errorf("%+v", x)
	}
}

func TestToldWithoutBox(t *testing.T) {
	for _, x := range []impl.Session{{}, impl.SessionNew(), looking(0), looking(0, 40, 20), {In: "in", Over: true, View: []int{1}}} {
		for _, s := range []impl.Store{postStore(t), {}, storeOf(1, 0, []impl.Box{{Gid: 0, Mails: mailsFrom(1, 2)}}, nil)} {
			toldLines(t, x, s, x)
		}
	}
}

func TestToldOfABoxThatIsGone(t *testing.T) {
	s := postStore(t)
	for _, box := range []int{1, 4, 7, 10, 40, 9999, -5, math.MinInt, math.MaxInt} {
		toldLines(t, looking(box, 40, 20), s, looking(0), "* BYE box")
		toldLines(t, looking(box), s, looking(0), "* BYE box")
	}
	toldLines(t, allOf(), behind(t, s, drops(5)), looking(0), "* BYE box")
	toldLines(t, allOf(), impl.StoreNew(1), looking(0), "* BYE box")
	toldLines(t, allOf(), impl.Store{}, looking(0), "* BYE box")
	toldLines(t, looking(9), behind(t, s, drops(9)), looking(0), "* BYE box")
	now, _ := impl.Told(allOf(), behind(t, s, drops(5)))
	toldLines(t, now, behind(t, s, drops(5)), looking(0))
	// A box that has its Name is another one, and one that has another Name is the same.
	toldLines(t, allOf(), behind(t, s, drops(5), makes(8, "inbox")), looking(0), "* BYE box")
	toldLines(t, allOf(), behind(t, s, renames(5, "other")), allOf())
	toldLines(t, impl.Session{Box: 5, Over: true, View: []int{40}}, impl.StoreNew(2), impl.Session{Over: true}, "* BYE box")
}

// TestToldOfMailsThatAreGone: each has the number that it has once those ahead of it are told.
func TestToldOfMailsThatAreGone(t *testing.T) {
	s := postStore(t)
	toldLines(t, allOf(), s, allOf())
	toldLines(t, allOf(), without(t, s, 40), looking(5, 20, 70, 10, 30), "* 1 EXPUNGE")
	toldLines(t, allOf(), without(t, s, 20), looking(5, 40, 70, 10, 30), "* 2 EXPUNGE")
	toldLines(t, allOf(), without(t, s, 70), looking(5, 40, 20, 10, 30), "* 3 EXPUNGE")
	toldLines(t, allOf(), without(t, s, 30), looking(5, 40, 20, 70, 10), "* 5 EXPUNGE")
	toldLines(t, allOf(), without(t, s, 40, 20), looking(5, 70, 10, 30), "* 1 EXPUNGE", "* 1 EXPUNGE")
	toldLines(t, allOf(), without(t, s, 20, 40), looking(5, 70, 10, 30), "* 1 EXPUNGE", "* 1 EXPUNGE")
	toldLines(t, allOf(), without(t, s, 20, 70), looking(5, 40, 10, 30), "* 2 EXPUNGE", "* 2 EXPUNGE")
	toldLines(t, allOf(), without(t, s, 10, 30), looking(5, 40, 20, 70), "* 4 EXPUNGE", "* 4 EXPUNGE")
	toldLines(t, allOf(), without(t, s, 40, 70, 30), looking(5, 20, 10), "* 1 EXPUNGE", "* 2 EXPUNGE", "* 3 EXPUNGE")
	toldLines(t, allOf(), without(t, s, 20, 10), looking(5, 40, 70, 30), "* 2 EXPUNGE", "* 3 EXPUNGE")
	toldLines(t, allOf(), without(t, s, 40, 30), looking(5, 20, 70, 10), "* 1 EXPUNGE", "* 4 EXPUNGE")
	toldLines(t, allOf(), without(t, s, 40, 20, 70, 10, 30), looking(5), "* 1 EXPUNGE", "* 1 EXPUNGE", "* 1 EXPUNGE", "* 1 EXPUNGE", "* 1 EXPUNGE")
	toldLines(t, looking(5, 70), without(t, s, 40, 20, 70, 10, 30), looking(5), "* 1 EXPUNGE")
	// A mail of another box is not in this one.
	toldLines(t, looking(6, 60, 40), s, looking(6, 60), "* 2 EXPUNGE")
}

func TestToldOfMailsThatCameIn(t *testing.T) {
	s := postStore(t)
	toldLines(t, allOf(), behind(t, s, puts(5, 80)), looking(5, 40, 20, 70, 10, 30, 80), "* 6 EXISTS")
	toldLines(t, allOf(), behind(t, s, puts(5, 80), puts(5, 81)), looking(5, 40, 20, 70, 10, 30, 80, 81), "* 7 EXISTS")
	toldLines(t, looking(9), behind(t, s, puts(9, 80)), looking(9, 80), "* 1 EXISTS")
	toldLines(t, looking(5), s, allOf(), "* 5 EXISTS")
	toldLines(t, looking(5, 70), s, allOf(), "* 5 EXISTS")
	toldLines(t, allOf(), behind(t, s, puts(6, 80), puts(9, 81)), allOf())
	toldLines(t, allOf(), behind(t, s, puts(5, 80), takes(5, 80)), allOf())
	// Both at once: those that are gone come first, and how many there are is told without them.
	toldLines(t, allOf(), behind(t, s, takes(5, 40), puts(5, 80)), looking(5, 20, 70, 10, 30, 80), "* 1 EXPUNGE", "* 5 EXISTS")
	toldLines(t, allOf(), behind(t, s, puts(5, 80), takes(5, 30), takes(5, 20)), looking(5, 40, 70, 10, 80), "* 2 EXPUNGE", "* 4 EXPUNGE", "* 4 EXISTS")
	toldLines(t, allOf(), behind(t, without(t, s, 40, 20, 70, 10, 30), puts(5, 80)), looking(5, 80), "* 1 EXPUNGE", "* 1 EXPUNGE", "* 1 EXPUNGE", "* 1 EXPUNGE", "* 1 EXPUNGE", "* 1 EXISTS")
	toldLines(t, looking(5, 1, 2), s, allOf(), "* 1 EXPUNGE", "* 1 EXPUNGE", "* 5 EXISTS")
	// Flags and names are no news.
	toldLines(t, allOf(), behind(t, s, marks(5, 40, 7), renames(5, "other")), allOf())
}

// TestToldOfAnotherOrder: a View that has just the box's mails hears nothing, and has the box's order then.
func TestToldOfAnotherOrder(t *testing.T) {
	s := postStore(t)
	toldLines(t, looking(5, 30, 10, 70, 20, 40), s, allOf())
	toldLines(t, looking(5, 30, 99, 10, 70, 20, 40), s, allOf(), "* 2 EXPUNGE")
	toldLines(t, looking(5, 30, 40), s, allOf(), "* 5 EXISTS")
	// A View that has a Gid twice counts it twice.
	toldLines(t, looking(5, 40, 40, 20, 70, 10, 30), s, allOf())
	toldLines(t, looking(5, 99, 40, 99, 20, 99), s, allOf(), "* 1 EXPUNGE", "* 2 EXPUNGE", "* 3 EXPUNGE", "* 5 EXISTS")
	// Two servers had a mail each of one number: the numbers are given anew.
	p := wentApart(t, []storeCall{puts(5, 80)}, []storeCall{puts(5, 70)})
	x := looking(5, viewOf(p.a.Boxes[0])...)
	toldLines(t, x, impl.JoinStore(p.a, p.b), looking(5, viewOf(impl.JoinStore(p.a, p.b).Boxes[0])...), "* 4 EXISTS")
}

// TestToldEveryMailGone: of six mails each choice is gone, and up to three came in: one who counts comes to the View, and the second time there is no news.
func TestToldEveryMailGone(t *testing.T) {
	s := behind(t, impl.StoreNew(1), makes(5, "inbox"))
	for gid := range 6 {
		s = behind(t, s, puts(5, 90-gid))
	}
	x := looking(5, viewOf(s.Boxes[0])...)
	for choice := range 64 {
		for came := range 4 {
			now := s
			for i, gid := range x.View {
				if choice>>i&1 == 1 {
					now = behind(t, now, takes(5, gid))
				}
			}
			for i := range came {
				now = behind(t, now, puts(5, 200-i))
			}
			one := counting{slices.Clone(x.View)}
			y, said := asToldByWords(t, x, now)
			one.hears(t, said)
			one.countsAs(t, y.View)
			if !slices.Equal(y.View, viewOf(now.Boxes[0])) {
				t.Fatalf("%v is not what there is", y.View)
			}
			toldLines(t, y, now, y)
		}
	}
}

func TestAnswerLogin(t *testing.T) {
	s := postStore(t)
	off := impl.Session{In: "in", Out: "out"}
	for _, line := range []string{"LOGIN ann x", `LOGIN "ann" "x y"`, "LOGIN {0}\r\n {3}\r\n\x00\xff\r", `LOGIN "" ""`, "LOGIN LOGIN LOGIN"} {
		answersLine(t, off, s, line, looking(0), []string{"a OK"})
		answersLine(t, allOf(), s, line, allOf(), []string{"a OK"})
	}
}

func TestAnswerNoop(t *testing.T) {
	s := postStore(t)
	for _, on := range []bool{false, true} {
		set := func(x impl.Session) impl.Session {
			return withFieldOf(x, func(x *impl.Session) { x.On = on })
		}
		answersLine(t, set(looking(0)), s, "NOOP", set(looking(0)), []string{"a OK"})
		answersLine(t, set(allOf()), s, "NOOP", set(allOf()), []string{"a OK"})
		answersLine(t, set(allOf()), behind(t, without(t, s, 20, 30), puts(5, 80)), "NOOP", set(looking(5, 40, 70, 10, 80)), []string{"* 2 EXPUNGE", "* 4 EXPUNGE", "* 4 EXISTS", "a OK"})
		answersLine(t, set(allOf()), behind(t, s, drops(5)), "NOOP", set(looking(0)), []string{"* BYE box", "a OK"})
	}
}

func TestAnswerLogout(t *testing.T) {
	s := postStore(t)
	over := func(x *impl.Session) { x.Over = true }
	for _, x := range []impl.Session{{}, {In: "in", Out: "out"}, looking(0), allOf(), withFieldOf(allOf(), over)} {
		answersLine(t, x, s, "LOGOUT", withFieldOf(x, over), []string{"* BYE", "a OK"})
		answersLine(t, x, without(t, s, 40), "LOGOUT", withFieldOf(x, over), []string{"* BYE", "a OK"})
	}
}

// TestAnswerWhenOver: that it is Over counts for what is fed, no word asks for it.
func TestAnswerWhenOver(t *testing.T) {
	s := postStore(t)
	x := withFieldOf(allOf(), func(x *impl.Session) { x.Over = true })
	answersLine(t, x, s, "NOOP", x, []string{"a OK"})
	answersLine(t, x, s, "LOGIN a b", x, []string{"a OK"})
	answersLine(t, x, s, "STATUS work", x, []string{`* STATUS "work" 1 2`, "a OK"})
	answersLine(t, x, s, "STORE 1 2", x, []string{"a OK"}, callOf(5, 5, 40, 2, ""))
	answersLine(t, x, s, "list", x, []string{"a BAD"})
	answersLine(t, impl.Session{Over: true}, s, "LIST", impl.Session{Over: true}, []string{"a BAD"})
}

func TestAnswerList(t *testing.T) {
	s := postStore(t)
	for _, x := range []impl.Session{looking(0), allOf(), looking(77, 1)} {
		answersLine(t, x, s, "LIST", x, []string{`* LIST "inbox"`, `* LIST "work"`, `* LIST "empty"`, "a OK"})
		answersLine(t, x, behind(t, s, drops(5), renames(6, "w2")), "LIST", x, []string{`* LIST "w2"`, `* LIST "empty"`, "a OK"})
		answersLine(t, x, impl.StoreNew(1), "LIST", x, []string{"a OK"})
		answersLine(t, x, storeOf(0, 0, namedBoxes(`a"b`, `\`, "", "\n", strings.Repeat("a", 61)), nil), "LIST", x, []string{`* LIST "a\"b"`, `* LIST "\\"`, `* LIST ""`, "* LIST ", "* LIST ", "a OK"})
	}
}

func TestAnswerCreate(t *testing.T) {
	s := postStore(t)
	for _, x := range []impl.Session{looking(0), allOf()} {
		answersLine(t, x, s, "CREATE new", x, []string{"a OK"}, callOf(1, 900, 0, 0, "new"))
		answersLine(t, x, s, `CREATE "new"`, x, []string{"a OK"}, callOf(1, 900, 0, 0, "new"))
		answersLine(t, x, s, "CREATE {3}\r\nn\x00w", x, []string{"a OK"}, callOf(1, 900, 0, 0, "n\x00w"))
		// That no such box can be made is found when the call is done.
		answersLine(t, x, s, "CREATE inbox", x, []string{"a OK"}, callOf(1, 900, 0, 0, "inbox"))
		answersLine(t, x, s, `CREATE ""`, x, []string{"a OK"}, callOf(1, 900, 0, 0, ""))
	}
	for _, gid := range []int{0, -1, 5, 40, 9999, 10000, math.MinInt, math.MaxInt} {
		got := answerOf(looking(0), s, gid, tokensOf(t, "a CREATE new"))
		if want := (answered{looking(0), "a OK\r\n", "a NO\r\n", []impl.Call{callOf(1, gid, 0, 0, "new")}}); !likeAnswers(got, want) {
			t.Errorf("%+v", got)
		}
		got = answerOf(looking(0), s, gid, tokensOf(t, "a APPEND work text"))
		if want := (answered{looking(0), "a OK\r\n", "a NO\r\n", []impl.Call{callOf(4, 6, gid, 0, "text")}}); !likeAnswers(got, want) {
			t.Errorf("%+v", got)
		}
	}
}

func TestAnswerDeleteAndRename(t *testing.T) {
	s := postStore(t)
	for _, x := range []impl.Session{looking(0), allOf(), looking(6, 60)} {
		answersLine(t, x, s, "DELETE work", x, []string{"a OK"}, callOf(3, 6, 0, 0, ""))
		answersLine(t, x, s, `DELETE "empty"`, x, []string{"a OK"}, callOf(3, 9, 0, 0, ""))
		answersLine(t, x, s, "DELETE {5}\r\ninbox", x, []string{"a OK"}, callOf(3, 5, 0, 0, ""))
		answersLine(t, x, s, "RENAME work play", x, []string{"a OK"}, callOf(2, 6, 0, 0, "play"))
		answersLine(t, x, s, `RENAME "inbox" {2}`+"\r\n\xff\x00", x, []string{"a OK"}, callOf(2, 5, 0, 0, "\xff\x00"))
		answersLine(t, x, s, "RENAME work inbox", x, []string{"a OK"}, callOf(2, 6, 0, 0, "inbox"))
		for _, name := range []string{"none", `""`, "Work", "wor", "works", "WORK", "6", "{5}\r\nwork\x00"} {
			answersLine(t, x, s, "DELETE "+name, x, []string{"a NO"})
			answersLine(t, x, s, "RENAME "+name+" play", x, []string{"a NO"})
			answersLine(t, x, s, "RENAME "+name+" work", x, []string{"a NO"})
		}
		answersLine(t, x, behind(t, s, renames(6, "play")), "DELETE work", x, []string{"a NO"})
		answersLine(t, x, behind(t, s, renames(6, "play")), "DELETE play", x, []string{"a OK"}, callOf(3, 6, 0, 0, ""))
		answersLine(t, x, impl.StoreNew(1), "DELETE work", x, []string{"a NO"})
	}
}

func TestAnswerSelect(t *testing.T) {
	s := postStore(t)
	for _, x := range []impl.Session{looking(0), allOf(), looking(6, 60), looking(77, 1, 2), looking(5, 40)} {
		answersLine(t, x, s, "SELECT inbox", allOf(), []string{"* 5 EXISTS", "* OK NEXT 6", "a OK"})
		answersLine(t, x, s, `SELECT "work"`, looking(6, 60), []string{"* 1 EXISTS", "* OK NEXT 2", "a OK"})
		answersLine(t, x, s, "SELECT {5}\r\nempty", looking(9), []string{"* 0 EXISTS", "* OK NEXT 1", "a OK"})
		answersLine(t, x, without(t, s, 30, 40), "SELECT inbox", looking(5, 20, 70, 10), []string{"* 3 EXISTS", "* OK NEXT 6", "a OK"})
		answersLine(t, x, without(t, s, 40, 20, 70, 10, 30), "SELECT inbox", looking(5), []string{"* 0 EXISTS", "* OK NEXT 6", "a OK"})
		for _, name := range []string{"none", `""`, "Inbox", "inbo", "5"} {
			answersLine(t, x, s, "SELECT "+name, looking(0), []string{"a NO"})
		}
		answersLine(t, x, behind(t, s, drops(5)), "SELECT inbox", looking(0), []string{"a NO"})
		answersLine(t, x, impl.StoreNew(1), "SELECT inbox", looking(0), []string{"a NO"})
		answersLine(t, x, s, "SELECT", x, []string{"a BAD"})
		answersLine(t, x, s, "SELECT none none", x, []string{"a BAD"})
	}
}

func TestAnswerStatusAndAppend(t *testing.T) {
	s := postStore(t)
	for _, x := range []impl.Session{looking(0), allOf(), looking(6)} {
		answersLine(t, x, s, "STATUS inbox", x, []string{`* STATUS "inbox" 5 6`, "a OK"})
		answersLine(t, x, s, `STATUS "work"`, x, []string{`* STATUS "work" 1 2`, "a OK"})
		answersLine(t, x, s, "STATUS {5}\r\nempty", x, []string{`* STATUS "empty" 0 1`, "a OK"})
		answersLine(t, x, without(t, s, 40, 10), "STATUS inbox", x, []string{`* STATUS "inbox" 3 6`, "a OK"})
		answersLine(t, x, s, "APPEND work text", x, []string{"a OK"}, callOf(4, 6, 900, 0, "text"))
		answersLine(t, x, s, `APPEND "empty" "a \"text\""`, x, []string{"a OK"}, callOf(4, 9, 900, 0, `a "text"`))
		answersLine(t, x, s, "APPEND inbox {0}\r\n", x, []string{"a OK"}, callOf(4, 5, 900, 0, ""))
		answersLine(t, x, s, "APPEND {4}\r\nwork {60}\r\n"+strings.Repeat("\r\n\xff", 20), x, []string{"a OK"}, callOf(4, 6, 900, 0, strings.Repeat("\r\n\xff", 20)))
		for _, name := range []string{"none", `""`, "Inbox", "inbo", "5"} {
			answersLine(t, x, s, "STATUS "+name, x, []string{"a NO"})
			answersLine(t, x, s, "APPEND "+name+" text", x, []string{"a NO"})
			answersLine(t, x, impl.StoreNew(1), "STATUS "+name, x, []string{"a NO"})
		}
		answersLine(t, x, impl.StoreNew(1), "STATUS inbox", x, []string{"a NO"})
		answersLine(t, x, impl.StoreNew(1), "APPEND inbox text", x, []string{"a NO"})
	}
	wrong := storeOf(0, 0, []impl.Box{{Gid: 3, Name: `a"`, Next: -7, Mails: mailsFrom(1, 30)}, {Gid: 4, Name: `a"`}}, nil)
	answersLine(t, looking(0), wrong, `STATUS "a\""`, looking(0), []string{`* STATUS "a\"" 30 -7`, "a OK"})
	answersLine(t, looking(0), wrong, `APPEND "a\"" b`, looking(0), []string{"a OK"}, callOf(4, 3, 900, 0, "b"))
}

// fetched are the lines of box 5 of postStore, by their numbers in a View of all.
func fetched(numbers ...int) []string {
	all := []string{`* 1 FETCH 1 0 "40"`, `* 2 FETCH 2 4 "20"`, `* 3 FETCH 3 1 "70"`, `* 4 FETCH 4 7 "10"`, `* 5 FETCH 5 3 "30"`}
	var lines []string
	for _, n := range numbers {
		lines = append(lines, all[n-1])
	}
	return lines
}

func TestAnswerFetch(t *testing.T) {
	s := postStore(t)
	for _, c := range []struct {
		set     string
		numbers []int
	}{
		{"1", []int{1}}, {"2", []int{2}}, {"5", []int{5}}, {"6", nil}, {"9999", nil}, {"*", []int{5}}, {"*:*", []int{5}}, {"1:*", []int{1, 2, 3, 4, 5}}, {"*:1", []int{1, 2, 3, 4, 5}}, {"2:4", []int{2, 3, 4}}, {"4:2", []int{2, 3, 4}},
		{"5,3,1", []int{1, 3, 5}}, {"3,3,3", []int{3}}, {"1:3,*", []int{1, 2, 3, 5}}, {"6:9", nil}, {"7:*", []int{5}}, {"9999:4", []int{4, 5}}, {"003", []int{3}}, {"1,2,3,4,5,6,7,8", []int{1, 2, 3, 4, 5}},
	} {
		answersLine(t, allOf(), s, "FETCH "+c.set, allOf(), append(fetched(c.numbers...), "a OK"))
	}
	answersLine(t, looking(6, 60), s, "FETCH *", looking(6, 60), []string{`* 1 FETCH 1 0 "60"`, "a OK"})
	answersLine(t, looking(9), s, "FETCH 1:*", looking(9), []string{"a OK"})
	answersLine(t, looking(9), s, "FETCH *", looking(9), []string{"a OK"})
}

// TestAnswerFetchOfWhatIsGone: news come first, and then what was picked by the numbers from before them.
func TestAnswerFetchOfWhatIsGone(t *testing.T) {
	s := postStore(t)
	lines := func(news []string, numbers ...int) []string {
		return slices.Concat(news, fetched(numbers...), []string{"a OK"})
	}
	gone := without(t, s, 20)
	left := looking(5, 40, 70, 10, 30)
	two := []string{"* 2 EXPUNGE"}
	answersLine(t, allOf(), gone, "FETCH 1", left, lines(two, 1))
	answersLine(t, allOf(), gone, "FETCH 2", left, lines(two))
	answersLine(t, allOf(), gone, "FETCH 3", left, lines(two, 3))
	answersLine(t, allOf(), gone, "FETCH *", left, lines(two, 5))
	answersLine(t, allOf(), gone, "FETCH 5", left, lines(two, 5))
	answersLine(t, allOf(), gone, "FETCH 6", left, lines(two))
	answersLine(t, allOf(), gone, "FETCH 1:*", left, lines(two, 1, 3, 4, 5))
	answersLine(t, allOf(), without(t, s, 30), "FETCH *", looking(5, 40, 20, 70, 10), lines([]string{"* 5 EXPUNGE"}))
	answersLine(t, allOf(), without(t, s, 40), "FETCH 1,2", looking(5, 20, 70, 10, 30), lines([]string{"* 1 EXPUNGE"}, 2))
	answersLine(t, allOf(), without(t, s, 40, 70, 30), "FETCH 1:3", looking(5, 20, 10), lines([]string{"* 1 EXPUNGE", "* 2 EXPUNGE", "* 3 EXPUNGE"}, 2))
	answersLine(t, allOf(), without(t, s, 40, 20, 70, 10, 30), "FETCH 1:*", looking(5), lines(slices.Repeat([]string{"* 1 EXPUNGE"}, 5)))
	// What came in has no number yet.
	more := behind(t, s, puts(5, 80))
	answersLine(t, allOf(), more, "FETCH 4:*", looking(5, 40, 20, 70, 10, 30, 80), lines([]string{"* 6 EXISTS"}, 4, 5))
	answersLine(t, allOf(), more, "FETCH 6", looking(5, 40, 20, 70, 10, 30, 80), lines([]string{"* 6 EXISTS"}))
	answersLine(t, looking(5), s, "FETCH 1:*", allOf(), lines([]string{"* 5 EXISTS"}))
	answersLine(t, allOf(), behind(t, more, takes(5, 40)), "FETCH 1:2,*", looking(5, 20, 70, 10, 30, 80), lines([]string{"* 1 EXPUNGE", "* 5 EXISTS"}, 2, 5))
	// Behind the news the numbers are those of the new View.
	answersLine(t, left, gone, "FETCH 2,*", left, []string{`* 2 FETCH 3 1 "70"`, `* 4 FETCH 5 3 "30"`, "a OK"})
	for _, set := range []string{"1", "1:*", "*", "9"} {
		answersLine(t, allOf(), behind(t, s, drops(5)), "FETCH "+set, looking(0), []string{"* BYE box", "a OK"})
		answersLine(t, looking(77, 40), s, "FETCH "+set, looking(0), []string{"* BYE box", "a OK"})
	}
	// No news where it is not right.
	answersLine(t, allOf(), gone, "FETCH 0", allOf(), []string{"a BAD"})
	answersLine(t, allOf(), behind(t, s, drops(5)), "FETCH x", allOf(), []string{"a BAD"})
}

func TestAnswerFetchTexts(t *testing.T) {
	b := impl.Box{Gid: 5, Name: "inbox", Next: 30}
	texts := []string{"", "hi", " ", `"`, `\`, `a "b" \c`, "\r\n", "\x00", "\xff", "~\x7f", "é", strings.Repeat("a", 60), strings.Repeat(`"`, 60), strings.Repeat("a", 59) + "\n"}
	for i, text := range texts {
		b.Mails = append(b.Mails, mailOf(100+i, 2*i+1, flagsOf(i%8, stampOf(1, 1)), text))
	}
	s := storeOf(1, 5, []impl.Box{b}, nil)
	x := looking(5, viewOf(b)...)
	want := []string{
		`""`, `"hi"`, `" "`, `"\""`, `"\\"`, `"a \"b\" \\c"`, "{2}\r\n\r\n", "{1}\r\n\x00", "{1}\r\n\xff", "{2}\r\n~\x7f", "{2}\r\né",
		`"` + strings.Repeat("a", 60) + `"`, `"` + strings.Repeat(`\"`, 60) + `"`, "{60}\r\n" + strings.Repeat("a", 59) + "\n",
	}
	for i, text := range want {
		want[i] = fmt.Sprintf("* %d FETCH %d %d %s", i+1, 2*i+1, i%8, text)
		answersLine(t, x, s, fmt.Sprintf("FETCH %d", i+1), x, []string{want[i], "a OK"})
	}
	answersLine(t, x, s, "FETCH 1:*", x, append(want, "a OK"))
}

// TestAnswerFetchOfWrongStores: fields are told as they are, and no more than the first hundred of a View is picked.
func TestAnswerFetchOfWrongStores(t *testing.T) {
	long := strings.Repeat("x", 61)
	s := storeOf(7, -1, []impl.Box{{Gid: -5, Mails: []impl.Mail{mailOf(-1, -2, nil, long), mailOf(-1, 9, nil, "second"), mailOf(0, 0, []impl.Reg{{Val: 5}, {Val: -4}, {Val: -1}, {Val: 1}}, "")}}}, nil)
	x := looking(-5, -1, 0, 0)
	now := looking(-5, -1, -1, 0)
	answersLine(t, x, s, "FETCH 1:*", now, []string{"* 1 FETCH -2 0 {61}\r\n" + long, `* 2 FETCH 0 5 ""`, `* 3 FETCH 0 5 ""`, "a OK"})
	many := impl.Box{Gid: 5, Name: "inbox"}
	for i := range 130 {
		many.Mails = append(many.Mails, mailOf(1000+i, i, nil, ""))
	}
	s = storeOf(1, 1, []impl.Box{many}, nil)
	x = looking(5, viewOf(many)...)
	got := answerOf(x, s, 1, tokensOf(t, "a FETCH 98:*"))
	if want := "* 98 FETCH 97 0 \"\"\r\n* 99 FETCH 98 0 \"\"\r\n* 100 FETCH 99 0 \"\"\r\na OK\r\n"; got.yes != want {
		t.Errorf("%q", got.yes)
	}
	answersLine(t, x, s, "FETCH *", x, []string{"a OK"})
	for _, line := range []string{"a STORE 1:* 3", "a STORE *,101:9999 3", "a EXPUNGE"} {
		asAnsweredByWords(t, x, s, 1, tokensOf(t, line))
	}
}

func TestAnswerStore(t *testing.T) {
	s := postStore(t)
	marked := func(n int, gids ...int) []impl.Call {
		var calls []impl.Call
		for _, gid := range gids {
			calls = append(calls, callOf(5, 5, gid, n, ""))
		}
		return calls
	}
	ok := []string{"a OK"}
	for n := range 8 {
		answersLine(t, allOf(), s, fmt.Sprintf("STORE 2 %d", n), allOf(), ok, marked(n, 20)...)
	}
	answersLine(t, allOf(), s, "STORE 1:* 4", allOf(), ok, marked(4, 40, 20, 70, 10, 30)...)
	answersLine(t, allOf(), s, "STORE *,2 0", allOf(), ok, marked(0, 20, 30)...)
	answersLine(t, allOf(), s, "STORE 4:3,3 1", allOf(), ok, marked(1, 70, 10)...)
	answersLine(t, allOf(), s, "STORE 6:9 1", allOf(), ok)
	answersLine(t, looking(9), s, "STORE 1:* 1", looking(9), ok)
	answersLine(t, looking(6, 60), s, "STORE * 7", looking(6, 60), ok, callOf(5, 6, 60, 7, ""))
	// What is there no more is left out, and what came in has no number.
	gone := behind(t, without(t, s, 20, 30), puts(5, 80))
	answersLine(t, allOf(), gone, "STORE 1:* 4", allOf(), ok, marked(4, 40, 70, 10)...)
	answersLine(t, allOf(), gone, "STORE 2 4", allOf(), ok)
	answersLine(t, allOf(), gone, "STORE 3 4", allOf(), ok, marked(4, 70)...)
	answersLine(t, allOf(), gone, "STORE * 4", allOf(), ok)
	answersLine(t, allOf(), gone, "STORE 6 4", allOf(), ok)
	answersLine(t, allOf(), without(t, s, 40, 20, 70, 10, 30), "STORE 1:* 4", allOf(), ok)
	answersLine(t, allOf(), behind(t, s, drops(5)), "STORE 1:* 4", allOf(), ok)
	answersLine(t, looking(77, 40), s, "STORE 1:* 4", looking(77, 40), ok)
	answersLine(t, looking(6, 60, 40), s, "STORE 1:* 4", looking(6, 60, 40), ok, callOf(5, 6, 60, 4, ""))
	for _, n := range []string{"8", "9", "10", "00", "01", "07", "77", "-1", "+1", "x", "*", "1.", "1,2", `""`, `" 1"`, `"1 "`, "{2}\r\n1\x00", "\"/\"", ":", "{1}\r\n\xb1", "{3}\r\n\xef\xbc\x91"} {
		for _, set := range []string{"1", "1:*", "9", "x"} {
			answersLine(t, allOf(), s, "STORE "+set+" "+n, allOf(), []string{"a BAD"})
		}
	}
}

func TestAnswerExpunge(t *testing.T) {
	s := postStore(t)
	ok := []string{"a OK"}
	answersLine(t, allOf(), s, "EXPUNGE", allOf(), ok, callOf(6, 5, 20, 0, ""), callOf(6, 5, 10, 0, ""))
	for n := range 8 {
		var calls []impl.Call
		if n >= 4 {
			calls = append(calls, callOf(6, 6, 60, 0, ""))
		}
		now := s
		if n > 0 {
			now = behind(t, s, marks(6, 60, n))
		}
		answersLine(t, looking(6, 60), now, "EXPUNGE", looking(6, 60), ok, calls...)
	}
	answersLine(t, looking(9), s, "EXPUNGE", looking(9), ok)
	answersLine(t, allOf(), without(t, s, 20), "EXPUNGE", allOf(), ok, callOf(6, 5, 10, 0, ""))
	answersLine(t, allOf(), without(t, s, 40, 10), "EXPUNGE", allOf(), ok, callOf(6, 5, 20, 0, ""))
	answersLine(t, allOf(), without(t, s, 20, 10), "EXPUNGE", allOf(), ok)
	answersLine(t, allOf(), behind(t, s, drops(5)), "EXPUNGE", allOf(), ok)
	answersLine(t, looking(77, 20), s, "EXPUNGE", looking(77, 20), ok)
	// One that the View does not have, or that is of another box, is not taken out.
	answersLine(t, looking(5, 10), s, "EXPUNGE", looking(5, 10), ok, callOf(6, 5, 10, 0, ""))
	answersLine(t, looking(5), s, "EXPUNGE", looking(5), ok)
	answersLine(t, looking(6, 60, 20), s, "EXPUNGE", looking(6, 60, 20), ok)
	// The order is that of the View.
	answersLine(t, looking(5, 10, 30, 20), s, "EXPUNGE", looking(5, 10, 30, 20), ok, callOf(6, 5, 10, 0, ""), callOf(6, 5, 20, 0, ""))
}

func TestAnswerWithoutTagAndWord(t *testing.T) {
	s := postStore(t)
	lists := [][]impl.Token{
		nil, {}, atomsOf("a"), atomsOf("NOOP"), atomsOf(""), {textOf("a")}, {{}}, {{}, {}}, {atomOf("a"), {}}, {{}, atomOf("NOOP")},
		{textOf("a"), atomOf("NOOP")}, {atomOf("a"), textOf("NOOP")}, {textOf("a"), textOf("NOOP")}, {textOf(""), atomOf("NOOP")}, {atomOf("a"), textOf("LOGIN"), atomOf("b"), atomOf("c")}, {textOf("a"), atomOf("LOGIN"), atomOf("b"), atomOf("c")},
		{{Kind: 3, Text: "a"}, atomOf("NOOP")}, {{Text: "a"}, atomOf("NOOP")}, {{Kind: -1, Text: "a"}, atomOf("NOOP")}, {atomOf("a"), {Kind: 3, Text: "NOOP"}}, {atomOf("a"), {Text: "LOGOUT"}}, {textOf("a"), textOf("SELECT"), textOf("none")},
	}
	for _, x := range []impl.Session{{}, impl.SessionNew(), looking(0), allOf(), withFieldOf(allOf(), func(x *impl.Session) { x.Over = true })} {
		for _, list := range lists {
			if got := answerOf(x, without(t, s, 40), 900, list); !likeAnswers(got, answered{x, "* BAD\r\n", "", nil}) {
				t.Errorf("%+v to %+v: %+v", list, x, got)
			}
		}
	}
}

// sayings are the words with how many they want, and something right for each.
func sayings() map[string][]string {
	return map[string][]string{
		"LOGIN": {"ann", "x"}, "NOOP": nil, "LOGOUT": nil, "LIST": nil, "CREATE": {"new"}, "DELETE": {"work"}, "RENAME": {"work", "play"}, "SELECT": {"inbox"},
		"STATUS": {"inbox"}, "APPEND": {"inbox", "text"}, "FETCH": {"1:*"}, "STORE": {"1", "1"}, "EXPUNGE": nil,
	}
}

// wantsOn tells whether a word may not be said before LOGIN, and whether it wants a box.
func wantsOn(word string) (bool, bool) {
	return !slices.Contains([]string{"LOGIN", "NOOP", "LOGOUT"}, word), slices.Contains([]string{"FETCH", "STORE", "EXPUNGE"}, word)
}

func isBad(t *testing.T, x impl.Session, s impl.Store, list []impl.Token) {
	t.Helper()
	tag := list[0].Text
	if got := answerOf(x, s, 900, list); !likeAnswers(got, answered{x, tag + " BAD\r\n", tag + " NO\r\n", nil}) {
		t.Errorf("%+v to %+v: %+v", list, x, got)
	}
}

func isNotBad(t *testing.T, x impl.Session, s impl.Store, list []impl.Token) {
	t.Helper()
	if got := asAnsweredByWords(t, x, s, 900, list); !strings.HasSuffix(got.yes, list[0].Text+" OK\r\n") {
		t.Errorf("%+v to %+v: %+v", list, x, got)
	}
}

func TestAnswerHowMany(t *testing.T) {
	s := without(t, postStore(t), 40)
	for word, right := range sayings() {
		isNotBad(t, allOf(), s, atomsOf(append([]string{"a", word}, right...)...))
		for count := range 7 {
			more := append(slices.Clone(right), "1", "1", "1", "1", "1", "1")
			if count != len(right) {
				isBad(t, allOf(), s, atomsOf(append([]string{"a", word}, more[:count]...)...))
			}
		}
		isBad(t, allOf(), s, append(atomsOf(append([]string{"a", word}, right...)...), impl.Token{}))
		isBad(t, allOf(), s, atomsOf(append([]string{"a", word}, slices.Repeat([]string{"1"}, 3000)...)...))
	}
}

func TestAnswerNotOn(t *testing.T) {
	s := without(t, postStore(t), 40)
	for word, right := range sayings() {
		list := atomsOf(append([]string{"a", word}, right...)...)
		on, box := wantsOn(word)
		for _, x := range []impl.Session{{}, impl.SessionNew(), {Box: 5, View: []int{40, 20}}, {Box: 77, Over: true}} {
			if on {
				isBad(t, x, s, list)
			} else {
				isNotBad(t, x, s, list)
			}
		}
		for _, x := range []impl.Session{looking(0), looking(0, 40, 20)} {
			if box {
				isBad(t, x, s, list)
			} else {
				isNotBad(t, x, s, list)
			}
		}
		for _, x := range []impl.Session{looking(9), looking(77, 1), looking(-1)} {
			isNotBad(t, x, s, list)
		}
	}
}

// TestAnswerOtherWords: a word is said in its own letters, no more and no less.
func TestAnswerOtherWords(t *testing.T) {
	s := postStore(t)
	for word, right := range sayings() {
		others := []string{strings.ToLower(word), word[:1] + strings.ToLower(word[1:]), strings.ToLower(word[:1]) + word[1:], word[1:], word[:len(word)-1], word + word, word + "S", word + " ", " " + word, word + "\x00", "UID", "*", "a", "OK"}
		for at := range len(word) {
			for c := range 256 {
				if other := word[:at] + string([]byte{byte(c)}) + word[at+1:]; other != word {
					others = append(others, other)
				}
			}
		}
		for _, other := range others {
			if _, known := sayings()[other]; !known {
				isBad(t, allOf(), s, atomsOf(append([]string{"a", other}, right...)...))
			}
		}
	}
	isBad(t, allOf(), s, atomsOf("a", ""))
	isBad(t, allOf(), s, atomsOf("a", strings.Repeat("A", 5000)))
}

func TestAnswerWrongSets(t *testing.T) {
	s := without(t, postStore(t), 40)
	for _, set := range slices.Concat(wrongSets(), []string{"", ",", "0", "10000", "1:0", "1,2,3,4,5,6,7,8,9", strings.Repeat("1,", 3000) + "1"}) {
		for _, x := range []impl.Session{allOf(), looking(9), looking(77, 1)} {
			isBad(t, x, s, []impl.Token{atomOf("a"), atomOf("FETCH"), textOf(set)})
			isBad(t, x, s, atomsOf("a", "FETCH", set))
			isBad(t, x, s, atomsOf("a", "STORE", set, "1"))
			isBad(t, x, s, atomsOf("a", "STORE", set, "8"))
		}
	}
}

// TestAnswerTags: any atom is one, and stands ahead of what is told of what was said.
func TestAnswerTags(t *testing.T) {
	s := postStore(t)
	for _, tag := range append(plainAtoms(), "*", "NOOP", "OK", "1") {
		got := answerOf(allOf(), s, 900, atomsOf(tag, "NOOP"))
		if !likeAnswers(got, answered{allOf(), tag + " OK\r\n", tag + " NO\r\n", nil}) {
			t.Errorf("%q: %+v", tag, got)
		}
		got = answerOf(allOf(), s, 900, atomsOf(tag, "DELETE", "none"))
		if !likeAnswers(got, answered{allOf(), tag + " NO\r\n", tag + " NO\r\n", nil}) {
			t.Errorf("%q: %+v", tag, got)
		}
		isBad(t, allOf(), s, atomsOf(tag, "BAD"))
	}
}

// TestAnswerAnyToken: behind the word it is the Text that counts.
func TestAnswerAnyToken(t *testing.T) {
	s := postStore(t)
	for word, right := range sayings() {
		want := answerOf(allOf(), s, 900, atomsOf(append([]string{"a", word}, right...)...))
		for _, kind := range []int{0, 1, 2, 3, -1, math.MaxInt} {
			list := atomsOf("a", word)
			for _, text := range right {
				list = append(list, impl.Token{Kind: kind, Text: text})
			}
			if got := answerOf(allOf(), s, 900, list); !likeAnswers(got, want) {
				t.Errorf("%+v: %+v, not %+v", list, got, want)
			}
		}
	}
}

func TestFeedSession(t *testing.T) {
	all := impl.Session{In: "a N", Out: "out", On: true, Box: 5, View: []int{40, 20}}
	feeds := func(x impl.Session, text string, want bool) {
		t.Helper()
		wantNow := x
		if want {
			wantNow.In = x.In + text
		}
		if now, ok := impl.FeedSession(x, text); ok != want || !likeSessions(now, wantNow) {
			t.Errorf("FeedSession(%+v, %q) = %+v, %v", x, text, now, ok)
		}
	}
	for _, text := range []string{"", "O", "OOP\r\n", "\r\n\r\n", "\x00\xff", everyByte()} {
		for _, x := range []impl.Session{{}, impl.SessionNew(), all, {In: "\x00", Box: -1}} {
			feeds(x, text, true)
			feeds(withFieldOf(x, func(x *impl.Session) { x.Over = true }), text, false)
		}
	}
	for _, size := range []int{0, 1, 2, 199, 200, 201, 398, 399, 400, 401, 402, 5000} {
		for _, more := range []int{0, 1, 2, 199, 200, 201, 398, 399, 400, 401, 402, 5000} {
			x := withFieldOf(all, func(x *impl.Session) { x.In = strings.Repeat("x", size) })
			feeds(x, strings.Repeat("\xff", more), size+more <= 400)
			feeds(withFieldOf(x, func(x *impl.Session) { x.Over = true }), strings.Repeat("\xff", more), false)
		}
	}
	x := impl.Session{}
	for i := range 500 {
		next, ok := impl.FeedSession(x, "z")
		if ok != (i < 400) || len(next.In) != min(i+1, 400) {
			t.Fatalf("%d: %v, %d", i, ok, len(next.In))
		}
		x = next
	}
	feeds(x, "", true)
}

// TestAnswerDone: what is answered is done as the chapters of stores do it.
func TestAnswerDone(t *testing.T) {
	s := postStore(t)
	for _, c := range []struct {
		line string
		want []storeCall
	}{
		{"CREATE new", []storeCall{makes(900, "new")}}, {"DELETE work", []storeCall{drops(6)}}, {"RENAME work play", []storeCall{renames(6, "play")}},
		{"APPEND work text", []storeCall{{"PutMail", 6, 900, 0, "text"}}}, {"STORE 1,3 6", []storeCall{marks(5, 40, 6), marks(5, 70, 6)}}, {"EXPUNGE", []storeCall{takes(5, 20), takes(5, 10)}},
	} {
		got := answerOf(allOf(), s, 900, tokensOf(t, "a "+c.line))
		done, n := impl.DoAll(s, got.calls)
		if want := behind(t, s, c.want...); n != len(c.want) || !likeStores(done, want) {
			t.Errorf("%q: %+v", c.line, done)
		}
	}
	for _, line := range []string{"CREATE inbox", "CREATE Inbox", "RENAME work inbox", `RENAME work ""`} {
		got := answerOf(allOf(), s, 900, tokensOf(t, "a "+line))
		if _, n := impl.DoAll(s, got.calls); n != 0 || len(got.calls) != 1 || got.no != "a NO\r\n" {
			t.Errorf("%q: %+v", line, got)
		}
	}
	// Of a View of which some are gone all calls can be done.
	gone := without(t, s, 20, 30)
	for _, line := range []string{"STORE 1:* 6", "EXPUNGE"} {
		got := answerOf(allOf(), gone, 900, tokensOf(t, "a "+line))
		if _, n := impl.DoAll(gone, got.calls); n != len(got.calls) || n == 0 {
			t.Errorf("%q: %d of %+v", line, n, got)
		}
	}
}

// drawnSaying is a line of a word, mostly as it wants it.
func drawnSaying(r *rand.Rand, s impl.Store) []impl.Token {
	names := []string{"new", "none", "", "Inbox"}
	for _, b := range s.Boxes {
		names = append(names, b.Name, b.Name)
	}
	any := func(list ...string) string { return list[r.Intn(len(list))] }
	name := func() string { return any(names...) }
	set := func() string {
		if r.Intn(6) == 0 {
			return any(wrongSets()...)
		}
		return saidOfSet(drawnSet(r, 1+r.Intn(9)))
	}
	forms := [][]string{
		{"LOGIN", "ann", "x"}, {"NOOP"}, {"NOOP"}, {"LOGOUT"}, {"LIST"}, {"CREATE", name()}, {"DELETE", name()}, {"RENAME", name(), name()}, {"SELECT", name()}, {"SELECT", name()}, {"STATUS", name()},
		{"APPEND", name(), drawnText(r, r.Intn(62))}, {"APPEND", name(), "text"}, {"FETCH", set()}, {"FETCH", set()}, {"STORE", set(), any("0", "4", "5", "7", "8", "44", "")}, {"STORE", set(), "4"}, {"EXPUNGE"}, {"EXPUNGE"}, {"noop"}, {"UID"},
	}
	form := forms[r.Intn(len(forms))]
	list := atomsOf("t"+form[0], form[0])
	for _, text := range form[1:] {
		list = append(list, impl.Token{Kind: 1 + r.Intn(2), Text: text})
	}
	switch r.Intn(20) {
	case 0:
		return list[:r.Intn(len(list))]
	case 1:
		return append(list, atomOf("more"))
	case 2:
		list[r.Intn(2)].Kind = r.Intn(4)
	}
	return list
}

// drawnSession looks at a box of the store, mostly, with a View of which some are gone.
func drawnSession(r *rand.Rand, s impl.Store) impl.Session {
	x := impl.Session{In: drawnText(r, r.Intn(9)), Out: drawnText(r, r.Intn(9)), On: r.Intn(5) > 0, Over: r.Intn(9) == 0, Box: []int{0, 5, 77, -1}[r.Intn(4)]}
	if len(s.Boxes) == 0 {
		return x
	}
	b := s.Boxes[r.Intn(len(s.Boxes))]
	if r.Intn(6) > 0 {
		x.Box = b.Gid
	}
	for _, gid := range viewOf(b) {
		for range []int{0, 1, 1, 1, 1, 2}[r.Intn(6)] {
			x.View = append(x.View, gid)
		}
		if r.Intn(3) == 0 {
			x.View = append(x.View, r.Intn(200))
		}
	}
	if r.Intn(4) == 0 {
		r.Shuffle(len(x.View), func(i, j int) { x.View[i], x.View[j] = x.View[j], x.View[i] })
	}
	return x
}

func TestDrawnSessions(t *testing.T) {
	r := rand.New(rand.NewSource(1501))
	calls := 0
	for range 4000 {
		s := drawnStore(r)
		x := drawnSession(r, s)
		asToldByWords(t, x, s)
		for range 4 {
			got := asAnsweredByWords(t, x, s, r.Intn(10000), drawnSaying(r, s))
			calls += len(got.calls)
			x = got.now
		}
	}
	if calls < 3000 {
		t.Errorf("%d calls", calls)
	}
}

func TestSessionsOfAnyStores(t *testing.T) {
	r := rand.New(rand.NewSource(1502))
	for _, s := range append(rightStores(), wrongStores()...) {
		for range 3 {
			x := drawnSession(r, s)
			asToldByWords(t, x, s)
			for range 4 {
				asAnsweredByWords(t, x, s, r.Intn(10000), drawnSaying(r, s))
			}
		}
	}
}

// drawnLife: two sessions say what they like of one store, in which others do something now and then; with a second store, what both come to. One who hears just what its session is told counts as its View does, and knows which mail has which number, as long as none is numbered anew.
func drawnLife(t *testing.T, r *rand.Rand, joins bool) string {
	t.Helper()
	p := twoStores{oneStore(t, 1), oneStore(t, 2)}
	sessions, counts := []impl.Session{looking(0), looking(0)}, make([]counting, 2)
	all := ""
	for step := range 100 {
		i := r.Intn(2)
		list := drawnSaying(r, p.a)
		now, yes, _, calls := impl.Answer(sessions[i], p.a, 1000+step, list)
		next, n := impl.DoAll(p.a, calls)
		if n < len(calls) {
			continue
		}
		p.a = next
		if n > 0 {
			after, news := asToldByWords(t, now, p.a)
			now, yes = after, news+yes
		}
		counts[i].hears(t, yes)
		if joins {
			clear(counts[i].mails)
		}
		counts[i].countsAs(t, now.View)
		sessions[i] = now
		all += yes
		if r.Intn(4) == 0 {
			p = drawnApart(r, p, 2)
		}
		if joins && r.Intn(9) == 0 && impl.FitsStore(p.a, p.b) {
			p = twoStores{impl.JoinStore(p.a, p.b), impl.JoinStore(p.b, p.a)}
		}
	}
	return all
}

func TestTwoWhoLookAtOneStore(t *testing.T) {
	r := rand.New(rand.NewSource(1503))
	all := ""
	for life := range 60 {
		all += drawnLife(t, r, life%2 == 1)
	}
	for _, word := range []string{" EXPUNGE\r\n", " EXISTS\r\n", "BYE box\r\n", " FETCH ", "BYE\r\n", "OK NEXT", " NO\r\n", "* BAD\r\n"} {
		if n := strings.Count(all, word); n < 30 {
			t.Errorf("%q was told %d times", word, n)
		}
	}
}

// roomySession has room behind its View, with marks in it.
func roomySession(x impl.Session) impl.Session {
	x.In, x.Out, x.View = strings.Clone(x.In), strings.Clone(x.Out), roomyNumbers(x.View)
	return x
}

// roomyTokens has room behind its end, with marks in it.
func roomyTokens(list []impl.Token) []impl.Token {
	room := make([]impl.Token, len(list), len(list)+3)
	for i, x := range list {
		room[i] = impl.Token{Kind: x.Kind, Text: strings.Clone(x.Text)}
	}
	for i := len(list); i < cap(room); i++ {
		room[:cap(room)][i] = impl.Token{Kind: -7, Text: "mark"}
	}
	return room
}

// memorySayings are some of which each word is said in the right form, some that are refused, and some that are none.
func memorySayings() [][]impl.Token {
	list := [][]impl.Token{nil, atomsOf("a"), atomsOf("a", "UID"), atomsOf("a", "FETCH", "0"), atomsOf("a", "SELECT", "none"), atomsOf("a", "STORE", "1", "8"), atomsOf("", "NOOP"), atomsOf("", "")}
	for word, right := range sayings() {
		list = append(list, atomsOf(append([]string{strings.Repeat("tag", 2), word}, right...)...))
	}
	return list
}

func memorySessions() []impl.Session {
	return []impl.Session{allOf(), looking(0, 1, 2), looking(77, 40), looking(5, 40, 99, 10, 98), {In: "in", Out: "out", Box: 5, View: []int{20, 99}}, {In: "in", Out: "out", Over: true}, {Out: "out"}}
}

// saidOfSession are all that is answered of a session: of what is told, of what is said, and of what is fed.
func saidOfSession(x impl.Session, s impl.Store, list []impl.Token, text string) []answered {
	now, news := impl.Told(x, s)
	fed, _ := impl.FeedSession(x, text)
	return []answered{{now: now, yes: news}, answerOf(x, s, 900, list), {now: fed}}
}

func copyAnswers(list []answered) []answered {
	var out []answered
	for _, x := range list {
		x.now, x.calls = copySession(x.now), slices.Clone(x.calls)
		out = append(out, x)
	}
	return out
}

// spoilAnswer changes all of its lists, and what is behind them.
func spoilAnswer(x answered) {
	spoilNumbers(x.now.View)
	for i := range x.calls[:cap(x.calls)] {
		x.calls[:cap(x.calls)][i] = callOf(-9, -9, -9, -9, "spoilt")
	}
}

func TestSessionsLeaveTheirArguments(t *testing.T) {
	for _, given := range []impl.Store{postStore(t), without(t, postStore(t), 40, 30), behind(t, postStore(t), drops(5)), impl.StoreNew(1), someStore(6, 3)} {
		for _, x := range memorySessions() {
			for _, list := range memorySayings() {
				s, x, list := roomyStore(given), roomySession(x), roomyTokens(list)
				whole, view, tokens := wholeStore(s), slices.Clone(x.View[:cap(x.View)]), slices.Clone(list[:cap(list)])
				saidOfSession(x, s, list, "text")
				if !likeStores(wholeStore(s), whole) || !slices.Equal(x.View[:cap(x.View)], view) || !slices.Equal(list[:cap(list)], tokens) {
					t.Fatalf("%+v to %+v: one of them was written into, or behind its end", list, x)
				}
			}
		}
	}
}

// TestSessionsNewMemory: what is answered stays as it is when an argument is changed behind the call, and the other way round.
func TestSessionsNewMemory(t *testing.T) {
	for _, given := range []impl.Store{postStore(t), without(t, postStore(t), 40, 30), behind(t, postStore(t), puts(5, 80)), behind(t, postStore(t), drops(5))} {
		for _, givenSession := range memorySessions() {
			for _, givenList := range memorySayings() {
				s, x, list := roomyStore(given), roomySession(givenSession), roomyTokens(givenList)
				answers := saidOfSession(x, s, list, "text")
				kept := copyAnswers(answers)
				again := saidOfSession(x, s, list, "text")
				for i, answer := range answers {
					spoilAnswer(answer)
					if !likeAnswers(again[i], kept[i]) {
						t.Fatalf("%+v to %+v: of two answers one changed with the other", list, x)
					}
				}
				if !likeSessions(x, givenSession) || !likeStores(s, given) || !slices.Equal(list, givenList) {
					t.Fatalf("%+v to %+v: they changed with the answer", givenList, givenSession)
				}
				spoilStore(s)
				spoilNumbers(x.View)
				clear(list)
				for i, answer := range again {
					if !likeAnswers(answer, kept[i]) {
						t.Fatalf("%+v to %+v: %+v became %+v", givenList, givenSession, kept[i], answer)
					}
				}
			}
		}
	}
}

// textsOfAnswer are apart by what they are: of each kind none may be one of the arguments'.
func textsOfAnswer(x answered) []string {
	texts := []string{x.now.In, x.now.Out, x.yes, x.no}
	for _, c := range x.calls {
		texts = append(texts, c.Text)
	}
	return texts
}

func TestSessionsShareNoTexts(t *testing.T) {
	for _, given := range []impl.Store{postStore(t), without(t, postStore(t), 40, 30)} {
		for _, x := range memorySessions() {
			for _, list := range memorySayings() {
				s, x, list, text := roomyStore(given), roomySession(x), roomyTokens(list), strings.Repeat("text", 2)
				theirs := append(textsOfStore(s), x.In, x.Out, text)
				for _, x := range list {
					theirs = append(theirs, x.Text)
				}
				for _, answer := range append(saidOfSession(x, s, list, text), saidOfSession(x, s, list, "")...) {
					for _, one := range textsOfAnswer(answer) {
						if slices.ContainsFunc(theirs, func(other string) bool { return sharesMemory(one, other) }) {
							t.Fatalf("%+v to %+v shares the text %q", list, x, one)
						}
					}
				}
			}
		}
	}
	// Nothing in it: what comes is all that there is then.
	text := strings.Repeat("text", 100)
	if x, ok := impl.FeedSession(impl.Session{}, text); !ok || x.In != text || sharesMemory(x.In, text) {
		t.Errorf("FeedSession keeps its text")
	}
	x := impl.Session{In: text}
	for _, more := range []string{"", "x"} {
		if now, ok := impl.FeedSession(x, more); ok != (more == "") || now.In != text || sharesMemory(now.In, text) {
			t.Errorf("FeedSession keeps what was there")
		}
	}
}

// TestSessionsAgain: what was said to one leaves nothing for another, also when many are under way.
func TestSessionsAgain(t *testing.T) {
	s := without(t, postStore(t), 40)
	x := allOf()
	var group sync.WaitGroup
	for worker := range 8 {
		group.Go(func() {
			r := rand.New(rand.NewSource(int64(1510 + worker)))
			for range 200 {
				list := drawnSaying(r, s)
				if got, want := answerOf(x, s, 900, list), answerByWords(x, s, 900, list); !likeAnswers(got, want) {
					t.Errorf("%+v: %+v, not %+v", list, got, want)
				}
				if now, news := impl.Told(x, s); news != "* 1 EXPUNGE\r\n" || !slices.Equal(now.View, []int{20, 70, 10, 30}) {
					t.Errorf("%+v, %q", now, news)
				}
				if y := impl.SessionNew(); y.Out != "* OK\r\n" {
					t.Errorf("%+v", y)
				}
			}
		})
	}
	group.Wait()
}
