package tests

import (
	"math"
	"math/rand"
	"slices"
	"strings"
	"sync"
	"testing"

	"loop.example/g00324/impl"
)

// It has just these fields, in this order: else this would not build.
var _ = struct {
	Kept    impl.Kept
	Session impl.Session
	Up      bool
}(impl.Server{})

func serverOf(k impl.Kept, x impl.Session, up bool) impl.Server {
	return impl.Server{Kept: k, Session: x, Up: up}
}

func likeServers(a, b impl.Server) bool {
	return likeKepts(a.Kept, b.Kept) && likeSessions(a.Session, b.Session) && a.Up == b.Up
}

func copyServer(v impl.Server) impl.Server {
	return serverOf(copyKept(v.Kept), copySession(v.Session), v.Up)
}

// withServer has one thing another way.
func withServer(v impl.Server, change func(v *impl.Server)) impl.Server {
	out := copyServer(v)
	change(&out)
	return out
}

// lines are told one behind the other; each has its end.
func lines(list ...string) string {
	told := ""
	for _, line := range list {
		told += line + "\r\n"
	}
	return told
}

func feedByWords(v impl.Server, text string) (impl.Server, bool) {
	if !v.Up || v.Session.Over || len(v.Session.In)+len(text) > 400 {
		return v, false
	}
	return withServer(v, func(v *impl.Server) { v.Session.In += text }), true
}

// stepByWords asks first for what makes it 4: else an empty In would be 1 at each server that fell.
func stepByWords(v impl.Server, gid int) (impl.Server, int) {
	list, behind, code := tokensByWords(v.Session.In)
	switch {
	case !v.Up || v.Session.Over:
		return v, 4
	case code == 1:
		return v, 1
	}
	now := copyServer(v)
	now.Session.In = behind
	if code == 2 {
		now.Session.Out += "* BAD\r\n"
		return now, 2
	}
	answer := answerByWords(now.Session, now.Kept.Store, gid, list)
	now.Session = answer.now
	kept := now.Kept
	for _, c := range answer.calls {
		next, ok := doKeptByWords(kept, c)
		if !ok {
			now.Session.Out += answer.no
			return now, 3
		}
		kept = next
	}
	news := ""
	if len(answer.calls) > 0 {
		now.Session, news = toldByWords(now.Session, kept.Store)
		now.Kept = keptOf(kept.Store, kept.Journal, len(kept.Journal))
	}
	now.Session.Out += news + answer.yes
	return now, 0
}

func fallenByWords(v impl.Server, cut int) impl.Server {
	return serverOf(fallByWords(v.Kept, cut), impl.Session{Out: "* OK\r\n"}, false)
}

func checksFeed(t *testing.T, v impl.Server, text string) (impl.Server, bool) {
	t.Helper()
	got, ok := impl.FeedServer(v, text)
	want, wantOk := feedByWords(v, text)
	if ok != wantOk || !likeServers(got, want) {
		t.Fatalf("FeedServer(%+v, %q) = %+v, %v; want %+v, %v", v, text, got, ok, want, wantOk)
	}
	return got, ok
}

func checksStep(t *testing.T, v impl.Server, gid int) (impl.Server, int) {
	t.Helper()
	got, code := impl.StepServer(v, gid)
	want, wantCode := stepByWords(v, gid)
	if code != wantCode || !likeServers(got, want) {
		t.Fatalf("StepServer(%+v, %d) = %+v, %d; want %+v, %d", v, gid, got, code, want, wantCode)
	}
	return got, code
}

func checksServerFall(t *testing.T, v impl.Server, cut int) impl.Server {
	t.Helper()
	got, want := impl.FallServer(v, cut), fallenByWords(v, cut)
	if !likeServers(got, want) {
		t.Fatalf("FallServer(%+v, %d) = %+v; want %+v", v, cut, got, want)
	}
	return got
}

func checksRise(t *testing.T, v impl.Server) impl.Server {
	t.Helper()
	got, want := impl.RiseServer(v), serverOf(v.Kept, v.Session, true)
	if !likeServers(got, want) {
		t.Fatalf("RiseServer(%+v) = %+v", v, got)
	}
	return got
}

func fed(t *testing.T, v impl.Server, text string) impl.Server {
	t.Helper()
	now, ok := checksFeed(t, v, text)
	if !ok {
		t.Fatalf("%q is not taken by %+v", text, v)
	}
	return now
}

// talk is what one line comes to: its code, what is told, who looks then, and the calls that were done.
type talk struct {
	gid   int
	line  string
	code  int
	told  string
	now   func(x *impl.Session)
	calls []impl.Call
}

func asBefore(_ *impl.Session) {}

func looksAt(box int, view ...int) func(x *impl.Session) {
	return func(x *impl.Session) { x.Box, x.View = box, view }
}

// speaks feeds a line, steps, and holds each field against what is written out: calls are done, written down, and then all is saved; without calls nothing is.
func speaks(t *testing.T, v impl.Server, one talk) impl.Server {
	t.Helper()
	got, code := checksStep(t, fed(t, v, one.line+"\r\n"), one.gid)
	want := withServer(v, func(v *impl.Server) {
		v.Session.Out += one.told
		one.now(&v.Session)
		for _, c := range one.calls {
			store, ok := doByWords(v.Kept.Store, c)
			if !ok {
				t.Fatalf("%+v can't be done", c)
			}
			v.Kept.Store = store
			v.Kept.Journal += journalByWords(c)
			v.Kept.Saved = len(v.Kept.Journal)
		}
	})
	if code != one.code || !likeServers(got, want) {
		t.Fatalf("%q to %+v: %+v, %d; want %+v, %d", one.line, v, got, code, want, one.code)
	}
	return got
}

// wholeTalk has each word, done and refused, and ends with a LOGOUT.
func wholeTalk() []talk {
	on := func(x *impl.Session) { x.On = true }
	over := func(x *impl.Session) { x.Over = true }
	did := func(calls ...impl.Call) []impl.Call { return calls }
	return []talk{
		{1, "a1 NOOP", 0, lines("a1 OK"), asBefore, nil},
		{1, "a2 LIST", 0, lines("a2 BAD"), asBefore, nil},
		{1, "a3 CREATE inbox", 0, lines("a3 BAD"), asBefore, nil},
		{1, `a4 LOGIN ann "x y"`, 0, lines("a4 OK"), on, nil},
		{1, "a5 LIST", 0, lines("a5 OK"), asBefore, nil},
		{5, "a6 CREATE inbox", 0, lines("a6 OK"), asBefore, did(callOf(1, 5, 0, 0, "inbox"))},
		{6, "a7 CREATE inbox", 3, lines("a7 NO"), asBefore, nil},
		{5, "a8 CREATE other", 3, lines("a8 NO"), asBefore, nil},
		{7, `b1 APPEND inbox "hi"`, 0, lines("b1 OK"), asBefore, did(callOf(4, 5, 7, 0, "hi"))},
		{7, `b2 APPEND inbox "again"`, 3, lines("b2 NO"), asBefore, nil},
		{8, `b3 APPEND none "hi"`, 0, lines("b3 NO"), asBefore, nil},
		{8, "b4 STATUS inbox", 0, lines(`* STATUS "inbox" 1 2`, "b4 OK"), asBefore, nil},
		{8, "b5 FETCH 1", 0, lines("b5 BAD"), asBefore, nil},
		{8, "b6 SELECT inbox", 0, lines("* 1 EXISTS", "* OK NEXT 2", "b6 OK"), looksAt(5, 7), nil},
		{9, "b7 APPEND inbox {2}\r\n\r\n", 0, lines("* 2 EXISTS", "b7 OK"), looksAt(5, 7, 9), did(callOf(4, 5, 9, 0, "\r\n"))},
		{300, "b8 APPEND inbox {0}\r\n", 0, lines("* 3 EXISTS", "b8 OK"), looksAt(5, 7, 9, 300), did(callOf(4, 5, 300, 0, ""))},
		{1, "c1 STORE 1,3 4", 0, lines("c1 OK"), asBefore, did(callOf(5, 5, 7, 4, ""), callOf(5, 5, 300, 4, ""))},
		{1, "c2 FETCH 1:*", 0, lines(`* 1 FETCH 1 4 "hi"`, "* 2 FETCH 2 0 {2}\r\n\r\n", `* 3 FETCH 3 4 ""`, "c2 OK"), asBefore, nil},
		{1, "c3 STORE 9 4", 0, lines("c3 OK"), asBefore, nil},
		{1, "c4 EXPUNGE", 0, lines("* 1 EXPUNGE", "* 2 EXPUNGE", "c4 OK"), looksAt(5, 9), did(callOf(6, 5, 7, 0, ""), callOf(6, 5, 300, 0, ""))},
		{1, "c5 EXPUNGE", 0, lines("c5 OK"), asBefore, nil},
		{7, "c6 APPEND inbox back", 3, lines("c6 NO"), asBefore, nil},
		{1, "c7 RENAME inbox work", 0, lines("c7 OK"), asBefore, did(callOf(2, 5, 0, 0, "work"))},
		{1, "c8 RENAME work Work", 3, lines("c8 NO"), asBefore, nil},
		{1, "c9 RENAME inbox work", 0, lines("c9 NO"), asBefore, nil},
		{4, "d1 CREATE old", 0, lines("d1 OK"), asBefore, did(callOf(1, 4, 0, 0, "old"))},
		{1, "d2 LIST", 0, lines(`* LIST "old"`, `* LIST "work"`, "d2 OK"), asBefore, nil},
		{1, "d3 DELETE old", 0, lines("d3 OK"), asBefore, did(callOf(3, 4, 0, 0, ""))},
		{4, "d4 CREATE old", 3, lines("d4 NO"), asBefore, nil},
		{1, "d5  NOOP", 2, lines("* BAD"), asBefore, nil},
		{1, "d6", 0, lines("* BAD"), asBefore, nil},
		{1, "d7 noop", 0, lines("d7 BAD"), asBefore, nil},
		{1, "d8 DELETE work", 0, lines("* BYE box", "d8 OK"), looksAt(0), did(callOf(3, 5, 0, 0, ""))},
		{1, "d9 EXPUNGE", 0, lines("d9 BAD"), asBefore, nil},
		{1, "e1 SELECT work", 0, lines("e1 NO"), asBefore, nil},
		{1, "e2 LOGOUT", 0, lines("* BYE", "e2 OK"), over, nil},
	}
}

func wholeTalkTold() string {
	told := lines("* OK")
	for _, one := range wholeTalk() {
		told += one.told
	}
	return told
}

// talked are all servers of the whole talk, the new one first.
func talked(t *testing.T) []impl.Server {
	t.Helper()
	v := impl.ServerNew(1)
	list := []impl.Server{v}
	for _, one := range wholeTalk() {
		v = speaks(t, v, one)
		list = append(list, v)
	}
	return list
}

// postServer keeps postStore, with some of its journal saved; it looks at box 5.
func postServer(t *testing.T) impl.Server {
	t.Helper()
	k := keptAfter(t, 1, asCalls(postCalls()...)...)
	k.Saved = 33
	x := allOf()
	x.In = ""
	return serverOf(k, x, true)
}

// newsServer: mail 40 went and mail 80 came since it looked.
func newsServer(t *testing.T) impl.Server {
	t.Helper()
	v := postServer(t)
	v.Kept = doesKept(t, v.Kept, callOf(6, 5, 40, 0, ""), callOf(4, 5, 80, 0, "80"))
	return v
}

// keeping has a store, and a journal of some length, which need not make it.
func keeping(s impl.Store, size int, x impl.Session) impl.Server {
	x.In = ""
	return serverOf(keptOf(s, strings.Repeat("j", size), 5), x, true)
}

func TestServerNew(t *testing.T) {
	for _, by := range []int{1, 2, 0, 3, -1, 9999, math.MinInt, math.MaxInt} {
		want := serverOf(keptOf(storeOf(by, 0, nil, nil), "", 0), impl.Session{Out: "* OK\r\n"}, true)
		if v := impl.ServerNew(by); !likeServers(v, want) {
			t.Errorf("ServerNew(%d) = %+v", by, v)
		}
	}
}

func TestServerWholeTalk(t *testing.T) {
	list := talked(t)
	for i, v := range list {
		if !impl.KeptOk(v.Kept) || v.Kept.Saved != len(v.Kept.Journal) || !v.Up {
			t.Errorf("%d: %+v", i, v)
		}
	}
	v := list[len(list)-1]
	if want := storeOf(1, 8, nil, []int{4, 5}); !likeStores(v.Kept.Store, want) {
		t.Errorf("the store is %+v", v.Kept.Store)
	}
	if v.Session.Out != wholeTalkTold() || v.Session.In != "" {
		t.Errorf("%q was told, %q is left", v.Session.Out, v.Session.In)
	}
}

// TestServerManyLines: what was fed at once is stepped one by one.
func TestServerManyLines(t *testing.T) {
	v := fed(t, impl.ServerNew(1), "a LOGIN ann x\r\nb CREATE inbox\r\nb2  x\r\nc APPEND inbox {4}\r\na\r\nb\r\nd APPEND inbox y\r\ne SELECT inbox\r\nf")
	rests := []string{"b CREATE inbox\r\nb2  x\r\nc APPEND inbox {4}\r\na\r\nb\r\nd APPEND inbox y\r\ne SELECT inbox\r\nf", "b2  x\r\nc APPEND inbox {4}\r\na\r\nb\r\nd APPEND inbox y\r\ne SELECT inbox\r\nf", "c APPEND inbox {4}\r\na\r\nb\r\nd APPEND inbox y\r\ne SELECT inbox\r\nf", "d APPEND inbox y\r\ne SELECT inbox\r\nf", "e SELECT inbox\r\nf", "f", "f", "f"}
	codes, gids := []int{0, 0, 2, 0, 3, 0, 1, 1}, []int{1, 5, 6, 7, 7, 8, 9, 10}
	for i, rest := range rests {
		now, code := checksStep(t, v, gids[i])
		if code != codes[i] || now.Session.In != rest {
			t.Fatalf("%d: %d, %+v", i, code, now)
		}
		if code == 1 && !likeServers(now, v) {
			t.Fatalf("%d: it is not as it was: %+v", i, now)
		}
		v = now
	}
	if want := lines("* OK", "a OK", "b OK", "* BAD", "c OK", "d NO", "* 1 EXISTS", "* OK NEXT 2", "e OK"); v.Session.Out != want {
		t.Errorf("%q was told", v.Session.Out)
	}
	v, code := checksStep(t, fed(t, v, " NOOP\r\n"), 11)
	if code != 0 || v.Session.In != "" || !strings.HasSuffix(v.Session.Out, "e OK\r\nf OK\r\n") {
		t.Errorf("%d, %+v", code, v)
	}
}

// TestServerAtOnceAndByLines: all that fits is fed at once; what comes of it is as if it were fed line by line.
func TestServerAtOnceAndByLines(t *testing.T) {
	list := wholeTalk()
	byLines := talked(t)
	for from := range list {
		text := ""
		for to := from; to < len(list) && len(text)+len(list[to].line)+2 <= 400; to++ {
			text += list[to].line + "\r\n"
		}
		v := fed(t, byLines[from], text)
		for to := from; v.Session.In != ""; to++ {
			now, code := checksStep(t, v, list[to].gid)
			want := withServer(byLines[to+1], func(w *impl.Server) { w.Session.In = text[len(text)-len(now.Session.In):] })
			if code != list[to].code || !likeServers(now, want) {
				t.Fatalf("%q of %q: %d, %+v", list[to].line, text, code, now)
			}
			v = now
		}
	}
}

// TestServerInParts: 1, and as it is, until the end of a line is there.
func TestServerInParts(t *testing.T) {
	byLines := talked(t)
	for i, one := range wholeTalk() {
		v, text := byLines[i], one.line+"\r\n"
		for at := range len(text) {
			now, code := checksStep(t, v, one.gid)
			if code == 2 {
				break
			}
			if code != 1 || !likeServers(now, v) || now.Session.In != text[:at] {
				t.Fatalf("%q: %d, %+v", text[:at], code, now)
			}
			v = fed(t, now, text[at:at+1])
		}
		now, code := checksStep(t, v, one.gid)
		if one.code != 2 && (code != one.code || !likeServers(now, byLines[i+1])) {
			t.Fatalf("%q: %d, %+v", text, code, now)
		}
	}
	for _, text := range []string{"", "\r", "a", "a NOOP", "a NOOP\r", `a "`, "a {3}\r\n\r\n", "a b c d e f g h i j", strings.Repeat("a", 41)} {
		v := withServer(newsServer(t), func(v *impl.Server) { v.Session.In = text })
		if now, code := checksStep(t, v, 900); code != 1 || !likeServers(now, v) {
			t.Errorf("%q: %d, %+v", text, code, now)
		}
	}
}

// TestServerTellsNewsAhead: with calls that were done, what came of them, and before them, stands ahead of what is told.
func TestServerTellsNewsAhead(t *testing.T) {
	v := postServer(t)
	for _, one := range []talk{
		{900, "a CREATE new", 0, lines("a OK"), asBefore, []impl.Call{callOf(1, 900, 0, 0, "new")}},
		{900, "a DELETE work", 0, lines("a OK"), asBefore, []impl.Call{callOf(3, 6, 0, 0, "")}},
		{900, "a DELETE inbox", 0, lines("* BYE box", "a OK"), looksAt(0), []impl.Call{callOf(3, 5, 0, 0, "")}},
		{900, "a RENAME inbox new", 0, lines("a OK"), asBefore, []impl.Call{callOf(2, 5, 0, 0, "new")}},
		{900, "a APPEND work x", 0, lines("a OK"), asBefore, []impl.Call{callOf(4, 6, 900, 0, "x")}},
		{900, "a APPEND inbox x", 0, lines("* 6 EXISTS", "a OK"), looksAt(5, 40, 20, 70, 10, 30, 900), []impl.Call{callOf(4, 5, 900, 0, "x")}},
		{900, "a STORE 2:3 6", 0, lines("a OK"), asBefore, []impl.Call{callOf(5, 5, 20, 6, ""), callOf(5, 5, 70, 6, "")}},
		{900, "a EXPUNGE", 0, lines("* 2 EXPUNGE", "* 3 EXPUNGE", "a OK"), looksAt(5, 40, 70, 30), []impl.Call{callOf(6, 5, 20, 0, ""), callOf(6, 5, 10, 0, "")}},
	} {
		speaks(t, v, one)
	}
	news := looksAt(5, 20, 70, 10, 30, 80)
	v = newsServer(t)
	for _, one := range []talk{
		{900, "a CREATE new", 0, lines("* 1 EXPUNGE", "* 5 EXISTS", "a OK"), news, []impl.Call{callOf(1, 900, 0, 0, "new")}},
		{900, "a DELETE work", 0, lines("* 1 EXPUNGE", "* 5 EXISTS", "a OK"), news, []impl.Call{callOf(3, 6, 0, 0, "")}},
		{900, "a DELETE inbox", 0, lines("* BYE box", "a OK"), looksAt(0), []impl.Call{callOf(3, 5, 0, 0, "")}},
		{900, "a RENAME work new", 0, lines("* 1 EXPUNGE", "* 5 EXISTS", "a OK"), news, []impl.Call{callOf(2, 6, 0, 0, "new")}},
		{900, "a APPEND work x", 0, lines("* 1 EXPUNGE", "* 5 EXISTS", "a OK"), news, []impl.Call{callOf(4, 6, 900, 0, "x")}},
		{900, "a APPEND inbox x", 0, lines("* 1 EXPUNGE", "* 6 EXISTS", "a OK"), looksAt(5, 20, 70, 10, 30, 80, 900), []impl.Call{callOf(4, 5, 900, 0, "x")}},
		{900, "a STORE 1:2 6", 0, lines("* 1 EXPUNGE", "* 5 EXISTS", "a OK"), news, []impl.Call{callOf(5, 5, 20, 6, "")}},
		{900, "a EXPUNGE", 0, lines("* 1 EXPUNGE", "* 1 EXPUNGE", "* 2 EXPUNGE", "* 3 EXISTS", "a OK"), looksAt(5, 70, 30, 80), []impl.Call{callOf(6, 5, 20, 0, ""), callOf(6, 5, 10, 0, "")}},
		// These two tell them by themselves, once.
		{900, "a NOOP", 0, lines("* 1 EXPUNGE", "* 5 EXISTS", "a OK"), news, nil},
		{900, "a FETCH 1:2", 0, lines("* 1 EXPUNGE", "* 5 EXISTS", `* 2 FETCH 2 4 "20"`, "a OK"), news, nil},
	} {
		speaks(t, v, one)
	}
}

// TestServerTellsNoNews: without calls that were done nothing is told but what the word tells.
func TestServerTellsNoNews(t *testing.T) {
	v := newsServer(t)
	for _, one := range []talk{
		{900, "a LOGIN ann x", 0, lines("a OK"), asBefore, nil},
		{900, "a LOGOUT", 0, lines("* BYE", "a OK"), func(x *impl.Session) { x.Over = true }, nil},
		{900, "a LIST", 0, lines(`* LIST "inbox"`, `* LIST "work"`, `* LIST "empty"`, "a OK"), asBefore, nil},
		{900, "a STATUS inbox", 0, lines(`* STATUS "inbox" 5 7`, "a OK"), asBefore, nil},
		{900, "a STATUS none", 0, lines("a NO"), asBefore, nil},
		{900, "a SELECT work", 0, lines("* 1 EXISTS", "* OK NEXT 2", "a OK"), looksAt(6, 60), nil},
		{900, "a SELECT none", 0, lines("a NO"), looksAt(0), nil},
		{900, "a DELETE none", 0, lines("a NO"), asBefore, nil},
		{900, "a RENAME none new", 0, lines("a NO"), asBefore, nil},
		{900, "a APPEND none new", 0, lines("a NO"), asBefore, nil},
		{900, "a STORE 1 6", 0, lines("a OK"), asBefore, nil},
		{900, "a STORE 1 8", 0, lines("a BAD"), asBefore, nil},
		{900, "a FETCH 0", 0, lines("a BAD"), asBefore, nil},
		{900, "a UID 1", 0, lines("a BAD"), asBefore, nil},
		{900, "a", 0, lines("* BAD"), asBefore, nil},
		{900, `"a" NOOP`, 0, lines("* BAD"), asBefore, nil},
		{900, "a  NOOP", 2, lines("* BAD"), asBefore, nil},
		{900, "a CREATE inbox", 3, lines("a NO"), asBefore, nil},
		{900, "a RENAME inbox work", 3, lines("a NO"), asBefore, nil},
		{20, "a APPEND inbox x", 3, lines("a NO"), asBefore, nil},
	} {
		speaks(t, v, one)
	}
	flagless := withServer(v, func(v *impl.Server) { v.Session.View = []int{40, 70} })
	speaks(t, flagless, talk{900, "a EXPUNGE", 0, lines("a OK"), asBefore, nil})
}

// TestServerSavesWithCallsAlone: whatever was saved is as it was without calls, and all of it is with one.
func TestServerSavesWithCallsAlone(t *testing.T) {
	for _, saved := range []int{0, 1, 33, 154, 155, 1000, -1, math.MinInt, math.MaxInt} {
		v := withServer(newsServer(t), func(v *impl.Server) { v.Kept.Saved = saved })
		for word, right := range sayings() {
			line := lineOf(atomsOf(append([]string{"a", word}, right...)...), false)
			now, code := checksStep(t, fed(t, v, line), 900)
			changes := slices.Contains([]string{"CREATE", "DELETE", "RENAME", "APPEND", "EXPUNGE"}, word)
			switch {
			case code != 0:
				t.Errorf("%q: %d", line, code)
			case changes && (now.Kept.Saved != len(now.Kept.Journal) || now.Kept.Journal == v.Kept.Journal):
				t.Errorf("%q: not all was saved: %+v", line, now.Kept)
			case !changes && !likeKepts(now.Kept, v.Kept):
				t.Errorf("%q: %+v", line, now.Kept)
			}
		}
		for _, line := range []string{"a CREATE inbox\r\n", "a  b\r\n", "a\r\n", "a"} {
			if now, _ := checksStep(t, fed(t, v, line), 900); !likeKepts(now.Kept, v.Kept) {
				t.Errorf("%q: %+v", line, now.Kept)
			}
		}
	}
}

// undoneWith says a line of which the calls can not be done: the other answer is told, and nothing else is another way.
func undoneWith(t *testing.T, v impl.Server, gid int, line string) {
	t.Helper()
	speaks(t, v, talk{gid, line, 3, lines("a NO"), asBefore, nil})
}

// doneWith says a line of which all calls can be done.
func doneWith(t *testing.T, v impl.Server, gid int, line string) impl.Server {
	t.Helper()
	now, code := checksStep(t, fed(t, v, line+"\r\n"), gid)
	if code != 0 || !strings.HasSuffix(now.Session.Out, "a OK\r\n") || now.Kept.Saved != len(now.Kept.Journal) || len(now.Kept.Journal) <= len(v.Kept.Journal) {
		t.Fatalf("%q to %+v: %d, %+v", line, v, code, now)
	}
	return now
}

func TestServerUndone(t *testing.T) {
	v := newsServer(t)
	long := strings.Repeat("a", 13)
	for _, line := range []string{"a CREATE inbox", "a CREATE empty", "a CREATE Inbox", `a CREATE ""`, "a CREATE " + long, "a CREATE {1}\r\n\x00", "a RENAME work inbox", "a RENAME work work", "a RENAME inbox Inbox", `a RENAME inbox ""`, "a RENAME inbox " + long} {
		undoneWith(t, v, 900, line)
	}
	for _, gid := range []int{0, -1, 10000, math.MinInt, math.MaxInt, 5, 6, 9, 40, 20, 60, 80} {
		undoneWith(t, v, gid, "a CREATE new")
		undoneWith(t, v, gid, "a APPEND inbox x")
		undoneWith(t, v, gid, "a APPEND empty {0}\r\n")
	}
	for _, gid := range []int{1, 2, 9999} {
		doneWith(t, v, gid, "a CREATE new")
		doneWith(t, v, gid, "a APPEND inbox x")
	}
	// A name that was there, and is there no more, may be given again; a Gid may not.
	dropped := doneWith(t, v, 900, "a DELETE work")
	undoneWith(t, dropped, 6, "a CREATE work")
	doneWith(t, dropped, 7, "a CREATE work")
}

// TestServerGoesOnBehindNo: what was answered as not done is as if it had not been said.
func TestServerGoesOnBehindNo(t *testing.T) {
	v := newsServer(t)
	now := fed(t, v, "a CREATE inbox\r\na APPEND inbox x\r\na CREATE new\r\n")
	for i, gid := range []int{900, 20, 901} {
		next, code := checksStep(t, now, gid)
		if code != []int{3, 3, 0}[i] {
			t.Fatalf("%d: %d, %+v", i, code, next)
		}
		now = next
	}
	alone := doneWith(t, v, 901, "a CREATE new")
	if !likeKepts(now.Kept, alone.Kept) || now.Session.Out != "out"+lines("a NO", "a NO", "* 1 EXPUNGE", "* 5 EXISTS", "a OK") {
		t.Errorf("%+v, not %+v", now, alone)
	}
}

// TestServerJournalLimits: a journal that becomes just MaxText long, and one that would be one longer.
func TestServerJournalLimits(t *testing.T) {
	s := postStore(t)
	for _, c := range []struct {
		line  string
		calls []impl.Call
	}{
		{"a CREATE new", []impl.Call{callOf(1, 900, 0, 0, "new")}}, {"a DELETE work", []impl.Call{callOf(3, 6, 0, 0, "")}}, {"a RENAME work play", []impl.Call{callOf(2, 6, 0, 0, "play")}},
		{"a APPEND work text", []impl.Call{callOf(4, 6, 900, 0, "text")}}, {"a STORE 2 1", []impl.Call{callOf(5, 5, 20, 1, "")}}, {"a STORE 1:* 6", []impl.Call{callOf(5, 5, 40, 6, ""), callOf(5, 5, 20, 6, ""), callOf(5, 5, 70, 6, ""), callOf(5, 5, 10, 6, ""), callOf(5, 5, 30, 6, "")}},
		{"a EXPUNGE", []impl.Call{callOf(6, 5, 20, 0, ""), callOf(6, 5, 10, 0, "")}},
	} {
		size := len(journalByWords(c.calls...))
		for _, room := range []int{size, size + 1, size + 300} {
			if now := doneWith(t, keeping(s, 20000-room, allOf()), 900, c.line); len(now.Kept.Journal) != 20000-room+size {
				t.Errorf("%q: %d bytes", c.line, len(now.Kept.Journal))
			}
		}
		for _, room := range []int{size - 1, size - 2, size / 2, 1, 0, -1, -20000} {
			undoneWith(t, keeping(s, 20000-room, allOf()), 900, c.line)
		}
	}
	// Without calls there is nothing to be written down.
	for _, size := range []int{20000, 20001, 50000} {
		speaks(t, keeping(s, size, allOf()), talk{900, "a STORE 9 1", 0, lines("a OK"), asBefore, nil})
		speaks(t, keeping(s, size, allOf()), talk{900, "a NOOP", 0, lines("a OK"), asBefore, nil})
	}
}

// TestServerOneInTheMiddle: of several calls all but one could be done, by themselves, and none is.
func TestServerOneInTheMiddle(t *testing.T) {
	s := behind(t, impl.StoreNew(1), makes(5, "inbox"), puts(5, 1), puts(5, 200), puts(5, 2), marks(5, 1, 4), marks(5, 200, 4), marks(5, 2, 4))
	x := looking(5, 1, 200, 2)
	// The Gid of the second mail has two bytes: there is room for one record and the last one, but not for that.
	for _, line := range []string{"a STORE 1:3 1", "a EXPUNGE"} {
		short, long := 10, 11
		for _, room := range []int{0, short - 1, short, short + long - 1, short + long, short + long + short - 1} {
			undoneWith(t, keeping(s, 20000-room, x), 900, line)
		}
		doneWith(t, keeping(s, 20000-short-long-short, x), 900, line)
	}
	doneWith(t, keeping(s, 20000-20, x), 900, "a STORE 1,3 1")
	undoneWith(t, keeping(s, 20000-20, x), 900, "a STORE 1,2 1")
	undoneWith(t, keeping(s, 20000-20, x), 900, "a STORE 2:3 1")
	// One that the View has twice can be taken out once; marked it can be as often as one likes.
	twice := looking(5, 1, 200, 1, 2)
	undoneWith(t, keeping(s, 0, twice), 900, "a EXPUNGE")
	undoneWith(t, keeping(s, 0, looking(5, 200, 200)), 900, "a EXPUNGE")
	if now := doneWith(t, keeping(s, 0, twice), 900, "a STORE 1:* 1"); now.Kept.Store.Time != s.Time+4 {
		t.Errorf("%+v", now.Kept.Store)
	}
}

// TestServerStoreLimits: a limit of the store that is met exactly, and one that is passed by one; also by the last of several calls.
func TestServerStoreLimits(t *testing.T) {
	for mails := 8; mails <= 10; mails++ {
		b := someBox(mails, 0)
		v := keeping(storeOf(1, 200, []impl.Box{b}, nil), 0, looking(5, viewOf(b)...))
		if mails < 10 {
			doneWith(t, v, 900, "a APPEND inbox x")
		} else {
			undoneWith(t, v, 900, "a APPEND inbox x")
		}
	}
	for boxes := 3; boxes <= 5; boxes++ {
		v := keeping(someStore(boxes, 0), 0, looking(0))
		if boxes < 5 {
			doneWith(t, v, 50, "a CREATE new")
		} else {
			undoneWith(t, v, 50, "a CREATE new")
		}
	}
	for gone := 18; gone <= 20; gone++ {
		v := keeping(someStore(2, gone), 0, looking(100, 1, 2))
		if gone < 20 {
			doneWith(t, v, 50, "a DELETE boxa")
		} else {
			undoneWith(t, v, 50, "a DELETE boxa")
		}
	}
	for gone := 36; gone <= 40; gone++ {
		b := someBox(3, gone)
		for i := range b.Mails {
			b.Mails[i].Flags = flagsOf(4, stampOf(20, 1))
		}
		v := keeping(storeOf(1, 200, []impl.Box{b}, nil), 0, looking(5, viewOf(b)...))
		if gone <= 37 {
			doneWith(t, v, 50, "a EXPUNGE")
		} else {
			undoneWith(t, v, 50, "a EXPUNGE")
		}
	}
	for time := 99996; time <= 100000; time++ {
		v := keeping(withPart(postStore(t), func(s *impl.Store) { s.Time = time }), 0, allOf())
		if time <= 99997 {
			doneWith(t, v, 900, "a STORE 1:3 1")
		} else {
			undoneWith(t, v, 900, "a STORE 1:3 1")
		}
		if time < 100000 {
			doneWith(t, v, 900, "a CREATE new")
			doneWith(t, v, 900, "a APPEND inbox x")
			doneWith(t, v, 900, "a STORE * 1")
		} else {
			undoneWith(t, v, 900, "a CREATE new")
			undoneWith(t, v, 900, "a APPEND inbox x")
			undoneWith(t, v, 900, "a STORE * 1")
		}
		// No stamp is given here.
		doneWith(t, v, 900, "a EXPUNGE")
		doneWith(t, v, 900, "a DELETE inbox")
	}
}

// TestServerWrongLines: `* BAD`, and In without what was read.
func TestServerWrongLines(t *testing.T) {
	v := newsServer(t)
	for _, c := range [][2]string{
		{"a  b\r\nnext", "next"}, {"\r\n", ""}, {"\r\n\r\n", "\r\n"}, {" a\r\nb NOOP\r\n", "b NOOP\r\n"}, {"a \xff\r\nnext", "next"}, {"a\xff", ""}, {"{61}\r\nabc", "abc"}, {"a b c d e f g h i\r\nnext\r\n", "next\r\n"},
		{"a {1}\r\nab\r\nnext", "ab\r\nnext"}, {strings.Repeat("a ", 100) + "b\r\nx", "x"}, {strings.Repeat("a ", 100) + "b", ""}, {strings.Repeat("a", 41) + "\r\nnext", "next"}, {`a "` + strings.Repeat("x", 61) + "\"\r\nnext", "next"},
	} {
		got, code := checksStep(t, fed(t, v, c[0]), 900)
		want := withServer(v, func(v *impl.Server) { v.Session.In, v.Session.Out = c[1], "out* BAD\r\n" })
		if code != 2 || !likeServers(got, want) {
			t.Errorf("%q: %d, %+v", c[0], code, got)
		}
	}
	for _, line := range wrongLines() {
		for _, text := range []string{line, line + "\r\n", line + "\r\nb NOOP\r\n", "a " + line + "\r\n"} {
			now := v
			now.Session.In = text
			for code := 0; code != 1; {
				before := now
				now, code = checksStep(t, now, 900)
				if code == 2 && (len(now.Session.In) >= len(before.Session.In) || now.Session.Out != before.Session.Out+"* BAD\r\n" || !likeKepts(now.Kept, before.Kept)) {
					t.Fatalf("%q: %+v", text, now)
				}
			}
		}
	}
	// Nobody has to be let in for that.
	now, code := checksStep(t, fed(t, impl.ServerNew(2), " \r\nx"), 1)
	if want := serverOf(impl.KeptNew(2), impl.Session{In: "x", Out: "* OK\r\n* BAD\r\n"}, true); code != 2 || !likeServers(now, want) {
		t.Errorf("%d, %+v", code, now)
	}
}

// TestServerFalls: whatever is cut, what was answered as done is there, and what was answered as not done is not.
func TestServerFalls(t *testing.T) {
	list := talked(t)
	for i, v := range list {
		for _, cut := range cutsAround(len(v.Kept.Journal), v.Kept.Saved) {
			want := serverOf(v.Kept, impl.SessionNew(), false)
			fallen := checksServerFall(t, v, cut)
			if !likeServers(fallen, want) {
				t.Fatalf("%d, cut %d: %+v", i, cut, fallen)
			}
			if risen := checksRise(t, fallen); !likeServers(risen, serverOf(v.Kept, impl.SessionNew(), true)) {
				t.Fatalf("%d, cut %d: %+v", i, cut, risen)
			}
		}
	}
	// The rest of the talk goes on behind a fall, for one who is let in, and looks again.
	for i, one := range wholeTalk() {
		if !list[i].Session.On || one.code == 2 {
			continue
		}
		v := checksRise(t, checksServerFall(t, list[i], 0))
		v = speaks(t, v, talk{1, "z LOGIN ann x", 0, lines("z OK"), func(x *impl.Session) { x.On = true }, nil})
		v.Session.Box, v.Session.View = list[i].Session.Box, list[i].Session.View
		if v = speaks(t, v, one); !likeKepts(v.Kept, list[i+1].Kept) {
			t.Fatalf("%q behind a fall: %+v", one.line, v)
		}
	}
}

// TestServerFallsWithMoreToSave: what was done and not saved is there as far as whole records are.
func TestServerFallsWithMoreToSave(t *testing.T) {
	v := newsServer(t)
	for cut := -3; cut <= len(v.Kept.Journal)+3; cut++ {
		fallen := checksServerFall(t, v, cut)
		texts, size := recordsByWords(v.Kept.Journal[:min(33+max(cut, 0), len(v.Kept.Journal))])
		want := serverOf(keptOf(madeByWords(1, texts), v.Kept.Journal[:size], size), impl.SessionNew(), false)
		if !likeServers(fallen, want) || !impl.KeptOk(fallen.Kept) {
			t.Fatalf("cut %d: %+v", cut, fallen)
		}
	}
	// Once something is answered, all of it is saved.
	v = doneWith(t, v, 900, "a CREATE new")
	for cut := -3; cut <= len(v.Kept.Journal)+3; cut++ {
		if fallen := checksServerFall(t, v, cut); !likeKepts(fallen.Kept, v.Kept) {
			t.Fatalf("cut %d: %+v", cut, fallen)
		}
	}
}

// shut holds that nothing is taken and nothing done: it stays as it is.
func shut(t *testing.T, v impl.Server) {
	t.Helper()
	for _, in := range []string{"", "a", "a NOOP\r\n", "a NOOP\r\nb NOOP\r\n", "a  b\r\n", "\xff", "a CREATE new\r\n", "a CREATE inbox\r\n", "a LOGIN b c\r\n", "a LOGOUT\r\n", strings.Repeat("a", 500)} {
		w := withServer(v, func(v *impl.Server) { v.Session.In = in })
		for _, gid := range []int{900, 0, 5} {
			if now, code := checksStep(t, w, gid); code != 4 || !likeServers(now, w) {
				t.Errorf("%q to %+v: %d, %+v", in, w, code, now)
			}
		}
		for _, text := range []string{"", "a", "a NOOP\r\n", strings.Repeat("a", 500)} {
			if now, ok := checksFeed(t, w, text); ok || !likeServers(now, w) {
				t.Errorf("%q to %+v: %v, %+v", text, w, ok, now)
			}
		}
	}
}

func TestServerNotUp(t *testing.T) {
	for _, v := range append(talked(t), newsServer(t), postServer(t), impl.ServerNew(2), impl.ServerNew(0), impl.Server{}) {
		shut(t, impl.FallServer(v, 0))
		shut(t, withServer(v, func(v *impl.Server) { v.Up = false }))
		shut(t, withServer(v, func(v *impl.Server) { v.Up, v.Session.Over = false, true }))
	}
	// It may fall again, and rise once it is Up.
	v := newsServer(t)
	fallen := checksServerFall(t, v, 21)
	if again := checksServerFall(t, fallen, 0); !likeServers(again, fallen) {
		t.Errorf("%+v became %+v", fallen, again)
	}
	if again := checksRise(t, v); !likeServers(again, v) {
		t.Errorf("%+v became %+v", v, again)
	}
	risen := checksRise(t, fallen)
	if again := checksRise(t, risen); !likeServers(again, risen) {
		t.Errorf("%+v became %+v", risen, again)
	}
	// Rising alone changes nothing of one who is not new.
	down := withServer(v, func(v *impl.Server) { v.Up, v.Session.In = false, "a NOOP\r\n" })
	if now, code := checksStep(t, checksRise(t, down), 900); code != 0 || now.Session.Out != "out"+lines("* 1 EXPUNGE", "* 5 EXISTS", "a OK") {
		t.Errorf("%d, %+v", code, now)
	}
}

func TestServerOver(t *testing.T) {
	v := fed(t, newsServer(t), "a LOGOUT\r\nb CREATE new\r\n")
	v, code := checksStep(t, v, 900)
	if code != 0 || !v.Session.Over || v.Session.In != "b CREATE new\r\n" || v.Session.Out != "out* BYE\r\na OK\r\n" {
		t.Fatalf("%d, %+v", code, v)
	}
	if now, code := checksStep(t, v, 900); code != 4 || !likeServers(now, v) {
		t.Errorf("%d, %+v", code, now)
	}
	shut(t, v)
	shut(t, checksRise(t, v))
	// Behind a fall there is a new one, who may say something.
	risen := checksRise(t, checksServerFall(t, v, 0))
	speaks(t, risen, talk{1, "a LOGIN ann x", 0, lines("a OK"), func(x *impl.Session) { x.On = true }, nil})
}

func TestFeedServer(t *testing.T) {
	v := newsServer(t)
	for _, size := range []int{0, 1, 199, 200, 201, 398, 399, 400, 401, 402, 5000} {
		for _, more := range []int{0, 1, 199, 200, 201, 398, 399, 400, 401, 402, 5000} {
			w := withServer(v, func(v *impl.Server) { v.Session.In = strings.Repeat("x", size) })
			text := strings.Repeat("\xff", more)
			want := w
			if size+more <= 400 {
				want = withServer(w, func(v *impl.Server) { v.Session.In += text })
			}
			if now, ok := checksFeed(t, w, text); ok != (size+more <= 400) || !likeServers(now, want) {
				t.Errorf("%d and %d bytes: %v, %+v", size, more, ok, now)
			}
		}
	}
	for _, text := range []string{"", "\r\n", "\x00", everyByte(), strings.Repeat("a NOOP\r\n", 50)} {
		if now := fed(t, v, text); now.Session.In != text || !likeServers(withServer(now, func(v *impl.Server) { v.Session.In = "" }), v) {
			t.Errorf("%q: %+v", text, now)
		}
	}
	// What was stepped makes room for as much.
	v = fed(t, impl.ServerNew(1), strings.Repeat("a NOOP\r\n", 50))
	for range 50 {
		if _, ok := checksFeed(t, v, "b NOOP\r\n"); ok {
			t.Fatalf("it takes more: %+v", v)
		}
		now, code := checksStep(t, v, 1)
		if code != 0 {
			t.Fatalf("%d, %+v", code, now)
		}
		v = fed(t, now, "c NOOP\r\n")
	}
	if v.Session.In != strings.Repeat("c NOOP\r\n", 50) || v.Session.Out != "* OK\r\n"+strings.Repeat("a OK\r\n", 50) {
		t.Errorf("%+v", v)
	}
}

// wrongServers: a journal that is no whole record, or makes another store; Saved that is nowhere; a store that is not right; a session that looks at nothing, or has more in In than may be.
func wrongServers(t *testing.T) []impl.Server {
	t.Helper()
	v := newsServer(t)
	var list []impl.Server
	add := func(change func(v *impl.Server)) { list = append(list, withServer(v, change)) }
	for _, journal := range []string{"", "junk", "\x00", v.Kept.Journal[:40], v.Kept.Journal[1:], v.Kept.Journal + "junk", recordByWords("a"), strings.Repeat("j", 19990), strings.Repeat("j", 30000)} {
		add(func(v *impl.Server) { v.Kept.Journal = journal })
	}
	for _, saved := range []int{-1, 0, 1, len(v.Kept.Journal), len(v.Kept.Journal) + 1, math.MinInt, math.MaxInt} {
		add(func(v *impl.Server) { v.Kept.Saved = saved })
	}
	for i, s := range append(wrongStores(), impl.Store{}, impl.StoreNew(0), impl.StoreNew(-1)) {
		if i%7 == 0 || i < 10 {
			add(func(v *impl.Server) { v.Kept.Store = s })
		}
	}
	for _, box := range []int{0, 1, 40, -5, math.MinInt, math.MaxInt} {
		add(func(v *impl.Server) { v.Session.Box = box })
	}
	for _, view := range [][]int{nil, {}, {0}, {-1, 20}, {20, 20, 10}, {99, 98, 97}, numbersFrom(1, 300), {math.MinInt, math.MaxInt}} {
		add(func(v *impl.Server) { v.Session.View = view })
	}
	for _, in := range []string{strings.Repeat("a", 500), strings.Repeat("a NOOP\r\n", 100), "a EXPUNGE\r\n" + strings.Repeat("x", 400)} {
		add(func(v *impl.Server) { v.Session.In = in })
	}
	add(func(v *impl.Server) { v.Session.On = false })
	return append(list, impl.Server{}, impl.Server{Up: true}, serverOf(impl.Kept{}, impl.SessionNew(), true))
}

func TestServersThatAreNotRight(t *testing.T) {
	texts := []string{"", "x", "a NOOP\r\n", "a STORE 1:* 4\r\n", "a EXPUNGE\r\n", "a CREATE new\r\n", "a DELETE inbox\r\n", "a APPEND inbox x\r\n", "a FETCH 1:*\r\n", "a SELECT inbox\r\n", "a  b\r\n", "a LOGOUT\r\n", "a STATUS inbox\r\na LIST\r\n"}
	done, undone := 0, 0
	for _, v := range wrongServers(t) {
		for _, text := range texts {
			now, _ := checksFeed(t, v, text)
			for range 3 {
				next, code := checksStep(t, now, 900)
				if code == 0 && next.Kept.Journal != now.Kept.Journal {
					done++
				}
				if code == 3 {
					undone++
				}
				now = next
			}
			for _, cut := range []int{0, 5, -1, 33, math.MaxInt, math.MinInt} {
				checksRise(t, checksServerFall(t, now, cut))
			}
		}
	}
	if done < 50 || undone < 50 {
		t.Errorf("%d were done, %d were not", done, undone)
	}
}

// TestServerJournalsThatAreNotRight: what is there stays ahead of what is written down, and is saved with it.
func TestServerJournalsThatAreNotRight(t *testing.T) {
	for _, size := range []int{1, 5, 100, 19900} {
		for _, saved := range []int{-1, 0, 5, size, size + 1, math.MaxInt} {
			v := withServer(keeping(postStore(t), size, allOf()), func(v *impl.Server) { v.Kept.Saved = saved })
			speaks(t, v, talk{900, "a APPEND work x", 0, lines("a OK"), asBefore, []impl.Call{callOf(4, 6, 900, 0, "x")}})
			speaks(t, v, talk{900, "a CREATE work", 3, lines("a NO"), asBefore, nil})
			speaks(t, v, talk{900, "a SELECT work", 0, lines("* 1 EXISTS", "* OK NEXT 2", "a OK"), looksAt(6, 60), nil})
		}
	}
	// A view of nothing: the calls of what is there no more are left out, and so nothing is done.
	for _, x := range []impl.Session{looking(5, 98, 99), looking(77, 40, 20), looking(-1, 0)} {
		v := keeping(postStore(t), 9, x)
		speaks(t, v, talk{900, "a STORE 1:* 4", 0, lines("a OK"), asBefore, nil})
		speaks(t, v, talk{900, "a EXPUNGE", 0, lines("a OK"), asBefore, nil})
	}
	v := keeping(postStore(t), 9, looking(77, 40, 20))
	speaks(t, v, talk{900, "a APPEND inbox x", 0, lines("* BYE box", "a OK"), looksAt(0), []impl.Call{callOf(4, 5, 900, 0, "x")}})
}

// drawnServer is of any store, session and journal.
func drawnServer(r *rand.Rand) impl.Server {
	k := drawnKept(r)
	if r.Intn(5) == 0 {
		k.Journal = strings.Repeat("j", 20000-r.Intn(60))
	}
	x := drawnSession(r, k.Store)
	x.In = ""
	x.Over = x.Over && r.Intn(3) == 0
	for range r.Intn(4) {
		x.In += sayByWords(r, drawnSaying(r, k.Store))
	}
	if r.Intn(3) == 0 {
		x.In = x.In[:r.Intn(len(x.In)+1)]
	}
	return serverOf(k, x, r.Intn(12) > 0)
}

func TestDrawnServers(t *testing.T) {
	r := rand.New(rand.NewSource(1601))
	var codes [5]int
	for range 3000 {
		v := drawnServer(r)
		v, _ = checksFeed(t, v, sayByWords(r, drawnSaying(r, v.Kept.Store)))
		for range 3 {
			next, code := checksStep(t, v, []int{r.Intn(10000), r.Intn(300), 0}[r.Intn(3)])
			codes[code]++
			v = next
		}
		checksRise(t, checksServerFall(t, v, r.Intn(100)-5))
	}
	for code, n := range codes {
		if n < 100 {
			t.Errorf("the code %d came %d times", code, n)
		}
	}
}

// lifeOfServer is a server with what it is still to be fed, and one who has nothing but what it tells.
type lifeOfServer struct {
	now                 impl.Server
	stream              string
	one                 counting
	falls, done, undone int
}

// fallsAndRises comes back with all that was answered, whatever is cut; who looks is a new one, who is to be let in.
func (l *lifeOfServer) fallsAndRises(t *testing.T, cut int) {
	t.Helper()
	kept := l.now.Kept
	l.now = checksRise(t, checksServerFall(t, l.now, cut))
	if !likeKepts(l.now.Kept, kept) {
		t.Fatalf("%+v came back as %+v", kept, l.now.Kept)
	}
	l.falls++
	l.stream, l.one = "t LOGIN ann x\r\n", counting{}
}

// joinsWith brings what another server has, as no line does; it is told at once.
func (l *lifeOfServer) joinsWith(other impl.Store) {
	k, ok := impl.DoKept(l.now.Kept, joins(other))
	if !ok {
		return
	}
	l.now.Kept = impl.SaveKept(k)
	l.now.Session, _ = impl.Told(l.now.Session, k.Store)
	l.one.mails = slices.Clone(l.now.Session.View)
}

// steps asks of one step what it told, and what is kept then.
func (l *lifeOfServer) steps(t *testing.T, gid int) {
	t.Helper()
	before := l.now
	now, code := checksStep(t, before, gid)
	told, goesOn := strings.CutPrefix(now.Session.Out, before.Session.Out)
	if !goesOn {
		t.Fatalf("%q was told, and then %q", before.Session.Out, now.Session.Out)
	}
	l.one.hears(t, told)
	l.one.countsAs(t, now.Session.View)
	isOk := strings.HasSuffix(told, " OK\r\n")
	if !isOk && !likeKepts(now.Kept, before.Kept) {
		t.Fatalf("%q was told, and %+v became %+v", told, before.Kept, now.Kept)
	}
	if !impl.KeptOk(now.Kept) || now.Kept.Saved != len(now.Kept.Journal) {
		t.Fatalf("%q was told, and this is not right, or not saved: %+v", told, now.Kept)
	}
	switch {
	case code == 3:
		l.undone++
	case isOk && !likeKepts(now.Kept, before.Kept):
		l.done++
	}
	l.now = now
}

// TestServersKeepWhatTheyAnswered: lines come in pieces of any size, others bring what they have, and it falls. What was answered as done is there behind each fall, what was not is not; one who hears only what is told counts as the View does.
func TestServersKeepWhatTheyAnswered(t *testing.T) {
	r := rand.New(rand.NewSource(1602))
	falls, done, undone := 0, 0, 0
	for life := range 60 {
		l := lifeOfServer{now: impl.ServerNew(1 + life%2), stream: "t LOGIN ann x\r\n"}
		other := oneStore(t, 2-life%2)
		for step := range 150 {
			if l.stream == "" {
				l.stream = sayByWords(r, drawnSaying(r, l.now.Kept.Store))
			}
			size := min(len(l.stream), 1+r.Intn(60))
			l.now, l.stream = fed(t, l.now, l.stream[:size]), l.stream[size:]
			l.steps(t, []int{1000 + step, 1000 + step, 5, 1 + r.Intn(9)}[r.Intn(4)])
			switch what := r.Intn(30); {
			case what == 0 || l.now.Session.Over:
				l.fallsAndRises(t, r.Intn(80)-5)
			case what == 1:
				other = drawnApart(r, twoStores{other, other}, 3).a
				l.joinsWith(other)
			}
		}
		falls, done, undone = falls+l.falls, done+l.done, undone+l.undone
	}
	if falls < 300 || done < 250 || undone < 200 {
		t.Errorf("%d falls, %d done, %d not", falls, done, undone)
	}
}

func roomyServer(v impl.Server) impl.Server {
	return serverOf(roomyKept(v.Kept), roomySession(v.Session), v.Up)
}

// wholeServer has what stands behind the ends as well.
func wholeServer(v impl.Server) impl.Server {
	v.Kept.Store = wholeStore(v.Kept.Store)
	v.Session.View = slices.Clone(v.Session.View[:cap(v.Session.View)])
	return v
}

func spoilServer(v impl.Server) {
	spoilStore(v.Kept.Store)
	spoilNumbers(v.Session.View)
}

// memoryServers have each word in In, done and not, or what is no line, or nothing; some are not Up, or Over, or not right.
func memoryServers(t *testing.T) []impl.Server {
	t.Helper()
	var list []impl.Server
	add := func(v impl.Server, in string) {
		list = append(list, withServer(v, func(v *impl.Server) { v.Session.In = in }))
	}
	for word, right := range sayings() {
		line := lineOf(atomsOf(append([]string{strings.Repeat("tag", 2), word}, right...)...), false)
		for _, v := range []impl.Server{newsServer(t), impl.ServerNew(2), keeping(postStore(t), 19999, allOf()), keeping(someStore(6, 3), 9, looking(100, 1000))} {
			add(v, line)
			add(v, line+"more of it")
		}
	}
	for _, v := range []impl.Server{newsServer(t), impl.ServerNew(1), {}, {Up: true}} {
		for _, in := range []string{"", "tag", "tag  NOOP\r\n", "tag\r\n", "\xff", "tag UID\r\nmore"} {
			add(v, in)
			add(withServer(v, func(v *impl.Server) { v.Up = false }), in)
			add(withServer(v, func(v *impl.Server) { v.Session.Over = true }), in)
		}
	}
	return append(list, talked(t)...)
}

// answersOfServer are all that is answered of one.
func answersOfServer(v impl.Server, text string) []impl.Server {
	var list []impl.Server
	for _, more := range []string{text, ""} {
		now, _ := impl.FeedServer(v, more)
		list = append(list, now)
	}
	for _, gid := range []int{900, 5} {
		now, _ := impl.StepServer(v, gid)
		list = append(list, now)
	}
	for _, cut := range []int{-1, 20, math.MaxInt} {
		list = append(list, impl.FallServer(v, cut))
	}
	return append(list, impl.RiseServer(v))
}

func TestServersLeaveTheirArguments(t *testing.T) {
	for _, given := range append(memoryServers(t), wrongServers(t)...) {
		v := roomyServer(given)
		whole := wholeServer(v)
		answersOfServer(v, "text")
		if !likeServers(wholeServer(v), whole) {
			t.Fatalf("%+v was written into, or behind its end", given)
		}
	}
}

// TestServersNewMemory: what is answered stays as it is when an argument is changed behind the call, and the other way round.
func TestServersNewMemory(t *testing.T) {
	for _, given := range memoryServers(t) {
		v := roomyServer(given)
		answers := answersOfServer(v, "text")
		var kept []impl.Server
		for _, answer := range answers {
			kept = append(kept, copyServer(answer))
		}
		spoilServer(v)
		v = roomyServer(given)
		whole := wholeServer(v)
		again := answersOfServer(v, "text")
		for i, answer := range answers {
			if !likeServers(answer, kept[i]) {
				t.Fatalf("answer %d of %+v became %+v when the argument was changed", i, given, answer)
			}
			spoilServer(answer)
		}
		for i, answer := range again {
			if !likeServers(answer, kept[i]) {
				t.Fatalf("answer %d of %+v changed with another one", i, given)
			}
			spoilServer(answer)
		}
		if !likeServers(wholeServer(v), whole) {
			t.Fatalf("%+v changed with its answers", given)
		}
	}
}

func textsOfServer(v impl.Server) []string {
	return append(textsOfStore(v.Kept.Store), v.Kept.Journal, v.Session.In, v.Session.Out)
}

func TestServersShareNoTexts(t *testing.T) {
	for _, given := range memoryServers(t) {
		v, text := roomyServer(given), strings.Repeat("text", 2)
		theirs := append(textsOfServer(v), text)
		for i, answer := range answersOfServer(v, text) {
			own := textsOfServer(answer)
			for at, one := range own {
				if slices.ContainsFunc(theirs, func(other string) bool { return sharesMemory(one, other) }) {
					t.Fatalf("answer %d of %+v shares the text %q", i, given, one)
				}
				if slices.ContainsFunc(own[at+1:], func(other string) bool { return sharesMemory(one, other) }) {
					t.Fatalf("answer %d of %+v has the text %q twice", i, given, one)
				}
			}
		}
	}
}

// TestListsOfOneServerApart: no list of an answer lies within another one, also where the argument's lists do.
func TestListsOfOneServerApart(t *testing.T) {
	numbers, flags := []int{8001, 8002}, flagsOf(7, stampOf(4, 1))
	for _, size := range []int{2, 5, 6} {
		for _, in := range []string{"", "a NOOP\r\n", "a EXPUNGE\r\n", "a CREATE new\r\n", "a CREATE boxa\r\n", "a SELECT boxa\r\n", "a  b\r\n"} {
			v := keeping(someStore(size, 0), 9, looking(100))
			v.Session.In = in
			v.Session.View, v.Kept.Store.Gone = numbers, numbers
			for i := range v.Kept.Store.Boxes {
				v.Kept.Store.Boxes[i].Gone = numbers
			}
			for _, m := range mailsIn(&v.Kept.Store) {
				m.Flags = flags
			}
			for _, answer := range answersOfServer(v, "text") {
				store := copyStore(answer.Kept.Store)
				spoilNumbers(answer.Session.View)
				if !likeStores(answer.Kept.Store, store) {
					t.Fatalf("%q: its View lies within its store", in)
				}
				view := slices.Clone(answer.Session.View)
				apartFromEachOther(t, answer.Kept.Store)
				spoilStore(answer.Kept.Store)
				if !slices.Equal(answer.Session.View, view) {
					t.Fatalf("%q: its store lies within its View", in)
				}
			}
		}
	}
}

// TestServersAgain: what was said to one leaves nothing for another, also when many are under way.
func TestServersAgain(t *testing.T) {
	v := newsServer(t)
	lives := talked(t)
	var group sync.WaitGroup
	for worker := range 8 {
		group.Go(func() {
			r := rand.New(rand.NewSource(int64(1610 + worker)))
			for i := range 60 {
				w := withServer(v, func(v *impl.Server) { v.Session.In = sayByWords(r, drawnSaying(r, v.Kept.Store)) })
				got, code := impl.StepServer(w, 900)
				if want, wantCode := stepByWords(w, 900); code != wantCode || !likeServers(got, want) {
					t.Errorf("%q: %d, %+v", w.Session.In, code, got)
				}
				life := lives[(7*i+worker)%len(lives)]
				if got := impl.RiseServer(impl.FallServer(life, i)); !likeServers(got, serverOf(life.Kept, impl.SessionNew(), true)) {
					t.Errorf("%+v came back as %+v", life, got)
				}
				if got := impl.ServerNew(2); !likeServers(got, serverOf(impl.KeptNew(2), impl.SessionNew(), true)) {
					t.Errorf("%+v", got)
				}
			}
		})
	}
	group.Wait()
}
