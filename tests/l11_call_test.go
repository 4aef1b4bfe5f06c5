package tests

import (
	"math"
	"math/rand"
	"slices"
	"strings"
	"sync"
	"testing"

	"loop.example/g00324/impl"
)

func callOf(kind, box, gid, flags int, text string) impl.Call {
	return impl.Call{Kind: kind, Box: box, Gid: gid, Flags: flags, Text: text}
}

// joins is a call whose text is written apart from the program.
func joins(s impl.Store) impl.Call {
	return impl.Call{Kind: 7, Text: storeByWords(s)}
}

// asCall has of a call of chapter 7 what its kind uses, and nothing else.
func asCall(c storeCall) impl.Call {
	switch c.name {
	case "MakeBox":
		return callOf(1, c.box, 0, 0, c.text)
	case "RenameBox":
		return callOf(2, c.box, 0, 0, c.text)
	case "DropBox":
		return callOf(3, c.box, 0, 0, "")
	case "PutMail":
		return callOf(4, c.box, c.gid, c.n, c.text)
	case "MarkMail":
		return callOf(5, c.box, c.gid, c.n, "")
	}
	return callOf(6, c.box, c.gid, 0, "")
}

func asCalls(list ...storeCall) []impl.Call {
	var calls []impl.Call
	for _, c := range list {
		calls = append(calls, asCall(c))
	}
	return calls
}

// ofChapter7 is the other way round; there is none of a CallJoin.
func ofChapter7(c impl.Call) storeCall {
	names := []string{"", "MakeBox", "RenameBox", "DropBox", "PutMail", "MarkMail", "DropMail"}
	return storeCall{names[c.Kind], c.Box, c.Gid, c.Flags, c.Text}
}

func isStoreText(text string) bool {
	_, ok := readStoreByWords(text)
	return ok
}

func callOkByWords(c impl.Call) bool {
	id := func(n int) bool { return n >= 1 && n <= 9999 }
	flags := c.Flags >= 0 && c.Flags <= 7
	switch c.Kind {
	case 1, 2:
		return id(c.Box) && c.Gid == 0 && c.Flags == 0 && nameByWords(c.Text)
	case 3:
		return id(c.Box) && c.Gid == 0 && c.Flags == 0 && c.Text == ""
	case 4:
		return id(c.Box) && id(c.Gid) && flags && len(c.Text) <= 60
	case 5:
		return id(c.Box) && id(c.Gid) && flags && c.Text == ""
	case 6:
		return id(c.Box) && id(c.Gid) && c.Flags == 0 && c.Text == ""
	case 7:
		return c.Box == 0 && c.Gid == 0 && c.Flags == 0 && isStoreText(c.Text)
	}
	return false
}

// doByWords asks for nothing of the program.
func doByWords(s impl.Store, c impl.Call) (impl.Store, bool) {
	if !callOkByWords(c) {
		return s, false
	}
	if c.Kind != 7 {
		return ofChapter7(c).byWords(s)
	}
	other, _ := readStoreByWords(c.Text)
	if other.By == s.By || !storeOkByWords(s) {
		return s, false
	}
	joined := joinStoreByWords(s, other)
	if !storeOkByWords(joined) {
		return s, false
	}
	return joined, true
}

// doByChapters is of a right call what the functions of the chapters ahead answer.
func doByChapters(s impl.Store, c impl.Call) (impl.Store, bool) {
	if c.Kind != 7 {
		return ofChapter7(c).done(s)
	}
	other, ok := impl.ReadStore(c.Text)
	if !ok || other.By == s.By || !impl.FitsStore(s, other) {
		return s, false
	}
	return impl.JoinStore(s, other), true
}

func callPieces(c impl.Call) []piece {
	return append(piecesOf(c.Kind, c.Box, c.Gid, c.Flags), piece{len(c.Text), c.Text})
}

// callByWords writes a call of any numbers, so that it also makes what CallText refuses to.
func callByWords(c impl.Call) string {
	return written(callPieces(c))
}

func readCallByWords(text string) (impl.Call, bool) {
	if text == "" {
		return impl.Call{}, false
	}
	l := along{left: text[1:]}
	c := impl.Call{Kind: int(text[0]), Box: l.number()}
	c.Gid = l.number()
	c.Flags = l.number()
	c.Text = l.text()
	if l.missed || l.left != "" || !callOkByWords(c) {
		return impl.Call{}, false
	}
	return c, true
}

func checksDo(t *testing.T, s impl.Store, c impl.Call) (impl.Store, bool) {
	t.Helper()
	got, ok := impl.DoCall(s, c)
	want, wantOk := doByWords(s, c)
	if ok != wantOk || !likeStores(got, want) {
		t.Fatalf("DoCall(%#v, %#v) = %#v, %v; want %#v, %v", s, c, got, ok, want, wantOk)
	}
	return got, ok
}

func refusesDo(t *testing.T, s impl.Store, c impl.Call) {
	t.Helper()
	kept := copyStore(s)
	if got, ok := impl.DoCall(s, c); ok || !likeStores(got, kept) || !likeStores(s, kept) {
		t.Fatalf("DoCall(%#v, %#v) = %#v, %v", s, c, got, ok)
	}
}

// does wants just what change makes of the store, and nothing else of it turned.
func does(t *testing.T, s impl.Store, c impl.Call, change func(s *impl.Store)) impl.Store {
	t.Helper()
	want := withPart(s, change)
	got, ok := impl.DoCall(s, c)
	if !ok || !likeStores(got, want) || !impl.StoreOk(got) {
		t.Fatalf("DoCall(%#v, %#v) = %#v, %v; want %#v", s, c, got, ok, want)
	}
	return got
}

func refusesReadCall(t *testing.T, text string) {
	t.Helper()
	if c, ok := impl.ReadCall(text); ok || c != (impl.Call{}) {
		t.Fatalf("ReadCall(%q) = %#v, %v", text, c, ok)
	}
}

func refusesCallText(t *testing.T, c impl.Call) {
	t.Helper()
	if text, ok := impl.CallText(c); ok || text != "" {
		t.Fatalf("CallText(%#v) = %q, %v", c, text, ok)
	}
}

// checksReadCall tells whether it is a call's text, by the words.
func checksReadCall(t *testing.T, text string) bool {
	t.Helper()
	want, ok := readCallByWords(text)
	if !ok {
		refusesReadCall(t, text)
		return false
	}
	if got, right := impl.ReadCall(text); !right || got != want {
		t.Fatalf("ReadCall(%q) = %#v, %v; want %#v", text, got, right, want)
	}
	if again, right := impl.CallText(want); !right || again != text {
		t.Fatalf("%q is of %#v, whose CallText is %q, %v", text, want, again, right)
	}
	return true
}

// checksCallText: all that is promised of a right call's text.
func checksCallText(t *testing.T, c impl.Call) {
	t.Helper()
	text, ok := impl.CallText(c)
	if !ok || text != callByWords(c) {
		t.Fatalf("CallText(%#v) = %q, %v; want %q", c, text, ok, callByWords(c))
	}
	again, right := impl.ReadCall(text)
	if !right || again.Kind != c.Kind || again.Box != c.Box || again.Gid != c.Gid || again.Flags != c.Flags || again.Text != c.Text {
		t.Fatalf("%#v came back as %#v, %v", c, again, right)
	}
}

// oneOfEach has no two numbers alike that stand side by side, so that one in another's place would be seen.
func oneOfEach() []impl.Call {
	return []impl.Call{
		callOf(1, 5, 0, 0, "inbox"), callOf(2, 300, 0, 0, "work"), callOf(3, 9999, 0, 0, ""),
		callOf(4, 5, 128, 6, "hi"), callOf(5, 5, 7, 3, ""), callOf(6, 5, 7, 0, ""), joins(smallStore()),
	}
}

// rightCalls: each kind with all that it may use, from one end to the other.
func rightCalls() []impl.Call {
	list := oneOfEach()
	for _, name := range rightNames() {
		list = append(list, callOf(1, 5, 0, 0, name), callOf(2, 5, 0, 0, name))
	}
	for _, id := range rightIds() {
		list = append(list, callOf(1, id, 0, 0, "a"), callOf(2, id, 0, 0, "a"), callOf(3, id, 0, 0, ""))
		for _, gid := range rightIds() {
			list = append(list, callOf(4, id, gid, 0, ""), callOf(5, id, gid, 0, ""), callOf(6, id, gid, 0, ""))
		}
	}
	for n := range 8 {
		list = append(list, callOf(4, 5, 7, n, "hi"), callOf(5, 5, 7, n, ""))
	}
	for _, text := range rightTexts() {
		list = append(list, callOf(4, 5, 7, 1, text))
	}
	for _, s := range append(rightStores(), impl.StoreNew(1), impl.StoreNew(2), fullestStore()) {
		list = append(list, joins(s))
	}
	return list
}

// noStoreTexts: each is no store's text, and most nearly one.
func noStoreTexts() []string {
	body, text := bodyByWords(smallStore()), storeByWords(smallStore())
	list := []string{"", "a", "inbox", body, text[:len(text)-1], text[1:], text + "\x00", "\x00" + text, text + text, sealByWords(text), sealByWords(body + "\x00"), sealByWords(body[:len(body)-1]), sealByWords(""),
		boxByWords(smallBox()), sealByWords(boxByWords(smallBox())), strings.Repeat("m", 60), strings.Repeat("m", impl.MaxText+4), strings.Repeat("m", impl.MaxText+5), callByWords(joins(smallStore()))}
	for _, place := range []int{0, 1, len(body) / 2, len(body) - 1, len(body), len(text) - 1} {
		turned := []byte(text)
		turned[place] ^= 1
		list = append(list, string(turned))
	}
	for i, s := range wrongStores() {
		if i%5 == 0 || s.By == 0 || s.By == 3 {
			list = append(list, storeByWords(s))
		}
	}
	return list
}

// wrongCalls: each is no call for one cause alone.
func wrongCalls() []impl.Call {
	var list []impl.Call
	for _, c := range oneOfEach() {
		add := func(change func(c *impl.Call)) {
			out := c
			change(&out)
			list = append(list, out)
		}
		usesBox, usesGid, usesFlags := c.Kind != 7, c.Kind >= 4 && c.Kind <= 6, c.Kind == 4 || c.Kind == 5
		for _, kind := range []int{0, 8, -1, 9, 127, 128, 128 + c.Kind, 256 + c.Kind, -c.Kind, 1<<32 + c.Kind, math.MaxInt, math.MinInt, math.MinInt + c.Kind} {
			add(func(c *impl.Call) { c.Kind = kind })
		}
		for _, n := range []int{0, 1, -1, 7, 9999, 10000, math.MaxInt, math.MinInt} {
			id := n >= 1 && n <= 9999
			if usesBox && !id || !usesBox && n != 0 {
				add(func(c *impl.Call) { c.Box = n })
			}
			if usesGid && !id || !usesGid && n != 0 {
				add(func(c *impl.Call) { c.Gid = n })
			}
			if usesFlags && (n < 0 || n > 7) || !usesFlags && n != 0 {
				add(func(c *impl.Call) { c.Flags = n })
			}
		}
		add(func(c *impl.Call) { c.Flags = 8 })
		for _, text := range wrongTextsOf(c.Kind) {
			add(func(c *impl.Call) { c.Text = text })
		}
	}
	return append(list, impl.Call{})
}

func wrongTextsOf(kind int) []string {
	switch kind {
	case 1, 2:
		return append(wrongNames(), storeByWords(smallStore()))
	case 4:
		return append(longTexts(), storeByWords(someStore(4, 3)))
	case 7:
		return noStoreTexts()
	}
	return []string{"a", " ", "\x00", "inbox", strings.Repeat("m", 60), storeByWords(impl.StoreNew(1))}
}

func TestCallKinds(t *testing.T) {
	if got := [7]int{impl.CallMake, impl.CallName, impl.CallDrop, impl.CallPut, impl.CallMark, impl.CallOut, impl.CallJoin}; got != [7]int{1, 2, 3, 4, 5, 6, 7} {
		t.Errorf("the kinds are %v", got)
	}
}

func TestCallOk(t *testing.T) {
	for _, c := range rightCalls() {
		if !callOkByWords(c) || !impl.CallOk(c) {
			t.Errorf("CallOk(%#v) = %v", c, impl.CallOk(c))
		}
	}
	for _, c := range wrongCalls() {
		if callOkByWords(c) || impl.CallOk(c) {
			t.Errorf("CallOk(%#v) = %v", c, impl.CallOk(c))
		}
	}
}

// TestCallOkEdges: told one by one, so that what is right hangs on no list.
func TestCallOkEdges(t *testing.T) {
	empty := "\x01\x00\x00\x00\x8a\x4e\x0a\xa3"
	for _, c := range []struct {
		call impl.Call
		want bool
	}{
		{callOf(0, 1, 0, 0, "a"), false}, {callOf(1, 1, 0, 0, "a"), true}, {callOf(2, 1, 0, 0, "a"), true}, {callOf(8, 1, 0, 0, "a"), false},
		{callOf(0, 0, 0, 0, empty), false}, {callOf(7, 0, 0, 0, empty), true}, {callOf(8, 0, 0, 0, empty), false}, {callOf(0, 1, 1, 0, ""), false}, {callOf(8, 1, 1, 0, ""), false},
		{callOf(1, 0, 0, 0, "a"), false}, {callOf(1, 9999, 0, 0, "a"), true}, {callOf(1, 10000, 0, 0, "a"), false},
		{callOf(2, 0, 0, 0, "a"), false}, {callOf(2, 9999, 0, 0, "a"), true}, {callOf(2, 10000, 0, 0, "a"), false},
		{callOf(3, 0, 0, 0, ""), false}, {callOf(3, 1, 0, 0, ""), true}, {callOf(3, 9999, 0, 0, ""), true}, {callOf(3, 10000, 0, 0, ""), false},
		{callOf(4, 0, 1, 0, ""), false}, {callOf(4, 1, 0, 0, ""), false}, {callOf(4, 1, 1, 0, ""), true}, {callOf(4, 9999, 9999, 7, ""), true}, {callOf(4, 10000, 1, 0, ""), false}, {callOf(4, 1, 10000, 0, ""), false},
		{callOf(5, 0, 1, 0, ""), false}, {callOf(5, 1, 0, 0, ""), false}, {callOf(5, 1, 1, 0, ""), true}, {callOf(5, 9999, 9999, 7, ""), true}, {callOf(5, 10000, 1, 0, ""), false}, {callOf(5, 1, 10000, 0, ""), false},
		{callOf(6, 0, 1, 0, ""), false}, {callOf(6, 1, 0, 0, ""), false}, {callOf(6, 1, 1, 0, ""), true}, {callOf(6, 9999, 9999, 0, ""), true}, {callOf(6, 10000, 1, 0, ""), false}, {callOf(6, 1, 10000, 0, ""), false},
		{callOf(4, 1, 1, -1, ""), false}, {callOf(4, 1, 1, 8, ""), false}, {callOf(5, 1, 1, -1, ""), false}, {callOf(5, 1, 1, 8, ""), false}, {callOf(6, 1, 1, 1, ""), false},
		{callOf(1, 1, 0, 0, ""), false}, {callOf(1, 1, 0, 0, "abcdefghijkl"), true}, {callOf(1, 1, 0, 0, "abcdefghijklm"), false},
		{callOf(2, 1, 0, 0, ""), false}, {callOf(2, 1, 0, 0, "abcdefghijkl"), true}, {callOf(2, 1, 0, 0, "abcdefghijklm"), false},
		{callOf(4, 1, 1, 0, strings.Repeat("\xff", 60)), true}, {callOf(4, 1, 1, 0, strings.Repeat("\xff", 61)), false},
		{callOf(1, 1, 1, 0, "a"), false}, {callOf(1, 1, 0, 1, "a"), false}, {callOf(2, 1, 1, 0, "a"), false}, {callOf(2, 1, 0, 1, "a"), false},
		{callOf(3, 1, 1, 0, ""), false}, {callOf(3, 1, 0, 1, ""), false}, {callOf(3, 1, 0, 0, "a"), false}, {callOf(5, 1, 1, 0, "a"), false}, {callOf(6, 1, 1, 0, "a"), false},
		{callOf(7, 1, 0, 0, empty), false}, {callOf(7, 0, 1, 0, empty), false}, {callOf(7, 0, 0, 1, empty), false}, {callOf(7, 0, 0, 0, ""), false}, {callOf(7, 0, 0, 0, empty[:7]), false}, {callOf(7, 0, 0, 0, empty+"\x00"), false},
		{impl.Call{}, false},
	} {
		if got := impl.CallOk(c.call); got != c.want {
			t.Errorf("CallOk(%#v) = %v", c.call, got)
		}
	}
}

// gridStore has the Gids of the ends both as boxes and as mails.
func gridStore() impl.Store {
	first := impl.Box{Gid: 1, Name: "a", Named: stampOf(1, 1), Next: 2, Mails: []impl.Mail{mailOf(9999, 1, flagsOf(5, stampOf(2, 1)), "m")}}
	last := impl.Box{Gid: 9999, Name: "z", Named: stampOf(3, 1), Next: 9, Mails: []impl.Mail{mailOf(1, 8, flagsOf(2, stampOf(4, 2)), "")}, Gone: []int{7}}
	return storeOf(1, 10, []impl.Box{first, last}, []int{8})
}

// TestCallsAllWithAll: every kind with every edge of each field, so that what one kind does not use is told for each.
func TestCallsAllWithAll(t *testing.T) {
	s := gridStore()
	texts := []string{"", "a", "new", "abcdefghijkl", "abcdefghijklm", "A", strings.Repeat("m", 60), strings.Repeat("m", 61), storeByWords(s), storeByWords(impl.StoreNew(2)), storeByWords(smallStore()), bodyByWords(s)}
	right, done := map[int]int{}, map[int]int{}
	for _, kind := range []int{math.MinInt, -1, 0, 1, 2, 3, 4, 5, 6, 7, 8, 129, 260, 1<<32 + 7, math.MaxInt} {
		for _, box := range []int{-1, 0, 1, 5, 9999, 10000} {
			for _, gid := range []int{-1, 0, 1, 5, 9999, 10000} {
				for _, flags := range []int{-1, 0, 1, 7, 8} {
					for _, text := range texts {
						c := callOf(kind, box, gid, flags, text)
						want := callOkByWords(c)
						if impl.CallOk(c) != want {
							t.Fatalf("CallOk(%#v) = %v", c, impl.CallOk(c))
						}
						if _, ok := checksDo(t, s, c); ok {
							done[kind]++
						}
						if !want {
							refusesCallText(t, c)
							refusesReadCall(t, callByWords(c))
							continue
						}
						right[kind]++
						checksCallText(t, c)
					}
				}
			}
		}
	}
	if len(right) != 7 || len(done) != 7 {
		t.Errorf("right: %v, done: %v", right, done)
	}
}

// TestCallTextWritten: number by number; the seals were worked out apart from the program.
func TestCallTextWritten(t *testing.T) {
	long, longest := strings.Repeat("m", 60), storeByWords(fullestStore())
	for _, c := range []struct {
		call impl.Call
		want string
	}{
		{callOf(1, 5, 0, 0, "inbox"), "\x01\x05\x00\x00\x05inbox"},
		{callOf(2, 300, 0, 0, "work"), "\x02\xac\x02\x00\x00\x04work"},
		{callOf(3, 9999, 0, 0, ""), "\x03\x8f\x4e\x00\x00\x00"},
		{callOf(4, 5, 128, 6, "hi"), "\x04\x05\x80\x01\x06\x02hi"},
		{callOf(5, 5, 7, 3, ""), "\x05\x05\x07\x03\x00"},
		{callOf(6, 5, 7, 0, ""), "\x06\x05\x07\x00\x00"},
		{callOf(7, 0, 0, 0, "\x02\x00\x00\x00\x73\xc6\x82\x9e"), "\x07\x00\x00\x00\x08\x02\x00\x00\x00\x73\xc6\x82\x9e"},
		{callOf(7, 0, 0, 0, "\x02\xa0\x8d\x06\x00\x02\x01\x8f\x4e\x58\x91\x8f\x84"), "\x07\x00\x00\x00\x0d\x02\xa0\x8d\x06\x00\x02\x01\x8f\x4e\x58\x91\x8f\x84"},
		{callOf(1, 1, 0, 0, "a"), "\x01\x01\x00\x00\x01a"},
		{callOf(2, 127, 0, 0, "abcdefghijkl"), "\x02\x7f\x00\x00\x0cabcdefghijkl"},
		{callOf(4, 9999, 9999, 7, long), "\x04\x8f\x4e\x8f\x4e\x07\x3c" + long},
		{callOf(4, 1, 1, 0, ""), "\x04\x01\x01\x00\x00"},
		{callOf(5, 9999, 1, 0, ""), "\x05\x8f\x4e\x01\x00\x00"},
		{callOf(6, 1, 9999, 0, ""), "\x06\x01\x8f\x4e\x00\x00"},
		{callOf(7, 0, 0, 0, longest), "\x07\x00\x00\x00\xd5\x23" + longest},
	} {
		if got, ok := impl.CallText(c.call); !ok || got != c.want {
			t.Errorf("CallText(%#v) = %q, %v; want %q", c.call, got, ok, c.want)
		}
		if got, ok := impl.ReadCall(c.want); !ok || got != c.call {
			t.Errorf("ReadCall(%q) = %#v, %v; want %#v", c.want, got, ok, c.call)
		}
	}
}

func TestCallsComeBack(t *testing.T) {
	for _, c := range rightCalls() {
		checksCallText(t, c)
	}
	for _, s := range madeStores(t) {
		text, _ := impl.StoreText(s)
		checksCallText(t, callOf(7, 0, 0, 0, text))
	}
}

func TestCallTextRefused(t *testing.T) {
	for _, c := range wrongCalls() {
		refusesCallText(t, c)
	}
}

// TestCallTextsUnlike: no two calls have one text.
func TestCallTextsUnlike(t *testing.T) {
	calls := map[string]impl.Call{}
	for _, c := range rightCalls() {
		text, _ := impl.CallText(c)
		if other, there := calls[text]; there && other != c {
			t.Errorf("%#v and %#v have the text %q", c, other, text)
		}
		calls[text] = c
	}
}

// TestReadCallOfTheFormAlone: all of it stands there, but what stands there is not right.
func TestReadCallOfTheFormAlone(t *testing.T) {
	for _, c := range wrongCalls() {
		refusesReadCall(t, callByWords(c))
	}
}

// shortCalls are those whose texts can be gone through byte by byte.
func shortCalls() []impl.Call {
	return append(oneOfEach(), joins(impl.StoreNew(1)), callOf(1, 128, 0, 0, "abcdefghijkl"), callOf(4, 9999, 9999, 7, strings.Repeat("m", 60)), callOf(4, 1, 1, 0, ""))
}

func TestReadCallCut(t *testing.T) {
	for _, c := range append(shortCalls(), joins(someStore(5, 20)), joins(fullestStore())) {
		text := callByWords(c)
		for size := range len(text) {
			refusesReadCall(t, text[:size])
		}
		for at := 1; at < len(text); at++ {
			checksReadCall(t, text[at:])
		}
	}
}

func TestReadCallOfMore(t *testing.T) {
	for _, c := range rightCalls() {
		text := callByWords(c)
		for _, more := range []string{"\x00", "\x01", "\x07", "\x80", "\xff", "a", text} {
			refusesReadCall(t, text+more)
			checksReadCall(t, more+text)
		}
	}
	for _, c := range shortCalls() {
		text := callByWords(c)
		for n := range 256 {
			more := string([]byte{byte(n)})
			refusesReadCall(t, text+more)
			for place := range len(text) {
				checksReadCall(t, text[:place]+more+text[place:])
			}
		}
	}
	for _, size := range []int{1, 5, 100, impl.MaxText, impl.MaxText + 1, 1 << 20} {
		refusesReadCall(t, strings.Repeat("\x00", size))
		refusesReadCall(t, strings.Repeat("\x01", size))
		refusesReadCall(t, callByWords(callOf(3, 5, 0, 0, ""))+strings.Repeat("\x00", size))
	}
}

// TestReadCallOneByteTurned: every byte is made every other one.
func TestReadCallOneByteTurned(t *testing.T) {
	right, wrong := 0, 0
	for _, c := range shortCalls() {
		text := callByWords(c)
		for place := range len(text) {
			for n := range 256 {
				if checksReadCall(t, text[:place]+string([]byte{byte(n)})+text[place+1:]) {
					right++
				} else {
					wrong++
				}
			}
		}
	}
	if right < 1000 || wrong < 1000 {
		t.Errorf("%d were calls, %d were not", right, wrong)
	}
}

// TestReadJoinOneByteTurned: of a CallJoin every byte counts, those of the store by its seal.
func TestReadJoinOneByteTurned(t *testing.T) {
	for _, s := range []impl.Store{impl.StoreNew(2), smallStore(), someStore(5, 20), fullestStore()} {
		text := []byte(callByWords(joins(s)))
		for place := range text {
			for _, turn := range []byte{1, 2, 128, 255} {
				text[place] ^= turn
				refusesReadCall(t, string(text))
				text[place] ^= turn
			}
		}
	}
}

func TestReadCallTurnedNumbers(t *testing.T) {
	right := 0
	for _, c := range rightCalls() {
		list := callPieces(c)
		for place, p := range list {
			for _, n := range append(turnedNumbers(p.n), 3, 4, 5, 6, 7, 8, 12, 13) {
				for _, more := range []string{"", "\x00", "a"} {
					if checksReadCall(t, withNumber(list, place, varOf(n))+more) {
						right++
					}
				}
			}
		}
	}
	if right < 1000 {
		t.Errorf("only %d were calls", right)
	}
}

// TestReadCallLongerForms: each number in its turn, the kind and the length among them.
func TestReadCallLongerForms(t *testing.T) {
	for _, c := range rightCalls() {
		list := callPieces(c)
		for place, p := range list {
			for _, longer := range longerForms(p.n) {
				refusesReadCall(t, withNumber(list, place, longer))
			}
		}
	}
}

// TestReadCallKinds: every byte as a kind, ahead of what each kind wants.
func TestReadCallKinds(t *testing.T) {
	for _, c := range oneOfEach() {
		rest := callByWords(c)[1:]
		for n := range 256 {
			ok := checksReadCall(t, string([]byte{byte(n)})+rest)
			if n == c.Kind && !ok || (n == 0 || n > 7) && ok {
				t.Errorf("kind %d ahead of %q: %v", n, rest, ok)
			}
		}
	}
}

func TestReadCallOfDrawnTexts(t *testing.T) {
	r := rand.New(rand.NewSource(11))
	calls := slices.Concat(shortCalls(), rightCalls()[:60], wrongCalls()[:60])
	right, wrong := 0, 0
	for range 40000 {
		if checksReadCall(t, drawnBytes(r, callByWords(calls[r.Intn(len(calls))]))) {
			right++
		} else {
			wrong++
		}
	}
	for range 40000 {
		bytes := make([]byte, r.Intn(9))
		for i := range bytes {
			bytes[i] = []byte{0, 0, 1, 'a', 5, byte(r.Intn(9)), byte(r.Intn(9)), byte(r.Intn(256))}[r.Intn(8)]
		}
		if checksReadCall(t, string(bytes)) {
			right++
		}
	}
	if right < 5000 || wrong < 5000 {
		t.Errorf("%d were calls, %d were not", right, wrong)
	}
}

// TestDoCallOfEach: what each kind does, told thing by thing.
func TestDoCallOfEach(t *testing.T) {
	s := impl.StoreNew(1)
	s = does(t, s, callOf(1, 5, 0, 0, "inbox"), func(s *impl.Store) {
		s.Time, s.Boxes = 1, []impl.Box{{Gid: 5, Name: "inbox", Named: stampOf(1, 1), Next: 1}}
	})
	s = does(t, s, callOf(4, 5, 7, 2, "hi"), func(s *impl.Store) {
		s.Time, s.Boxes[0].Next, s.Boxes[0].Mails = 2, 2, []impl.Mail{mailOf(7, 1, flagsOf(2, stampOf(2, 1)), "hi")}
	})
	s = does(t, s, callOf(4, 5, 6, 0, ""), func(s *impl.Store) {
		s.Time, s.Boxes[0].Next, s.Boxes[0].Mails = 3, 3, append(s.Boxes[0].Mails, mailOf(6, 2, flagsOf(0, stampOf(3, 1)), ""))
	})
	s = does(t, s, callOf(5, 5, 7, 3, ""), func(s *impl.Store) {
		s.Time, s.Boxes[0].Mails[0].Flags[0] = 4, regOf(1, 4, 1)
	})
	s = does(t, s, callOf(6, 5, 6, 0, ""), func(s *impl.Store) {
		s.Boxes[0].Mails, s.Boxes[0].Gone = s.Boxes[0].Mails[:1], []int{6}
	})
	s = does(t, s, callOf(2, 5, 0, 0, "work"), func(s *impl.Store) {
		s.Time, s.Boxes[0].Name, s.Boxes[0].Named = 5, "work", stampOf(5, 1)
	})
	box := impl.Box{Gid: 4, Name: "work", Named: stampOf(9, 2), Next: 3, Gone: []int{7, 8}}
	s = does(t, s, joins(storeOf(2, 9, []impl.Box{box}, []int{3})), func(s *impl.Store) {
		s.Boxes[0].Name = "workx5"
		s.Time, s.Boxes, s.Gone = 9, []impl.Box{box, s.Boxes[0]}, []int{3}
	})
	s = does(t, s, callOf(3, 5, 0, 0, ""), func(s *impl.Store) { s.Boxes, s.Gone = s.Boxes[:1], []int{3, 5} })
	does(t, s, joins(storeOf(2, 4, nil, []int{4})), func(s *impl.Store) { s.Boxes, s.Gone = nil, []int{3, 4, 5} })
}

// callsOf: of a store, some of each kind that most right stores do, and some that they refuse.
func callsOf(s impl.Store) []impl.Call {
	list := asCalls(storeMemoryCalls(s)...)
	other := copyStore(s)
	other.By = 3 - s.By
	ahead := impl.Box{Gid: 3, Name: "boxa", Named: stampOf(1, 2), Next: 4, Gone: []int{77}}
	list = append(list, joins(s), joins(other), joins(impl.StoreNew(1)), joins(impl.StoreNew(2)), joins(smallStore()), joins(storeOf(3-s.By, 7, []impl.Box{ahead}, []int{2})))
	if len(s.Boxes) > 0 {
		list = append(list, joins(storeOf(3-s.By, 500, nil, []int{s.Boxes[0].Gid})))
	}
	return append(list, callOf(8, 1, 1, 0, ""), callOf(1, 50, 1, 0, "new"), callOf(7, 0, 0, 0, ""), impl.Call{})
}

// TestDoCallLikeTheChapters: held against what the function of each chapter answers, field by field.
func TestDoCallLikeTheChapters(t *testing.T) {
	done := map[int]int{}
	for _, s := range slices.Concat(rightStores(), madeStores(t), []impl.Store{smallStore(), fullestStore(), gridStore()}) {
		for _, c := range callsOf(s) {
			got, ok := checksDo(t, s, c)
			if !callOkByWords(c) {
				refusesDo(t, s, c)
				continue
			}
			want, wantOk := doByChapters(s, c)
			if ok != wantOk || !likeStores(got, want) {
				t.Fatalf("DoCall(%#v, %#v) = %#v, %v; want %#v, %v", s, c, got, ok, want, wantOk)
			}
			if !ok {
				refusesDo(t, s, c)
				continue
			}
			done[c.Kind]++
			if !impl.StoreOk(got) || got.By != s.By || got.Time < s.Time {
				t.Fatalf("DoCall(%#v, %#v) = %#v", s, c, got)
			}
		}
	}
	for kind := 1; kind <= 7; kind++ {
		if done[kind] < 20 {
			t.Errorf("of kind %d %d were done", kind, done[kind])
		}
	}
}

// TestDoCallOfWhatIsNotThere: a box, a mail, a mail in another box, what is Gone.
func TestDoCallOfWhatIsNotThere(t *testing.T) {
	s := behind(t, oneStore(t, 1), takes(5, 20), makes(7, "old"), puts(7, 70), drops(7))
	for _, box := range []int{1, 4, 7, 20, 40, 60, 9999} {
		for _, c := range []impl.Call{callOf(2, box, 0, 0, "new"), callOf(3, box, 0, 0, ""), callOf(4, box, 99, 0, "hi"), callOf(5, box, 40, 1, ""), callOf(6, box, 40, 0, "")} {
			refusesDo(t, s, c)
		}
	}
	for _, c := range [][2]int{{5, 20}, {5, 60}, {5, 5}, {5, 1}, {5, 9999}, {6, 40}, {6, 20}, {6, 6}, {6, 70}} {
		refusesDo(t, s, callOf(5, c[0], c[1], 1, ""))
		refusesDo(t, s, callOf(6, c[0], c[1], 0, ""))
	}
	// Of an empty store nothing is there.
	for _, c := range []impl.Call{callOf(2, 5, 0, 0, "new"), callOf(3, 5, 0, 0, ""), callOf(4, 5, 99, 0, "hi"), callOf(5, 5, 40, 1, ""), callOf(6, 5, 40, 0, "")} {
		refusesDo(t, impl.StoreNew(2), c)
	}
}

// TestDoCallOfWhatIsThere: names and Gids that are taken.
func TestDoCallOfWhatIsThere(t *testing.T) {
	s := behind(t, oneStore(t, 1), takes(5, 20), makes(7, "old"), drops(7))
	for _, name := range []string{"inbox", "work"} {
		refusesDo(t, s, callOf(1, 9, 0, 0, name))
		refusesDo(t, s, callOf(2, 5, 0, 0, name))
		refusesDo(t, s, callOf(2, 6, 0, 0, name))
	}
	for _, gid := range []int{5, 6, 7, 20, 40, 60} {
		refusesDo(t, s, callOf(1, gid, 0, 0, "new"))
		refusesDo(t, s, callOf(4, 5, gid, 0, "hi"))
		refusesDo(t, s, callOf(4, 6, gid, 0, "hi"))
	}
	// A name that is free again is no such thing.
	checksDone(t, s, callOf(1, 9, 0, 0, "old"))
	checksDone(t, s, callOf(2, 5, 0, 0, "old"))
	checksDone(t, s, callOf(4, 6, 21, 0, "hi"))
}

func checksDone(t *testing.T, s impl.Store, c impl.Call) impl.Store {
	t.Helper()
	got, ok := checksDo(t, s, c)
	if !ok {
		t.Fatalf("%#v is refused by %#v", c, s)
	}
	return got
}

// TestDoCallAtTheLimits: the last that is taken, and one more.
func TestDoCallAtTheLimits(t *testing.T) {
	mails := func(count, next int) impl.Store {
		return storeOf(1, 200, []impl.Box{boxOf(next, mailsFrom(1, count), numbersFrom(1, 3))}, nil)
	}
	checksDone(t, mails(9, 10), callOf(4, 5, 77, 0, ""))
	refusesDo(t, mails(10, 11), callOf(4, 5, 77, 0, ""))
	checksDone(t, mails(3, 9999), callOf(4, 5, 77, 0, ""))
	refusesDo(t, mails(3, 10000), callOf(4, 5, 77, 0, ""))
	checksDone(t, someStore(4, 0), callOf(1, 50, 0, 0, "new"))
	refusesDo(t, someStore(5, 0), callOf(1, 50, 0, 0, "new"))
	checksDone(t, someStore(3, 19), callOf(3, 200, 0, 0, ""))
	refusesDo(t, someStore(3, 20), callOf(3, 200, 0, 0, ""))
	for _, gone := range []int{39, 40} {
		s := storeOf(2, 200, []impl.Box{boxOf(5, mailsFrom(1, 2), numbersFrom(1, gone))}, nil)
		if _, ok := checksDo(t, s, callOf(6, 5, 900, 0, "")); ok != (gone == 39) {
			t.Errorf("CallOut with %d Gone: %v", gone, ok)
		}
	}
}

// TestDoCallAtTheEndOfTime: what gives a stamp is done no more; all else is.
func TestDoCallAtTheEndOfTime(t *testing.T) {
	for _, by := range []int{1, 2} {
		for _, time := range []int{99999, 100000} {
			s := oneStore(t, by)
			s.Time = time
			for _, c := range []impl.Call{callOf(1, 9, 0, 0, "new"), callOf(2, 5, 0, 0, "new"), callOf(4, 5, 99, 0, "hi"), callOf(5, 5, 40, 1, ""), callOf(5, 5, 40, 0, "")} {
				if got, ok := checksDo(t, s, c); ok != (time == 99999) || got.Time != 100000 {
					t.Errorf("%#v at Time %d: %v, Time %d", c, time, ok, got.Time)
				}
			}
			for _, c := range []impl.Call{callOf(3, 5, 0, 0, ""), callOf(6, 5, 40, 0, ""), joins(oneStore(t, 3-by)), joins(storeOf(3-by, 100000, nil, nil))} {
				checksDone(t, s, c)
			}
		}
	}
}

// TestDoCallOfFlagsAsTheyWere: just what MarkMail answers, true and one Time more; no stamp of a mail is another.
func TestDoCallOfFlagsAsTheyWere(t *testing.T) {
	for _, s := range []impl.Store{someStore(3, 2), smallStore(), gridStore(), oneStore(t, 2)} {
		for _, b := range s.Boxes {
			for _, m := range b.Mails {
				c := callOf(5, b.Gid, m.Gid, impl.FlagsOf(m.Flags), "")
				got := does(t, s, c, func(s *impl.Store) { s.Time++ })
				want, ok := impl.MarkMail(s, c.Box, c.Gid, c.Flags)
				if !ok || !likeStores(got, want) {
					t.Errorf("DoCall(%#v, %#v) = %#v; want %#v", s, c, got, want)
				}
			}
		}
	}
}

func TestDoCallOfCallsThatAreNotRight(t *testing.T) {
	for _, c := range wrongCalls() {
		for _, s := range []impl.Store{impl.StoreNew(1), oneStore(t, 2), someStore(3, 2), gridStore(), {}, storeOf(3, -1, nil, []int{7, 7})} {
			refusesDo(t, s, c)
		}
	}
}

// TestDoCallOfWhatAKindDoesNotUse: the call would be done, but for one field that its kind does not use.
func TestDoCallOfWhatAKindDoesNotUse(t *testing.T) {
	s := oneStore(t, 1)
	for _, c := range []impl.Call{callOf(1, 9, 0, 0, "new"), callOf(2, 5, 0, 0, "new"), callOf(3, 5, 0, 0, ""), callOf(5, 5, 40, 2, ""), callOf(6, 5, 40, 0, ""), joins(impl.StoreNew(2))} {
		checksDone(t, s, c)
		for _, n := range []int{1, 5, 7, 40, -1, math.MaxInt, math.MinInt} {
			for field := range 3 {
				turned := c
				at := []*int{&turned.Box, &turned.Gid, &turned.Flags}[field]
				if *at != 0 {
					continue
				}
				*at = n
				refusesDo(t, s, turned)
				refusesCallText(t, turned)
				refusesReadCall(t, callByWords(turned))
			}
		}
		if c.Text == "" {
			for _, text := range []string{"a", "new", "\x00", storeByWords(impl.StoreNew(2))} {
				turned := c
				turned.Text = text
				refusesDo(t, s, turned)
			}
		}
	}
}

func TestDoCallOfStoresThatAreNotRight(t *testing.T) {
	for _, s := range append(wrongStores(), impl.Store{}) {
		for _, c := range callsOf(s) {
			refusesDo(t, s, c)
		}
		for _, by := range []int{1, 2} {
			refusesDo(t, s, joins(oneStore(t, by)))
			refusesDo(t, s, joins(impl.StoreNew(by)))
		}
	}
}

// TestJoinOfTwo: both ways round, both come to the same but for By.
func TestJoinOfTwo(t *testing.T) {
	for _, p := range []twoStores{
		wentApart(t, nil, nil),
		wentApart(t, []storeCall{puts(5, 70)}, []storeCall{puts(5, 10), puts(6, 80)}),
		wentApart(t, []storeCall{marks(5, 40, 1), marks(6, 60, 7)}, []storeCall{puts(5, 70), marks(5, 40, 6), marks(6, 60, 4)}),
		wentApart(t, []storeCall{makes(7, "new"), puts(7, 70), takes(5, 20)}, []storeCall{makes(8, "new"), puts(8, 70), drops(6)}),
		{impl.StoreNew(1), impl.StoreNew(2)}, {impl.StoreNew(1), smallStore()}, {someStore(3, 2), smallStore()}, boxesApart(2, 2, 1), boxesApart(0, 3, 2),
	} {
		textA, okA := impl.StoreText(p.a)
		textB, okB := impl.StoreText(p.b)
		if !okA || !okB {
			t.Fatalf("%#v are not right", p)
		}
		a := checksDone(t, p.a, callOf(7, 0, 0, 0, textB))
		b := checksDone(t, p.b, callOf(7, 0, 0, 0, textA))
		if !likeStores(a, impl.JoinStore(p.a, p.b)) || !likeStores(b, impl.JoinStore(p.b, p.a)) || a.By != 1 || b.By != 2 || !impl.Alike(a, b) {
			t.Errorf("%#v come to %#v and %#v", p, a, b)
		}
	}
}

// TestJoinThatBringsNothing: it fits, so it is true; what is known stays as it is.
func TestJoinThatBringsNothing(t *testing.T) {
	for _, s := range append(rightStores(), madeStores(t)...) {
		same := copyStore(s)
		same.By = 3 - s.By
		for _, c := range []impl.Call{joins(impl.StoreNew(3 - s.By)), joins(same)} {
			does(t, s, c, func(*impl.Store) {})
		}
	}
	// Its Time alone is later.
	does(t, oneStore(t, 1), joins(storeOf(2, 99, nil, nil)), func(s *impl.Store) { s.Time = 99 })
}

func TestJoinOfTheSameBy(t *testing.T) {
	for _, by := range []int{1, 2} {
		s := oneStore(t, by)
		more := behind(t, s, puts(5, 70))
		for _, c := range []impl.Call{joins(s), joins(more), joins(impl.StoreNew(by)), joins(storeOf(by, 99, nil, []int{5}))} {
			if !impl.CallOk(c) {
				t.Errorf("CallOk(%#v) = false", c)
			}
			refusesDo(t, s, c)
			refusesDo(t, impl.StoreNew(by), c)
			checksDone(t, oneStore(t, 3-by), c)
		}
	}
}

func TestJoinOfNoStoresText(t *testing.T) {
	for _, text := range noStoreTexts() {
		c := callOf(7, 0, 0, 0, text)
		if impl.CallOk(c) {
			t.Errorf("CallOk(%#v) = true", c)
		}
		refusesDo(t, oneStore(t, 1), c)
		refusesDo(t, impl.StoreNew(2), c)
	}
}

// withoutFit: each side is right, what both come to is not: for boxes, what is Gone, mails, numbers, names.
func withoutFit(t *testing.T) []twoStores {
	t.Helper()
	list := []twoStores{boxesApart(0, 3, 3), boxesApart(4, 1, 1), boxesApart(0, 5, 1)}
	list = append(list, twoStores{storeOf(1, 0, nil, numbersFrom(1, 20)), storeOf(2, 0, nil, []int{21})}, twoStores{storeOf(1, 0, nil, numbersFrom(1, 11)), storeOf(2, 0, nil, numbersFrom(12, 10))})
	one := func(b impl.Box, by int) impl.Store { return storeOf(by, 100000, []impl.Box{b}, nil) }
	list = append(list,
		twoStores{one(boxOf(11, mailsFrom(1, 10), nil), 1), one(boxOf(2, []impl.Mail{someMail(7, 1)}, nil), 2)},
		twoStores{one(boxOf(1, nil, numbersFrom(1, 40)), 1), one(boxOf(1, nil, []int{41}), 2)},
		twoStores{one(boxOf(10000, []impl.Mail{someMail(6, 9999)}, nil), 1), one(boxOf(10000, []impl.Mail{someMail(7, 9999)}, nil), 2)},
		wentApart(t, []storeCall{makes(9, "a"), makes(2, "ax9")}, []storeCall{makes(8, "a")}))
	return list
}

func TestJoinThatDoesNotFit(t *testing.T) {
	for _, p := range withoutFit(t) {
		if !storeOkByWords(p.a) || !storeOkByWords(p.b) || impl.FitsStore(p.a, p.b) {
			t.Fatalf("%#v: right %v and %v, fits %v", p, storeOkByWords(p.a), storeOkByWords(p.b), impl.FitsStore(p.a, p.b))
		}
		for _, p := range []twoStores{p, p.turned()} {
			if c := joins(p.b); !impl.CallOk(c) {
				t.Errorf("CallOk(%#v) = false", c)
			}
			refusesDo(t, p.a, joins(p.b))
		}
	}
}

// TestJoinOfTheLongestText: a text far longer than a mail's may be, read back and done.
func TestJoinOfTheLongestText(t *testing.T) {
	s := fullestStore()
	c := joins(s)
	if len(c.Text) != 4565 {
		t.Fatalf("the longest text of a store has %d bytes", len(c.Text))
	}
	checksCallText(t, c)
	again, _ := impl.ReadCall(callByWords(c))
	got := checksDone(t, impl.StoreNew(1), again)
	if s.By = 1; !likeStores(got, s) {
		t.Errorf("%#v came as %#v", s, got)
	}
}

// oneByOne is what DoCall makes, call by call, and how many were true.
func oneByOne(s impl.Store, list []impl.Call) (impl.Store, int) {
	done := 0
	for _, c := range list {
		next, ok := doByWords(s, c)
		if ok {
			done++
		}
		s = next
	}
	return s, done
}

func checksDoAll(t *testing.T, s impl.Store, list []impl.Call) (impl.Store, int) {
	t.Helper()
	kept, calls := copyStore(s), slices.Clone(list)
	got, n := impl.DoAll(s, list)
	want, wantN := oneByOne(s, list)
	if n != wantN || !likeStores(got, want) {
		t.Fatalf("DoAll(%#v, %#v) = %#v, %d; want %#v, %d", s, list, got, n, want, wantN)
	}
	if !likeStores(s, kept) || !slices.Equal(list, calls) {
		t.Fatalf("DoAll(%#v, %#v) changed an argument", kept, calls)
	}
	return got, n
}

func TestDoAllOfNone(t *testing.T) {
	for _, s := range slices.Concat(rightStores(), wrongStores(), madeStores(t), []impl.Store{{}}) {
		for _, list := range [][]impl.Call{nil, {}, oneOfEach()[:0]} {
			if got, n := impl.DoAll(s, list); n != 0 || !likeStores(got, s) {
				t.Fatalf("DoAll(%#v, %#v) = %#v, %d", s, list, got, n)
			}
		}
	}
}

func TestDoAllOfOne(t *testing.T) {
	for _, s := range append(rightStores(), oneStore(t, 1), impl.StoreNew(2)) {
		for _, c := range callsOf(s) {
			got, n := checksDoAll(t, s, []impl.Call{c})
			want, ok := impl.DoCall(s, c)
			if ok != (n == 1) || !ok && n != 0 || !likeStores(got, want) {
				t.Fatalf("DoAll(%#v, %#v) = %#v, %d; DoCall: %#v, %v", s, c, got, n, want, ok)
			}
		}
	}
}

// TestDoAllInOrder: written out, so that neither the order nor the count hangs on the words written a second time.
func TestDoAllInOrder(t *testing.T) {
	calls := []impl.Call{
		callOf(4, 5, 7, 0, "hi"), // no box yet
		callOf(1, 5, 0, 0, "inbox"),
		callOf(4, 5, 7, 0, "hi"),
		callOf(4, 5, 7, 0, "hi"),    // known
		callOf(1, 6, 0, 0, "inbox"), // the name is there
		callOf(2, 5, 0, 0, "work"),
		callOf(1, 6, 0, 0, "inbox"),
		{},                     // not right
		callOf(5, 6, 7, 1, ""), // in the other box
		callOf(5, 5, 7, 1, ""),
		callOf(5, 5, 7, 1, ""), // as it was: true all the same
		joins(storeOf(1, 9, nil, nil)),
		joins(storeOf(2, 9, nil, []int{6})),
		callOf(6, 5, 7, 0, ""),
		callOf(6, 5, 7, 0, ""), // Gone
		callOf(4, 5, 8, 4, "ho"),
	}
	want := storeOf(1, 10, []impl.Box{{Gid: 5, Name: "work", Named: stampOf(3, 1), Next: 3, Mails: []impl.Mail{mailOf(8, 2, flagsOf(4, stampOf(10, 1)), "ho")}, Gone: []int{7}}}, []int{6})
	if got, n := checksDoAll(t, impl.StoreNew(1), calls); n != 9 || !likeStores(got, want) {
		t.Errorf("DoAll = %#v, %d", got, n)
	}
	slices.Reverse(calls)
	if got, n := checksDoAll(t, impl.StoreNew(1), calls); likeStores(got, want) || n == 9 {
		t.Errorf("the other way round it comes to the same: %#v, %d", got, n)
	}
}

// TestDoAllOfManyAlike: the first one alone is done where doing it twice can not be; where it can each counts.
func TestDoAllOfManyAlike(t *testing.T) {
	s := oneStore(t, 1)
	for _, c := range []struct {
		call impl.Call
		all  bool
	}{
		{callOf(1, 9, 0, 0, "new"), false}, {callOf(2, 5, 0, 0, "new"), false}, {callOf(3, 5, 0, 0, ""), false}, {callOf(4, 5, 99, 0, "hi"), false}, {callOf(6, 5, 40, 0, ""), false},
		{callOf(5, 5, 40, 3, ""), true}, {joins(oneStore(t, 2)), true},
	} {
		for _, count := range []int{1, 2, 3, 50} {
			want := 1
			if c.all {
				want = count
			}
			if _, n := checksDoAll(t, s, slices.Repeat([]impl.Call{c.call}, count)); n != want {
				t.Errorf("%d of %#v: %d were true", count, c.call, n)
			}
		}
	}
}

func TestDoAllOfWrongOnes(t *testing.T) {
	for _, s := range []impl.Store{impl.StoreNew(1), oneStore(t, 2), someStore(5, 20)} {
		if got, n := impl.DoAll(s, wrongCalls()); n != 0 || !likeStores(got, s) {
			t.Errorf("DoAll of wrong calls = %#v, %d", got, n)
		}
	}
	for _, s := range wrongStores() {
		if got, n := impl.DoAll(s, append(callsOf(s), oneOfEach()...)); n != 0 || !likeStores(got, s) {
			t.Fatalf("DoAll of %#v = %#v, %d", s, got, n)
		}
	}
}

// TestDoAllUpToTheEndOfTime: what is refused there does not keep what is behind it from being done.
func TestDoAllUpToTheEndOfTime(t *testing.T) {
	s := oneStore(t, 1)
	s.Time = 99990
	list := append(slices.Repeat([]impl.Call{callOf(5, 5, 40, 1, ""), callOf(5, 5, 40, 2, "")}, 10), callOf(6, 5, 40, 0, ""), callOf(4, 5, 99, 0, ""), callOf(3, 6, 0, 0, ""))
	if got, n := checksDoAll(t, s, list); n != 12 || got.Time != 100000 || len(got.Boxes) != 1 || len(got.Boxes[0].Mails) != 1 {
		t.Errorf("DoAll = %#v, %d", got, n)
	}
}

// drawnWrong turns one thing of a call, so that about half of what comes is no call any more.
func drawnWrong(r *rand.Rand, c impl.Call) impl.Call {
	n := []int{-1, 0, 1, 5, 8, 9999, 10000}[r.Intn(7)]
	switch r.Intn(5) {
	case 0:
		c.Kind = r.Intn(10) - 1
	case 1:
		c.Box = n
	case 2:
		c.Gid = n
	case 3:
		c.Flags = n
	case 4:
		c.Text = drawnText(r, r.Intn(70))
	}
	return c
}

// drawnCallOf is of any kind; a CallJoin is of the other store as it is then.
func drawnCallOf(r *rand.Rand, s, other impl.Store) impl.Call {
	c := asCall(drawnCall(r, s))
	if r.Intn(7) == 0 {
		c = joins([]impl.Store{other, other, other, s, impl.StoreNew(1), drawnStore(r)}[r.Intn(6)])
	}
	if r.Intn(6) == 0 {
		c = drawnWrong(r, c)
	}
	return c
}

func TestDrawnCalls(t *testing.T) {
	r := rand.New(rand.NewSource(111))
	done, refused := map[int]int{}, map[int]int{}
	for range 3000 {
		s, other := drawnStore(r), drawnStore(r)
		for range 6 {
			c := drawnCallOf(r, s, other)
			if impl.CallOk(c) != callOkByWords(c) {
				t.Fatalf("CallOk(%#v) = %v", c, impl.CallOk(c))
			}
			if _, ok := checksDo(t, s, c); ok {
				done[c.Kind]++
				checksCallText(t, c)
			} else {
				refused[c.Kind]++
			}
		}
	}
	for kind := 1; kind <= 7; kind++ {
		if done[kind] < 50 || refused[kind] < 50 {
			t.Errorf("of kind %d %d were done, %d refused", kind, done[kind], refused[kind])
		}
	}
}

// TestLivesOfCalls: two stores live by calls alone, which are written and read back; done all at once, or in two pieces, they come to the same.
func TestLivesOfCalls(t *testing.T) {
	r := rand.New(rand.NewSource(112))
	joined := 0
	for range 40 {
		stores := [2]impl.Store{impl.StoreNew(1), impl.StoreNew(2)}
		var calls [2][]impl.Call
		var done [2]int
		for range 120 {
			i := r.Intn(2)
			c := drawnCallOf(r, stores[i], stores[1-i])
			if text, ok := impl.CallText(c); ok {
				c, _ = impl.ReadCall(text)
			}
			next, ok := checksDo(t, stores[i], c)
			if ok {
				done[i]++
			}
			if ok && c.Kind == 7 {
				joined++
			}
			stores[i], calls[i] = next, append(calls[i], c)
		}
		for i, list := range calls {
			if got, n := checksDoAll(t, impl.StoreNew(1+i), list); n != done[i] || !likeStores(got, stores[i]) || !impl.StoreOk(got) {
				t.Fatalf("DoAll of %d calls = %#v, %d; want %#v, %d", len(list), got, n, stores[i], done[i])
			}
			cut := r.Intn(len(list) + 1)
			half, n := impl.DoAll(impl.StoreNew(1+i), list[:cut])
			whole, more := impl.DoAll(half, list[cut:])
			if n+more != done[i] || !likeStores(whole, stores[i]) {
				t.Fatalf("in two pieces: %#v, %d and %d", whole, n, more)
			}
		}
	}
	if joined < 100 {
		t.Errorf("%d joins were done", joined)
	}
}

// roomyCall has a text of its own, which the call may not keep.
func roomyCall(c impl.Call) impl.Call {
	c.Text = strings.Clone(c.Text)
	return c
}

// roomyCalls has marks behind its end that nobody may touch.
func roomyCalls(list []impl.Call) []impl.Call {
	room := make([]impl.Call, len(list), len(list)+3)
	for i, c := range list {
		room[i] = roomyCall(c)
	}
	for i := len(list); i < cap(room); i++ {
		room[:cap(room)][i] = callOf(-7, -7, -7, -7, "mark")
	}
	return room
}

func memoryStoresOfCalls(t *testing.T) []impl.Store {
	return slices.Concat(memoryStores(), madeStores(t), []impl.Store{smallStore(), fullestStore(), gridStore()})
}

func TestCallsLeaveTheirArguments(t *testing.T) {
	for _, given := range memoryStoresOfCalls(t) {
		s := roomyStore(given)
		whole := wholeStore(s)
		list := roomyCalls(callsOf(given))
		kept := slices.Clone(list[:cap(list)])
		for _, c := range list {
			impl.CallOk(c)
			impl.CallText(c)
			impl.DoCall(s, c)
		}
		impl.DoAll(s, list)
		impl.DoAll(s, nil)
		if !likeStores(wholeStore(s), whole) || !slices.Equal(list[:cap(list)], kept) {
			t.Fatalf("%#v, or its calls, were written into, or behind their end", given)
		}
	}
}

// answersOf are the stores that are answered of a store and a call: by itself, in a list, behind others.
func answersOf(s impl.Store, c impl.Call) []impl.Store {
	one, _ := impl.DoCall(s, c)
	listed, _ := impl.DoAll(s, []impl.Call{c})
	behindOthers, _ := impl.DoAll(s, []impl.Call{{}, c, c})
	none, _ := impl.DoAll(s, nil)
	return []impl.Store{one, listed, behindOthers, none}
}

// TestDoCallNewMemory: what is answered stays as it is when the argument is changed behind the call, and the other way round; of what is refused, too.
func TestDoCallNewMemory(t *testing.T) {
	for _, given := range memoryStoresOfCalls(t) {
		for _, c := range callsOf(given) {
			s := roomyStore(given)
			answers := answersOf(s, c)
			var kept []impl.Store
			for _, answer := range answers {
				kept = append(kept, copyStore(answer))
			}
			spoilStore(s)
			for i, answer := range answers {
				if !likeStores(answer, kept[i]) {
					t.Fatalf("%#v: %#v became %#v when the argument was changed", c, kept[i], answer)
				}
			}
			s = roomyStore(given)
			whole := wholeStore(s)
			again := answersOf(s, c)
			for i, answer := range answers {
				spoilStore(answer)
				if !likeStores(again[i], kept[i]) {
					t.Fatalf("%#v of %#v: of two answers one changed with the other", c, given)
				}
			}
			for _, answer := range again {
				spoilStore(answer)
			}
			if !likeStores(wholeStore(s), whole) {
				t.Fatalf("%#v: %#v changed with the answer", c, given)
			}
		}
	}
}

func TestDoCallSharesNoTexts(t *testing.T) {
	for _, given := range memoryStoresOfCalls(t) {
		for _, c := range callsOf(given) {
			s, c := roomyStore(given), roomyCall(c)
			theirs := append(textsOfStore(s), c.Text)
			for _, answer := range answersOf(s, c) {
				for _, text := range textsOfStore(answer) {
					if slices.ContainsFunc(theirs, func(other string) bool { return sharesMemory(text, other) }) {
						t.Fatalf("%#v of %#v shares the text %q", c, given, text)
					}
				}
			}
		}
	}
}

// TestListsOfOneCallApart: no list of an answer lies within another one, also where the argument's lists do.
func TestListsOfOneCallApart(t *testing.T) {
	numbers, flags := []int{8001, 8002}, flagsOf(3, stampOf(4, 1))
	for _, size := range []int{2, 4, 5, 6} {
		given := someStore(size, 0)
		given.Gone = numbers
		for i := range given.Boxes {
			given.Boxes[i].Gone = numbers
		}
		for _, m := range mailsIn(&given) {
			m.Flags = flags
		}
		for _, c := range callsOf(given) {
			for _, answer := range answersOf(given, c) {
				apartFromEachOther(t, answer)
			}
		}
	}
}

// TestDoAllOfAListThatChanges: what was done stays done when the list is changed behind the call.
func TestDoAllOfAListThatChanges(t *testing.T) {
	s := oneStore(t, 1)
	list := roomyCalls([]impl.Call{callOf(1, 9, 0, 0, "new"), callOf(4, 9, 90, 1, "ninety"), joins(behind(t, oneStore(t, 2), puts(5, 70)))})
	got, n := impl.DoAll(s, list)
	kept := copyStore(got)
	for i := range list {
		list[i] = callOf(3, 5, 0, 0, "")
	}
	if n != 3 || !likeStores(got, kept) {
		t.Errorf("%#v, %d", got, n)
	}
}

func TestCallTextsNewMemory(t *testing.T) {
	for _, c := range append(rightCalls(), wrongCalls()...) {
		c := roomyCall(c)
		first, _ := impl.CallText(c)
		second, _ := impl.CallText(c)
		if sharesMemory(first, c.Text) || sharesMemory(first, second) {
			t.Fatalf("CallText(%#v) keeps something of it", c)
		}
		text := callByWords(c)
		here, _ := impl.ReadCall(text)
		there, _ := impl.ReadCall(text)
		if sharesMemory(here.Text, text) || sharesMemory(here.Text, there.Text) {
			t.Fatalf("ReadCall(%q) keeps something of it", text)
		}
	}
}

// TestCallsAgain: a reading that was given up leaves nothing for the next one, also when many are under way.
func TestCallsAgain(t *testing.T) {
	s := oneStore(t, 1)
	list := []impl.Call{callOf(1, 9, 0, 0, "new"), callOf(4, 9, 90, 1, "ninety"), joins(behind(t, oneStore(t, 2), puts(5, 70))), callOf(3, 6, 0, 0, ""), {}}
	want, wantN := oneByOne(s, list)
	text := callByWords(list[2])
	var group sync.WaitGroup
	for worker := range 8 {
		group.Go(func() {
			for i := range 100 {
				if _, ok := impl.ReadCall(text[:(i+worker)%len(text)]); ok {
					t.Errorf("a call that was cut at %d was read", (i+worker)%len(text))
				}
				if c, ok := impl.ReadCall(text); !ok || c != list[2] {
					t.Errorf("ReadCall = %#v, %v", c, ok)
				}
				if got, n := impl.DoAll(s, list); n != wantN || !likeStores(got, want) {
					t.Errorf("DoAll = %#v, %d", got, n)
				}
			}
		})
	}
	group.Wait()
}
