package tests

import (
	"math"
	"math/rand"
	"slices"
	"strings"
	"sync"
	"testing"

	"loop.example/g00324/impl"
)

// piece is a number and, of a text's length, the bytes behind it; so each number of a text can be turned by itself.
type piece struct {
	n    int
	tail string
}

func piecesOf(numbers ...int) []piece {
	var list []piece
	for _, n := range numbers {
		list = append(list, piece{n: n})
	}
	return list
}

func mailPieces(m impl.Mail) []piece {
	list := piecesOf(m.Gid, m.Uid)
	for _, r := range m.Flags {
		list = append(list, piecesOf(r.Val, r.Stamp.Time, r.Stamp.By)...)
	}
	return append(list, piece{len(m.Text), m.Text})
}

func boxPieces(b impl.Box) []piece {
	list := append(piecesOf(b.Gid), piece{len(b.Name), b.Name})
	list = append(list, piecesOf(b.Named.Time, b.Named.By, b.Next, len(b.Mails))...)
	for _, m := range b.Mails {
		list = append(list, mailPieces(m)...)
	}
	list = append(list, piecesOf(len(b.Gone))...)
	return append(list, piecesOf(b.Gone...)...)
}

func storePieces(s impl.Store) []piece {
	list := piecesOf(s.By, s.Time, len(s.Boxes))
	for _, b := range s.Boxes {
		list = append(list, boxPieces(b)...)
	}
	list = append(list, piecesOf(len(s.Gone))...)
	return append(list, piecesOf(s.Gone...)...)
}

func written(list []piece) string {
	text := ""
	for _, p := range list {
		text += varOf(uint64(p.n)) + p.tail
	}
	return text
}

// boxByWords writes a box of any numbers, so that it also makes what BoxText refuses to.
func boxByWords(b impl.Box) string {
	return written(boxPieces(b))
}

// bodyByWords is a store's text without its seal.
func bodyByWords(s impl.Store) string {
	return written(storePieces(s))
}

func storeByWords(s impl.Store) string {
	return sealByWords(bodyByWords(s))
}

// along is a second reader, which asks for nothing of the program: what is left of a text, until something is missing.
type along struct {
	left   string
	missed bool
}

func (l *along) number() int {
	n, used := numbersThere(l.left, 1)
	if n == nil {
		l.left, l.missed = "", true
		return 0
	}
	l.left = l.left[used:]
	return n[0]
}

func (l *along) text() string {
	size := l.number()
	if size > len(l.left) {
		l.left, l.missed = "", true
		return ""
	}
	text := l.left[:size]
	l.left = l.left[size:]
	return text
}

func (l *along) numbers() []int {
	var list []int
	for left := l.number(); left > 0 && !l.missed; left-- {
		list = append(list, l.number())
	}
	return list
}

func (l *along) box() impl.Box {
	b := impl.Box{Gid: l.number()}
	b.Name = l.text()
	b.Named.Time = l.number()
	b.Named.By = l.number()
	b.Next = l.number()
	for left := l.number(); left > 0 && !l.missed; left-- {
		m, used, ok := readByWords(l.left, 0)
		l.left, l.missed = l.left[used:], l.missed || !ok
		b.Mails = append(b.Mails, m)
	}
	b.Gone = l.numbers()
	return b
}

func readBoxByWords(text string, at int) (impl.Box, int, bool) {
	if at < 0 || at > len(text) {
		return impl.Box{}, 0, false
	}
	l := along{left: text[at:]}
	b := l.box()
	if l.missed || !boxOkByWords(b) {
		return impl.Box{}, 0, false
	}
	return b, len(text) - len(l.left), true
}

func readStoreByWords(text string) (impl.Store, bool) {
	size := len(text) - 4
	if size < 0 || size > 20000 || sealByWords(text[:size]) != text {
		return impl.Store{}, false
	}
	l := along{left: text[:size]}
	s := impl.Store{By: l.number()}
	s.Time = l.number()
	for left := l.number(); left > 0 && !l.missed; left-- {
		s.Boxes = append(s.Boxes, l.box())
	}
	s.Gone = l.numbers()
	if l.missed || l.left != "" || !storeOkByWords(s) {
		return impl.Store{}, false
	}
	return s, true
}

func refusesBox(t *testing.T, text string, at int) {
	t.Helper()
	if b, behind, ok := impl.ReadBox(text, at); ok || behind != 0 || !likeBoxes(b, impl.Box{}) {
		t.Fatalf("ReadBox(%q, %d) = %#v, %d, %v", text, at, b, behind, ok)
	}
}

func readsBox(t *testing.T, text string, at int, want impl.Box, wantBehind int) {
	t.Helper()
	if b, behind, ok := impl.ReadBox(text, at); !ok || behind != wantBehind || !likeBoxes(b, want) {
		t.Fatalf("ReadBox(%q, %d) = %#v, %d, %v; want %#v, %d", text, at, b, behind, ok, want, wantBehind)
	}
}

func refusesStore(t *testing.T, text string) {
	t.Helper()
	if s, ok := impl.ReadStore(text); ok || !likeStores(s, impl.Store{}) {
		t.Fatalf("ReadStore(%q) = %#v, %v", text, s, ok)
	}
}

func readsStore(t *testing.T, text string, want impl.Store) {
	t.Helper()
	if s, ok := impl.ReadStore(text); !ok || !likeStores(s, want) {
		t.Fatalf("ReadStore(%q) = %#v, %v; want %#v", text, s, ok, want)
	}
}

// checksReadBox tells whether one stands there, by the words.
func checksReadBox(t *testing.T, text string, at int) bool {
	t.Helper()
	want, behind, ok := readBoxByWords(text, at)
	if !ok {
		refusesBox(t, text, at)
		return false
	}
	readsBox(t, text, at, want, behind)
	if again, right := impl.BoxText(want); !right || again != text[at:behind] {
		t.Fatalf("at %d of %q stands %#v, whose BoxText is %q, %v", at, text, want, again, right)
	}
	return true
}

func checksReadStore(t *testing.T, text string) bool {
	t.Helper()
	want, ok := readStoreByWords(text)
	if !ok {
		refusesStore(t, text)
		return false
	}
	readsStore(t, text, want)
	if again, right := impl.StoreText(want); !right || again != text {
		t.Fatalf("%q is of %#v, whose StoreText is %q, %v", text, want, again, right)
	}
	return true
}

// checksTexts: all that is promised of a right store's text.
func checksTexts(t *testing.T, s impl.Store) {
	t.Helper()
	text, ok := impl.StoreText(s)
	if !ok || text != storeByWords(s) {
		t.Fatalf("StoreText(%#v) = %q, %v; want %q", s, text, ok, storeByWords(s))
	}
	readsStore(t, text, s)
	again, _ := impl.ReadStore(text)
	if !impl.SameStore(again, s) || !impl.SameStore(s, again) || !impl.StoreOk(again) {
		t.Fatalf("%#v came back as %#v", s, again)
	}
	for _, b := range s.Boxes {
		text, ok := impl.BoxText(b)
		if !ok || text != boxByWords(b) {
			t.Fatalf("BoxText(%#v) = %q, %v; want %q", b, text, ok, boxByWords(b))
		}
		readsBox(t, text, 0, b, len(text))
	}
}

// smallBox has no two numbers alike that stand side by side, so that one in another's place would be seen.
func smallBox() impl.Box {
	return boxOf(9, []impl.Mail{mailOf(7, 2, flagsWithStamps(5, ownStamps()), "hi"), mailOf(300, 6, flagsOf(2, stampOf(4, 2)), "")}, []int{8, 128, 9999})
}

func smallStore() impl.Store {
	other := impl.Box{Gid: 200, Name: "b2", Named: stampOf(5, 2), Next: 4, Mails: []impl.Mail{mailOf(11, 3, flagsOf(4, stampOf(8, 1)), "\x00\xff")}}
	return storeOf(2, 150, []impl.Box{smallBox(), other}, []int{6, 130})
}

// fullestStore is at every limit at once, with each number as long as it may be.
func fullestStore() impl.Store {
	s := storeOf(2, 100000, nil, numbersFrom(9000, 20))
	for place := range 5 {
		b := impl.Box{Gid: 9995 + place, Name: "abcdefghijk" + string(rune('0'+place)), Named: stampOf(100000, 2), Next: 10000, Gone: numbersFrom(5000+50*place, 40)}
		for i := range 10 {
			b.Mails = append(b.Mails, mailOf(8000+10*place+i, 9990+i, flagsOf(7, stampOf(100000, 2)), strings.Repeat("m", 60)))
		}
		s.Boxes = append(s.Boxes, b)
	}
	return s
}

// madeStores are as the calls of the chapters ahead make them, also what two came to.
func madeStores(t *testing.T) []impl.Store {
	t.Helper()
	list := []impl.Store{impl.StoreNew(1), impl.StoreNew(2), oneStore(t, 1), oneStore(t, 2),
		behind(t, impl.StoreNew(1), makes(1, "a")), behind(t, impl.StoreNew(2), makes(9999, "abcdefghijkl")), behind(t, impl.StoreNew(1), makes(5, "a"), drops(5)),
		behind(t, oneStore(t, 1), takes(5, 40), takes(5, 20)), behind(t, oneStore(t, 1), drops(5), drops(6)), behind(t, oneStore(t, 2), marks(5, 40, 7), marks(6, 60, 2), renames(6, "0"))}
	for _, p := range []twoStores{
		wentApart(t, []storeCall{marks(5, 40, 1), marks(6, 60, 7)}, []storeCall{puts(5, 70), marks(5, 40, 6), marks(6, 60, 4)}),
		wentApart(t, []storeCall{makes(7, "new"), puts(7, 70), takes(5, 20)}, []storeCall{makes(8, "new"), puts(8, 70), drops(6)}),
	} {
		list = append(list, p.a, p.b, impl.JoinStore(p.a, p.b), impl.JoinStore(p.b, p.a))
	}
	return list
}

func TestBoxTextWritten(t *testing.T) {
	for _, c := range []struct {
		b    impl.Box
		want string
	}{
		{impl.Box{Gid: 1, Name: "a", Next: 1}, "\x01\x01a\x00\x00\x01\x00\x00"},
		{boxOf(1, nil, nil), "\x05\x05inbox\x03\x01\x01\x00\x00"},
		{boxOf(2, nil, []int{7}), "\x05\x05inbox\x03\x01\x02\x00\x01\x07"},
		{boxOf(3, []impl.Mail{mailOf(7, 2, flagsOf(1, stampOf(1, 1)), "hi")}, nil), "\x05\x05inbox\x03\x01\x03\x01\x07\x02\x01\x01\x01\x00\x01\x01\x00\x01\x01\x02hi\x00"},
		{boxOf(3, []impl.Mail{mailOf(7, 2, flagsOf(1, stampOf(1, 1)), "hi")}, []int{4, 300}), "\x05\x05inbox\x03\x01\x03\x01\x07\x02\x01\x01\x01\x00\x01\x01\x00\x01\x01\x02hi\x02\x04\xac\x02"},
		{smallBox(), "\x05\x05inbox\x03\x01\x09\x02\x07\x02\x01\x04\x01\x00\x09\x00\x01\x04\x02\x02hi\xac\x02\x06\x00\x04\x02\x01\x04\x02\x00\x04\x02\x00\x03\x08\x80\x01\x8f\x4e"},
		{impl.Box{Gid: 9999, Name: "abcdefghijkl", Named: stampOf(100000, 2), Next: 10000}, "\x8f\x4e\x0cabcdefghijkl\xa0\x8d\x06\x02\x90\x4e\x00\x00"},
		{impl.Box{Gid: 128, Name: "0", Named: stampOf(127, 0), Next: 128, Gone: []int{1, 127, 128, 9999}}, "\x80\x01\x010\x7f\x00\x80\x01\x00\x04\x01\x7f\x80\x01\x8f\x4e"},
	} {
		if got, ok := impl.BoxText(c.b); !ok || got != c.want {
			t.Errorf("BoxText(%#v) = %q, %v; want %q", c.b, got, ok, c.want)
		}
		readsBox(t, c.want, 0, c.b, len(c.want))
	}
	for _, b := range rightBoxes() {
		if got, ok := impl.BoxText(b); !ok || got != boxByWords(b) {
			t.Errorf("BoxText(%#v) = %q, %v", b, got, ok)
		}
	}
}

// TestStoreTextWritten: the seals were worked out apart from the program.
func TestStoreTextWritten(t *testing.T) {
	hi := boxOf(3, []impl.Mail{mailOf(7, 2, flagsOf(1, stampOf(1, 1)), "hi")}, []int{4, 300})
	for _, c := range []struct {
		s    impl.Store
		want string
	}{
		{impl.StoreNew(1), "\x01\x00\x00\x00\x8a\x4e\x0a\xa3"},
		{impl.StoreNew(2), "\x02\x00\x00\x00\x73\xc6\x82\x9e"},
		{storeOf(2, 100000, nil, []int{1, 9999}), "\x02\xa0\x8d\x06\x00\x02\x01\x8f\x4e\x58\x91\x8f\x84"},
		{storeOf(1, 5, []impl.Box{hi}, []int{9999}), "\x01\x05\x01\x05\x05inbox\x03\x01\x03\x01\x07\x02\x01\x01\x01\x00\x01\x01\x00\x01\x01\x02hi\x02\x04\xac\x02\x01\x8f\x4e\x46\x6f\xea\xeb"},
		{behind(t, impl.StoreNew(1), makes(5, "inbox"), storeCall{"PutMail", 5, 7, 0, "hi"}), "\x01\x02\x01\x05\x05inbox\x01\x01\x02\x01\x07\x01\x00\x02\x01\x00\x02\x01\x00\x02\x01\x02hi\x00\x00\x61\x97\xda\xdc"},
	} {
		if got, ok := impl.StoreText(c.s); !ok || got != c.want {
			t.Errorf("StoreText(%#v) = %q, %v; want %q", c.s, got, ok, c.want)
		}
		readsStore(t, c.want, c.s)
	}
	for _, s := range rightStores() {
		if got, ok := impl.StoreText(s); !ok || got != storeByWords(s) {
			t.Errorf("StoreText(%#v) = %q, %v", s, got, ok)
		}
	}
}

func TestTextsRefused(t *testing.T) {
	for _, b := range wrongBoxes() {
		if got, ok := impl.BoxText(b); ok || got != "" {
			t.Errorf("BoxText(%#v) = %q, %v", b, got, ok)
		}
	}
	for _, s := range wrongStores() {
		if got, ok := impl.StoreText(s); ok || got != "" {
			t.Errorf("StoreText(%#v) = %q, %v", s, got, ok)
		}
	}
}

// TestEmptyListsInBytes: how many there are stands there all the same, be a list empty or nil, and each list for itself.
func TestEmptyListsInBytes(t *testing.T) {
	mail, gone := mailOf(7, 2, flagsOf(0, impl.Stamp{}), ""), []int{8}
	mailText := "\x07\x02\x00\x00\x00\x00\x00\x00\x00\x00\x00\x00"
	for _, c := range []struct {
		mails []impl.Mail
		gone  []int
		want  string
	}{
		{nil, nil, "\x00\x00"}, {[]impl.Mail{}, []int{}, "\x00\x00"}, {nil, []int{}, "\x00\x00"}, {[]impl.Mail{mail}[:0], []int{8}[:0], "\x00\x00"},
		{nil, gone, "\x00\x01\x08"}, {[]impl.Mail{}, gone, "\x00\x01\x08"}, {[]impl.Mail{mail}, nil, "\x01" + mailText + "\x00"}, {[]impl.Mail{mail}, []int{}, "\x01" + mailText + "\x00"},
	} {
		b := impl.Box{Gid: 1, Name: "a", Next: 3, Mails: c.mails, Gone: c.gone}
		want := "\x01\x01a\x00\x00\x03" + c.want
		if got, ok := impl.BoxText(b); !ok || got != want {
			t.Errorf("BoxText(%#v) = %q, %v; want %q", b, got, ok, want)
		}
		readsBox(t, want, 0, b, len(want))
		readsBox(t, want+want, len(want), b, 2*len(want))
		for _, list := range [][]int{nil, {}, {2}} {
			last := "\x00"
			if len(list) == 1 {
				last = "\x01\x02"
			}
			sealed := sealByWords("\x01\x00\x01" + want + last)
			s := storeOf(1, 0, []impl.Box{b}, list)
			if got, ok := impl.StoreText(s); !ok || got != sealed {
				t.Errorf("StoreText(%#v) = %q, %v; want %q", s, got, ok, sealed)
			}
			readsStore(t, sealed, s)
			none := sealByWords("\x01\x00\x00" + last)
			for _, s := range []impl.Store{storeOf(1, 0, nil, list), storeOf(1, 0, []impl.Box{}, list)} {
				if got, ok := impl.StoreText(s); !ok || got != none {
					t.Errorf("StoreText(%#v) = %q, %v; want %q", s, got, ok, none)
				}
				readsStore(t, none, s)
			}
		}
	}
}

// TestEmptyListsLeftOut: where how many there are is missing there is no box, and no store.
func TestEmptyListsLeftOut(t *testing.T) {
	for _, text := range []string{"\x01\x01a\x00\x00\x03", "\x01\x01a\x00\x00\x03\x00", "\x01\x01a\x00\x00\x03\x01\x08"} {
		refusesBox(t, text, 0)
	}
	for _, body := range []string{"", "\x01", "\x01\x00", "\x01\x00\x00", "\x01\x00\x01\x01\x01a\x00\x00\x03\x00", "\x01\x00\x01\x01\x01a\x00\x00\x03\x00\x00", "\x01\x00\x01\x00"} {
		refusesStore(t, sealByWords(body))
	}
}

func TestBoxesComeBack(t *testing.T) {
	for _, b := range rightBoxes() {
		text, _ := impl.BoxText(b)
		for _, ahead := range []string{"", "\x00", "\x80", "\xff\xff\xffbox", text} {
			for _, more := range []string{"", "\x00", "\x01\x01", "\xff\xff\xff", text, strings.Repeat("b", 100)} {
				readsBox(t, ahead+text+more, len(ahead), b, len(ahead+text))
			}
		}
	}
}

// TestBoxesComeBackInARow: where one ends the next one begins, and the last one at the end.
func TestBoxesComeBackInARow(t *testing.T) {
	boxes := rightBoxes()
	row := ""
	for _, b := range boxes {
		text, _ := impl.BoxText(b)
		row += text
	}
	at := 0
	for i, b := range boxes {
		got, behind, ok := impl.ReadBox(row, at)
		if !ok || !likeBoxes(got, b) {
			t.Fatalf("box %d of the row = %#v, %v; want %#v", i, got, ok, b)
		}
		at = behind
	}
	if at != len(row) {
		t.Errorf("the row ends at %d; read up to %d", len(row), at)
	}
	refusesBox(t, row, at)
}

// TestBoxesInAStoresText: each box stands in the store's text as it stands alone.
func TestBoxesInAStoresText(t *testing.T) {
	for _, s := range append(rightStores(), fullestStore()) {
		text, _ := impl.StoreText(s)
		at := len(written(piecesOf(s.By, s.Time, len(s.Boxes))))
		for _, b := range s.Boxes {
			readsBox(t, text, at, b, at+len(boxByWords(b)))
			at += len(boxByWords(b))
		}
		if want := at + len(written(piecesOf(len(s.Gone)))) + len(written(piecesOf(s.Gone...))) + 4; len(text) != want {
			t.Fatalf("StoreText(%#v) has %d bytes; want %d", s, len(text), want)
		}
	}
}

func TestStoresComeBack(t *testing.T) {
	for _, s := range slices.Concat(rightStores(), madeStores(t), []impl.Store{smallStore(), fullestStore()}) {
		checksTexts(t, s)
	}
}

// TestTextsAtTheLimits: the longest text of all is far within what can be sealed; one more of anything is refused, both ways.
func TestTextsAtTheLimits(t *testing.T) {
	s := fullestStore()
	checksTexts(t, s)
	if text, _ := impl.BoxText(s.Boxes[0]); len(text) != 903 {
		t.Errorf("the longest box has %d bytes", len(text))
	}
	if text, _ := impl.StoreText(s); len(text) != 4565 || len(text)-4 > impl.MaxText {
		t.Errorf("the longest store has %d bytes", len(text))
	}
	for name, change := range map[string]func(s *impl.Store){
		"By":         func(s *impl.Store) { s.By = 3 },
		"Time":       func(s *impl.Store) { s.Time = 100001 },
		"boxes":      func(s *impl.Store) { s.Boxes = slices.Insert(s.Boxes, 0, impl.Box{Gid: 1, Name: "a", Next: 1}) },
		"gone boxes": func(s *impl.Store) { s.Gone = numbersFrom(9000, 21) },
		"mails": func(s *impl.Store) {
			s.Boxes[4].Mails = slices.Insert(s.Boxes[4].Mails, 0, mailOf(1, 1, flagsOf(0, impl.Stamp{}), ""))
		},
		"gone mails": func(s *impl.Store) { s.Boxes[0].Gone = numbersFrom(5000, 41) },
		"text":       func(s *impl.Store) { s.Boxes[2].Mails[9].Text += "m" },
		"name":       func(s *impl.Store) { s.Boxes[1].Name += "m" },
		"Next":       func(s *impl.Store) { s.Boxes[3].Next = 10001 },
		"Named":      func(s *impl.Store) { s.Boxes[3].Named.Time = 100001 },
		"flags":      func(s *impl.Store) { s.Boxes[3].Mails[0].Flags[2].Stamp.Time = 100001 },
		"Gid":        func(s *impl.Store) { s.Boxes[4].Gid = 10000 },
	} {
		over := withPart(s, change)
		if got, ok := impl.StoreText(over); ok || got != "" {
			t.Errorf("%s: StoreText = %q, %v", name, got, ok)
		}
		refusesStore(t, storeByWords(over))
	}
}

// TestReadBoxCut: a text that ends one byte or more too soon has no box, wherever it is cut.
func TestReadBoxCut(t *testing.T) {
	for _, b := range append(rightBoxes(), smallBox()) {
		text := boxByWords(b)
		for size := range len(text) {
			refusesBox(t, text[:size], 0)
		}
		for size := range len(text) {
			refusesBox(t, "\x01\x01"+text[:size], 2)
		}
	}
}

func TestReadBoxPlaces(t *testing.T) {
	for _, b := range append(rightBoxes(), smallBox()) {
		text := boxByWords(b)
		for _, at := range append(wrongPlaces(text), len(text)) {
			refusesBox(t, text, at)
		}
		for at := range len(text) {
			checksReadBox(t, text, at)
			checksReadBox(t, text+text, at)
		}
	}
	for _, at := range []int{0, 1, -1, math.MaxInt, math.MinInt} {
		refusesBox(t, "", at)
	}
	// The text around a box may be longer than any that is written.
	far, box := strings.Repeat("\x01", impl.MaxText+1), fullestStore().Boxes[0]
	readsBox(t, far+boxByWords(box)+far, len(far), box, len(far+boxByWords(box)))
}

// turnedNumbers: what a number may be told as in place of what it is.
func turnedNumbers(n int) []uint64 {
	list := []uint64{0, 1, 2, 10, 11, 40, 41, 60, 61, 127, 128, 9999, 10000, 10001, 100000, 100001, impl.MaxText + 1, impl.MaxNumber, impl.MaxNumber + 1, 1 << 32, math.MaxUint64, uint64(n + 1)}
	if n > 0 {
		list = append(list, uint64(n-1))
	}
	return list
}

// withNumber has another number at one place, and all bytes behind it as they were.
func withNumber(list []piece, place int, n string) string {
	return written(list[:place]) + n + list[place].tail + written(list[place+1:])
}

// longerForms of a number: each means what the number means.
func longerForms(n int) []string {
	s := varOf(uint64(n))
	head := s[:len(s)-1] + string([]byte{s[len(s)-1] | 128})
	return []string{head + "\x00", head + "\x80\x00", head + "\x80\x80\x80\x80\x00"}
}

// TestReadBoxTurnedNumbers: each number in its turn, so that counts and lengths are above and below what follows.
func TestReadBoxTurnedNumbers(t *testing.T) {
	right := 0
	for _, b := range []impl.Box{boxOf(1, nil, nil), smallBox(), someBox(2, 3), someBox(10, 40), boxOf(1, nil, numbersFrom(1, 3)), fullestStore().Boxes[0]} {
		list := boxPieces(b)
		for place, p := range list {
			for _, n := range turnedNumbers(p.n) {
				text := withNumber(list, place, varOf(n))
				for _, more := range []string{"", "\x00", boxByWords(b), strings.Repeat("\x01", 90)} {
					if checksReadBox(t, text+more, 0) {
						right++
					}
				}
			}
		}
	}
	if right < 500 {
		t.Errorf("only %d boxes stood there", right)
	}
}

func TestReadStoreTurnedNumbers(t *testing.T) {
	right := 0
	for _, s := range []impl.Store{impl.StoreNew(1), storeOf(2, 7, nil, []int{5, 9}), smallStore(), someStore(3, 2), someStore(5, 20)} {
		list := storePieces(s)
		for place, p := range list {
			for _, n := range turnedNumbers(p.n) {
				text := withNumber(list, place, varOf(n))
				for _, more := range []string{"", "\x00", "\x01\x01"} {
					if checksReadStore(t, sealByWords(text+more)) {
						right++
					}
				}
			}
		}
	}
	if right < 500 {
		t.Errorf("only %d were stores", right)
	}
}

// TestLongerForms: each number in its turn is written longer than VarText has it, counts and lengths among them.
func TestLongerForms(t *testing.T) {
	for _, b := range []impl.Box{boxOf(1, nil, nil), smallBox(), someBox(3, 3), fullestStore().Boxes[4]} {
		list := boxPieces(b)
		for place, p := range list {
			for _, longer := range longerForms(p.n) {
				refusesBox(t, withNumber(list, place, longer), 0)
				refusesBox(t, withNumber(list, place, longer)+strings.Repeat("\x01", 90), 0)
			}
		}
	}
	for _, s := range []impl.Store{impl.StoreNew(1), storeOf(2, 7, nil, []int{5, 9}), smallStore(), someStore(3, 2)} {
		list := storePieces(s)
		for place, p := range list {
			for _, longer := range longerForms(p.n) {
				refusesStore(t, sealByWords(withNumber(list, place, longer)))
			}
		}
	}
}

// TestReadBoxCounts: how many are told, and how many there are, of each list.
func TestReadBoxCounts(t *testing.T) {
	for _, more := range []string{"", "\x00", strings.Repeat("\x01", 300)} {
		for told := range 45 {
			for there := range 45 {
				gone := written(piecesOf(numbersFrom(200, there)...))
				checksReadBox(t, "\x05\x05inbox\x03\x01\x0f\x00"+varOf(uint64(told))+gone+more, 0)
			}
		}
		for told := range 13 {
			for there := range 13 {
				mails := ""
				for _, m := range mailsFrom(1, there) {
					mails += mailByWords(m)
				}
				checksReadBox(t, "\x05\x05inbox\x03\x01\x0f"+varOf(uint64(told))+mails+"\x00"+more, 0)
			}
		}
	}
}

func TestReadStoreCounts(t *testing.T) {
	right := 0
	for told := range 8 {
		for there := range 8 {
			boxes := ""
			for place := range there {
				boxes += boxByWords(boxOfStore(place))
			}
			if ok := checksReadStore(t, sealByWords(written(piecesOf(1, 200, told))+boxes+"\x00")); ok != (told == there && told <= 5) {
				t.Errorf("%d boxes, told as %d, were read: %v", there, told, ok)
			}
		}
	}
	for told := range 24 {
		for there := range 24 {
			gone := written(piecesOf(numbersFrom(8001, there)...))
			if checksReadStore(t, sealByWords(written(piecesOf(1, 0, 0, told))+gone)) {
				right++
			}
		}
	}
	if right != 21 {
		t.Errorf("%d lists of Gone were read", right)
	}
}

// TestGreatCounts: more than there can be is told, with nothing behind it and with much.
func TestGreatCounts(t *testing.T) {
	for _, n := range []uint64{100, 10000, impl.MaxText, impl.MaxNumber, impl.MaxNumber + 1, 1 << 40, math.MaxUint64} {
		for _, more := range []string{"", "\x00", strings.Repeat("\x01", 5000), strings.Repeat(mailByWords(someMail(7, 2)), 200), written(piecesOf(numbersFrom(1, 9000)...))} {
			refusesBox(t, "\x05\x05inbox\x03\x01\x0f"+varOf(n)+more, 0)
			refusesBox(t, "\x05\x05inbox\x03\x01\x0f\x00"+varOf(n)+more, 0)
			refusesBox(t, "\x05"+varOf(n)+more, 0)
			refusesStore(t, sealByWords("\x01\x00"+varOf(n)+more))
			refusesStore(t, sealByWords("\x01\x00\x00"+varOf(n)+more))
			refusesStore(t, sealByWords("\x01\x05\x01\x05\x05inbox\x03\x01\x0f\x00"+varOf(n)+more))
		}
	}
}

// sameForm: all that is missing to a right one is that it is right; else what follows is taken for what is missing.
func sameForm(b impl.Box) bool {
	return !slices.ContainsFunc(b.Mails, func(m impl.Mail) bool { return len(m.Flags) != impl.FlagCount })
}

// TestReadBoxOfTheFormAlone: all of it stands there, but what stands there is not right.
func TestReadBoxOfTheFormAlone(t *testing.T) {
	for _, b := range wrongBoxes() {
		text := boxByWords(b)
		checksReadBox(t, text, 0)
		checksReadBox(t, text+text, len(text))
		if sameForm(b) {
			refusesBox(t, text, 0)
			refusesBox(t, text+strings.Repeat("\x01", 100), 0)
			refusesBox(t, "hi"+text, 2)
		}
	}
}

// TestReadStoreOfTheFormAlone: sealed as a store is, but what is sealed is not right: lists that do not ascend, two of one Gid or Name, and all else.
func TestReadStoreOfTheFormAlone(t *testing.T) {
	for _, s := range wrongStores() {
		text := storeByWords(s)
		checksReadStore(t, text)
		if !slices.ContainsFunc(s.Boxes, func(b impl.Box) bool { return !sameForm(b) }) {
			refusesStore(t, text)
		}
	}
}

// TestReadStoreSeals: without a seal, with another one, with two, or with the seal of something else.
func TestReadStoreSeals(t *testing.T) {
	stores := slices.Concat(rightStores(), madeStores(t), []impl.Store{smallStore(), fullestStore()})
	for i, s := range stores {
		body := bodyByWords(s)
		text := sealByWords(body)
		seal := []byte(text[len(body):])
		slices.Reverse(seal)
		for _, wrong := range []string{body, body + "\x00\x00\x00\x00", body + "\xff\xff\xff\xff", body + string(seal), sealByWords(text), text + text, text[len(body):] + body} {
			refusesStore(t, wrong)
		}
		other := stores[(i+1)%len(stores)]
		if bodyByWords(other) != body {
			refusesStore(t, body+storeByWords(other)[len(bodyByWords(other)):])
		}
	}
}

// TestReadStoreCut: wherever it is cut, with its seal behind and with a new one.
func TestReadStoreCut(t *testing.T) {
	for _, s := range append(madeStores(t), smallStore(), someStore(2, 3)) {
		body := bodyByWords(s)
		text := sealByWords(body)
		for size := range len(text) {
			refusesStore(t, text[:size])
		}
		for at := 1; at < len(text); at++ {
			refusesStore(t, text[at:])
		}
		for size := range len(body) {
			refusesStore(t, sealByWords(body[:size]))
			refusesStore(t, body[:size]+text[len(body):])
		}
	}
}

// TestReadStoreOfMore: one byte more, behind the seal, ahead of it, or within it.
func TestReadStoreOfMore(t *testing.T) {
	for _, s := range slices.Concat(rightStores(), madeStores(t), []impl.Store{smallStore()}) {
		body := bodyByWords(s)
		text := sealByWords(body)
		for c := range 256 {
			more := string([]byte{byte(c)})
			refusesStore(t, text+more)
			refusesStore(t, sealByWords(body+more))
		}
		for _, more := range []string{"\x00", "\x01", "\x02", "\xff", body, text, strings.Repeat("\x00", 100)} {
			refusesStore(t, more+text)
			refusesStore(t, body+more+text[len(body):])
			refusesStore(t, sealByWords(body+more))
			checksReadStore(t, sealByWords(more+body))
		}
	}
	// As long as can be sealed, and one byte longer.
	body := bodyByWords(smallStore())
	for _, size := range []int{impl.MaxText, impl.MaxText + 1} {
		refusesStore(t, sealByWords(body+strings.Repeat("\x00", size-len(body))))
	}
}

// TestReadBoxOneByteTurned: every byte is made every other one.
func TestReadBoxOneByteTurned(t *testing.T) {
	for _, b := range []impl.Box{boxOf(1, nil, nil), boxOf(9, []impl.Mail{mailOf(7, 2, flagsOf(1, stampOf(1, 1)), "hi")}, []int{4, 300}), smallBox()} {
		text := boxByWords(b)
		for place := range len(text) {
			for c := range 256 {
				turned := text[:place] + string([]byte{byte(c)}) + text[place+1:]
				for _, at := range []int{0, 1, place} {
					checksReadBox(t, turned, at)
					checksReadBox(t, turned+text, at)
				}
			}
		}
	}
}

// TestReadStoreOneByteTurned: the seal tells each one; sealed anew, what is turned is what the words make of it.
func TestReadStoreOneByteTurned(t *testing.T) {
	for _, s := range []impl.Store{impl.StoreNew(1), storeOf(2, 100000, nil, []int{1, 9999}), behind(t, impl.StoreNew(1), makes(5, "inbox"), puts(5, 7)), smallStore()} {
		body := bodyByWords(s)
		text := sealByWords(body)
		for place := range len(text) {
			for c := range 256 {
				turned := text[:place] + string([]byte{byte(c)}) + text[place+1:]
				if turned != text {
					refusesStore(t, turned)
				}
				if place < len(body) {
					checksReadStore(t, sealByWords(turned[:len(body)]))
				}
			}
		}
	}
}

// TestReadStoreOneByteTurnedOfAll: at each place of long texts, some bytes.
func TestReadStoreOneByteTurnedOfAll(t *testing.T) {
	for _, s := range []impl.Store{fullestStore(), someStore(5, 20)} {
		text := []byte(storeByWords(s))
		for place := range text {
			for _, turn := range []byte{1, 128, 255} {
				text[place] ^= turn
				refusesStore(t, string(text))
				text[place] ^= turn
			}
		}
	}
}

func TestSameStore(t *testing.T) {
	right := slices.Concat(rightStores(), madeStores(t), []impl.Store{smallStore(), fullestStore()})
	for i, a := range right {
		if !impl.SameStore(a, a) || !impl.SameStore(a, copyStore(a)) || !impl.SameStore(copyStore(a), a) {
			t.Fatalf("%#v is not the same as itself", a)
		}
		for _, b := range right[:i] {
			want := likeStores(a, b)
			if impl.SameStore(a, b) != want || impl.SameStore(b, a) != want {
				t.Fatalf("SameStore(%#v, %#v) = %v, the other way %v", a, b, impl.SameStore(a, b), impl.SameStore(b, a))
			}
		}
	}
}

// TestSameStoreOfWhatIsNotRight: two without a text are the same, whatever they are; one without is never the same as one with.
func TestSameStoreOfWhatIsNotRight(t *testing.T) {
	right, wrong := append(rightStores(), smallStore()), wrongStores()
	for i, a := range wrong {
		for _, b := range []impl.Store{a, copyStore(a), wrong[(i+1)%len(wrong)], wrong[(i+37)%len(wrong)], {}} {
			if !impl.SameStore(a, b) || !impl.SameStore(b, a) {
				t.Fatalf("SameStore(%#v, %#v) = %v, the other way %v", a, b, impl.SameStore(a, b), impl.SameStore(b, a))
			}
		}
		for _, b := range []impl.Store{right[i%len(right)], impl.StoreNew(1), someStore(4, 3)} {
			if impl.SameStore(a, b) || impl.SameStore(b, a) {
				t.Fatalf("SameStore(%#v, %#v) = %v, the other way %v", a, b, impl.SameStore(a, b), impl.SameStore(b, a))
			}
		}
	}
}

// partsTurned are right stores, each unlike the given one in one thing alone.
func partsTurned(s impl.Store) []impl.Store {
	var list []impl.Store
	add := func(change func(s *impl.Store)) { list = append(list, withPart(s, change)) }
	add(func(s *impl.Store) { s.By = 3 - s.By })
	add(func(s *impl.Store) { s.Time++ })
	add(func(s *impl.Store) { s.Gone = s.Gone[1:] })
	add(func(s *impl.Store) { s.Gone = append(s.Gone, 9999) })
	add(func(s *impl.Store) { s.Boxes = s.Boxes[:len(s.Boxes)-1] })
	for i := range s.Gone {
		add(func(s *impl.Store) { s.Gone[i]++ })
	}
	for i := range s.Boxes {
		box := func(change func(b *impl.Box)) { add(func(s *impl.Store) { change(&s.Boxes[i]) }) }
		box(func(b *impl.Box) { b.Gid++ })
		box(func(b *impl.Box) { b.Name += "x" })
		box(func(b *impl.Box) { b.Name = b.Name[1:] })
		box(func(b *impl.Box) { b.Named.Time++ })
		box(func(b *impl.Box) { b.Named.By = (b.Named.By + 1) % 3 })
		box(func(b *impl.Box) { b.Next++ })
		box(func(b *impl.Box) { b.Mails = b.Mails[1:] })
		box(func(b *impl.Box) { b.Gone = b.Gone[1:] })
		box(func(b *impl.Box) { b.Gone = append(b.Gone, 9999) })
		for j := range s.Boxes[i].Gone {
			box(func(b *impl.Box) { b.Gone[j]++ })
		}
	}
	for i := range mailsIn(&s) {
		mail := func(change func(m *impl.Mail)) { add(func(s *impl.Store) { change(mailsIn(s)[i]) }) }
		mail(func(m *impl.Mail) { m.Gid += 100 })
		mail(func(m *impl.Mail) { m.Uid++ })
		mail(func(m *impl.Mail) { m.Text += "x" })
		mail(func(m *impl.Mail) { m.Text = "M" + m.Text[1:] })
		for k := range impl.FlagCount {
			mail(func(m *impl.Mail) { m.Flags[k].Val = 1 - m.Flags[k].Val })
			mail(func(m *impl.Mail) { m.Flags[k].Stamp.Time++ })
			mail(func(m *impl.Mail) { m.Flags[k].Stamp.By = (m.Flags[k].Stamp.By + 1) % 3 })
		}
	}
	return list
}

func TestSameStoreOfOneDifference(t *testing.T) {
	s := someStore(4, 3)
	for _, other := range partsTurned(s) {
		if !storeOkByWords(other) {
			t.Fatalf("%#v is not right", other)
		}
		if impl.SameStore(s, other) || impl.SameStore(other, s) {
			t.Errorf("%#v and %#v are the same", s, other)
		}
		checksTexts(t, other)
	}
}

func TestSameStoreOfEmptyLists(t *testing.T) {
	box := impl.Box{Gid: 1, Name: "a", Next: 1}
	full := impl.Box{Gid: 1, Name: "a", Next: 1, Mails: []impl.Mail{}, Gone: []int{}}
	for _, p := range []twoStores{{storeOf(1, 0, nil, nil), storeOf(1, 0, []impl.Box{}, []int{})}, {storeOf(2, 3, []impl.Box{box}, nil), storeOf(2, 3, []impl.Box{full}, []int{})}} {
		if !impl.SameStore(p.a, p.b) || !impl.SameStore(p.b, p.a) {
			t.Errorf("an empty list and nil are not the same: %#v", p)
		}
	}
	// A number of one list that stands in the next one is another store.
	here, there := storeOf(1, 0, []impl.Box{box}, []int{5}), withPart(storeOf(1, 0, []impl.Box{box}, nil), func(s *impl.Store) { s.Boxes[0].Gone = []int{5} })
	if impl.SameStore(here, there) || impl.SameStore(there, here) {
		t.Errorf("%#v and %#v are the same", here, there)
	}
}

// TestSameStoreAndAlike: By and Time count here.
func TestSameStoreAndAlike(t *testing.T) {
	p := wentApart(t, []storeCall{puts(5, 70)}, []storeCall{puts(5, 10), puts(6, 80)})
	here, there := impl.JoinStore(p.a, p.b), impl.JoinStore(p.b, p.a)
	if !impl.Alike(here, there) || impl.SameStore(here, there) || impl.SameStore(there, here) {
		t.Errorf("Alike %v, SameStore %v", impl.Alike(here, there), impl.SameStore(here, there))
	}
	there.By = here.By
	if !impl.SameStore(here, there) {
		t.Errorf("%#v and %#v are not the same", here, there)
	}
	there.Time++
	if impl.SameStore(here, there) {
		t.Errorf("%#v and %#v are the same", here, there)
	}
}

// TestDrawnStoresInBytes: about every second one is right.
func TestDrawnStoresInBytes(t *testing.T) {
	r := rand.New(rand.NewSource(10))
	right := 0
	for range 3000 {
		s := drawnStore(r)
		if !storeOkByWords(s) {
			if text, ok := impl.StoreText(s); ok || text != "" {
				t.Fatalf("StoreText(%#v) = %q, %v", s, text, ok)
			}
			refusesStore(t, storeByWords(s))
			continue
		}
		right++
		checksTexts(t, s)
	}
	if right < 800 || right > 2700 {
		t.Errorf("%d of 3000 drawn stores are right", right)
	}
}

// TestLivesInBytes: two stores that go apart, meet, and are written and read back in between, as if nothing had been.
func TestLivesInBytes(t *testing.T) {
	r := rand.New(rand.NewSource(100))
	meetings := 0
	for range 60 {
		p := twoStores{impl.StoreNew(1), impl.StoreNew(2)}
		for range 40 {
			p = drawnApart(r, p, 1+r.Intn(4))
			checksTexts(t, p.a)
			checksTexts(t, p.b)
			if r.Intn(3) > 0 || !impl.FitsStore(p.a, p.b) {
				continue
			}
			meetings++
			textA, _ := impl.StoreText(p.a)
			textB, _ := impl.StoreText(p.b)
			a, _ := impl.ReadStore(textA)
			b, _ := impl.ReadStore(textB)
			if !impl.SameStore(impl.JoinStore(a, b), impl.JoinStore(p.a, p.b)) {
				t.Fatalf("%#v and %#v come to something else when they were read", p.a, p.b)
			}
			p = twoStores{impl.JoinStore(a, b), impl.JoinStore(b, a)}
		}
	}
	if meetings < 200 {
		t.Errorf("%d meetings", meetings)
	}
}

// drawnBytes turns, leaves out or doubles some bytes of a text.
func drawnBytes(r *rand.Rand, text string) string {
	for range r.Intn(3) {
		if text == "" {
			break
		}
		at := r.Intn(len(text))
		switch r.Intn(4) {
		case 0:
			text = text[:at] + text[at+1:]
		case 1:
			text = text[:at] + text[at:at+1] + text[at:]
		default:
			text = text[:at] + string([]byte{[]byte{0, 1, 2, byte(r.Intn(12)), byte(r.Intn(256))}[r.Intn(5)]}) + text[at+1:]
		}
	}
	return text
}

func TestReadBoxOfDrawnTexts(t *testing.T) {
	r := rand.New(rand.NewSource(101))
	right, wrong := 0, 0
	for range 20000 {
		text := drawnBytes(r, boxByWords(drawnBox(r)))
		for _, at := range []int{0, r.Intn(len(text) + 1), -1, len(text), len(text) + 1} {
			if checksReadBox(t, text, at) {
				right++
			} else {
				wrong++
			}
		}
	}
	for range 20000 {
		bytes := make([]byte, r.Intn(40))
		for i := range bytes {
			bytes[i] = []byte{0, 1, 1, 'a', 1, 2, byte(r.Intn(4)), byte(r.Intn(256))}[r.Intn(7+r.Intn(2))]
		}
		for at := range bytes {
			if checksReadBox(t, string(bytes), at) {
				right++
			}
		}
	}
	if right < 1000 || wrong < 1000 {
		t.Errorf("%d boxes stood there, %d did not", right, wrong)
	}
}

func TestReadStoreOfDrawnTexts(t *testing.T) {
	r := rand.New(rand.NewSource(102))
	right, wrong := 0, 0
	for range 20000 {
		s := drawnApart(r, twoStores{impl.StoreNew(1), impl.StoreNew(2)}, r.Intn(8)).a
		text := storeByWords(s)
		if r.Intn(3) > 0 {
			text = sealByWords(drawnBytes(r, text[:len(text)-4]))
		} else {
			text = drawnBytes(r, text)
		}
		if checksReadStore(t, text) {
			right++
		} else {
			wrong++
		}
	}
	if right < 3000 || wrong < 3000 {
		t.Errorf("%d were stores, %d were not", right, wrong)
	}
}

// memoryBoxes and memoryStoresInBytes are some of each kind: all of them would take long.
func memoryBoxes() []impl.Box {
	var list []impl.Box
	for i, b := range append(rightBoxes(), wrongBoxes()...) {
		if i%3 == 0 {
			list = append(list, b)
		}
	}
	return append(list, smallBox(), fullestStore().Boxes[0])
}

func memoryStoresInBytes(t *testing.T) []impl.Store {
	return slices.Concat(memoryStores(), madeStores(t), []impl.Store{smallStore(), fullestStore()})
}

func TestTextsLeaveTheirArguments(t *testing.T) {
	for _, given := range memoryBoxes() {
		b := roomyBox(given)
		whole := wholeBox(b)
		impl.BoxText(b)
		if !likeBoxes(wholeBox(b), whole) {
			t.Fatalf("%#v was written into, or behind its end", given)
		}
	}
	list := memoryStoresInBytes(t)
	for i, given := range list {
		a, b := roomyStore(given), roomyStore(list[(i+1)%len(list)])
		wholeA, wholeB := wholeStore(a), wholeStore(b)
		impl.StoreText(a)
		impl.SameStore(a, b)
		impl.SameStore(a, a)
		if !likeStores(wholeStore(a), wholeA) || !likeStores(wholeStore(b), wholeB) {
			t.Fatalf("%#v was written into, or behind its end", given)
		}
	}
}

// TestTextsNewMemory: a text stays as it is when the argument is changed behind the call, and lies in none of its texts.
func TestTextsNewMemory(t *testing.T) {
	for _, given := range memoryBoxes() {
		b := roomyBox(given)
		text, _ := impl.BoxText(b)
		kept := strings.Clone(text)
		shared := slices.ContainsFunc(textsOfBox(b), func(other string) bool { return sharesMemory(text, other) })
		spoilBox(b)
		if text != kept || shared {
			t.Fatalf("BoxText(%#v) keeps something of it", given)
		}
	}
	for _, given := range memoryStoresInBytes(t) {
		s := roomyStore(given)
		text, _ := impl.StoreText(s)
		again, _ := impl.StoreText(s)
		kept := strings.Clone(text)
		shared := slices.ContainsFunc(textsOfStore(s), func(other string) bool { return sharesMemory(text, other) })
		spoilStore(s)
		if text != kept || shared || sharesMemory(text, again) {
			t.Fatalf("StoreText(%#v) keeps something of it", given)
		}
	}
}

// checksApart: what was read keeps nothing of the text, and no two of its texts or lists lie in one memory.
func checksApart(t *testing.T, text string, read func() impl.Store) {
	t.Helper()
	first, second := read(), read()
	texts := slices.Concat(textsOfStore(first), textsOfStore(second))
	for i, one := range texts {
		if sharesMemory(one, text) || slices.ContainsFunc(texts[:i], func(other string) bool { return sharesMemory(one, other) }) {
			t.Fatalf("of %q the text %q is shared", text, one)
		}
	}
	kept := copyStore(second)
	spoilStore(first)
	if !likeStores(second, kept) {
		t.Fatalf("of two answers %#v changed with the other one", second)
	}
	apartFromEachOther(t, read())
}

func TestReadsNewMemory(t *testing.T) {
	for _, s := range slices.Concat(rightStores(), madeStores(t), []impl.Store{smallStore(), fullestStore()}) {
		text := storeByWords(s)
		checksApart(t, text, func() impl.Store {
			got, _ := impl.ReadStore(text)
			return got
		})
	}
	for _, b := range append(rightBoxes(), smallBox(), fullestStore().Boxes[3]) {
		text := "ahead" + boxByWords(b) + "behind"
		checksApart(t, text, func() impl.Store {
			got, _, _ := impl.ReadBox(text, 5)
			return impl.Store{Boxes: []impl.Box{got}}
		})
	}
}

// TestReadsOfBytesThatChange: who made the text out of bytes may go on with these.
func TestReadsOfBytesThatChange(t *testing.T) {
	s := smallStore()
	bytes := []byte(storeByWords(s))
	got, ok := impl.ReadStore(string(bytes))
	b, _, right := impl.ReadBox(string(bytes), 4)
	for i := range bytes {
		bytes[i] = '!'
	}
	if !ok || !right || !likeStores(got, s) || !likeBoxes(b, s.Boxes[0]) {
		t.Errorf("%#v, %v; %#v, %v", got, ok, b, right)
	}
}

// TestTextsCallAgain: a reading that was given up leaves nothing for the next one, also when many are under way.
func TestTextsCallAgain(t *testing.T) {
	s := smallStore()
	box, text := boxByWords(s.Boxes[0]), storeByWords(s)
	var group sync.WaitGroup
	for worker := range 8 {
		group.Go(func() {
			for i := range 200 {
				if _, _, ok := impl.ReadBox(box[:(i+worker)%len(box)], 0); ok {
					t.Errorf("a box that was cut at %d was read", (i+worker)%len(box))
				}
				b, behind, ok := impl.ReadBox(box, 0)
				if !ok || behind != len(box) || !likeBoxes(b, s.Boxes[0]) {
					t.Errorf("ReadBox = %#v, %d, %v", b, behind, ok)
				}
				if _, ok := impl.ReadStore(text[:(i+worker)%len(text)]); ok {
					t.Errorf("a store that was cut at %d was read", (i+worker)%len(text))
				}
				if got, ok := impl.ReadStore(text); !ok || !impl.SameStore(got, s) {
					t.Errorf("ReadStore = %#v, %v", got, ok)
				}
			}
		})
	}
	group.Wait()
}
