package tests

import (
	"math"
	"math/rand"
	"slices"
	"strings"
	"sync"
	"testing"

	"loop.example/g00324/impl"
)

// It has just these fields, in this order: else this would not build.
var _ = struct {
	Store   impl.Store
	Journal string
	Saved   int
}(impl.Kept{})

func keptOf(s impl.Store, journal string, saved int) impl.Kept {
	return impl.Kept{Store: s, Journal: journal, Saved: saved}
}

func likeKepts(a, b impl.Kept) bool {
	return likeStores(a.Store, b.Store) && a.Journal == b.Journal && a.Saved == b.Saved
}

func copyKept(k impl.Kept) impl.Kept {
	return keptOf(copyStore(k.Store), strings.Clone(k.Journal), k.Saved)
}

// recordByWords makes one of a text of any length, so that it also makes what RecordText refuses to.
func recordByWords(text string) string {
	return sealByWords(varOf(uint64(len(text))) + text)
}

func journalByWords(calls ...impl.Call) string {
	journal := ""
	for _, c := range calls {
		journal += recordByWords(callByWords(c))
	}
	return journal
}

// recordsByWords is a second reader, which asks for nothing of the program.
func recordsByWords(journal string) ([]string, int) {
	var texts []string
	at := 0
	for {
		n, used := numbersThere(journal[at:], 1)
		if n == nil || n[0] < 1 || n[0] > 6000 || n[0]+4 > len(journal)-at-used {
			return texts, at
		}
		from, behind := at+used, at+used+n[0]+4
		if sealByWords(journal[at:behind-4]) != journal[at:behind] {
			return texts, at
		}
		texts = append(texts, journal[from:behind-4])
		at = behind
	}
}

// callsByWords tells, too, whether each of the texts is a call's.
func callsByWords(texts []string) ([]impl.Call, bool) {
	var calls []impl.Call
	for _, text := range texts {
		if c, ok := readCallByWords(text); ok {
			calls = append(calls, c)
		}
	}
	return calls, len(calls) == len(texts)
}

func madeByWords(by int, texts []string) impl.Store {
	calls, _ := callsByWords(texts)
	made, _ := oneByOne(storeOf(by, 0, nil, nil), calls)
	return made
}

func keptOkByWords(k impl.Kept) bool {
	texts, behind := recordsByWords(k.Journal)
	_, all := callsByWords(texts)
	return storeOkByWords(k.Store) && k.Saved >= 0 && k.Saved <= len(k.Journal) && behind == len(k.Journal) && all && likeStores(madeByWords(k.Store.By, texts), k.Store)
}

func doKeptByWords(k impl.Kept, c impl.Call) (impl.Kept, bool) {
	store, ok := doByWords(k.Store, c)
	journal := k.Journal + recordByWords(callByWords(c))
	if !ok || len(journal) > 20000 {
		return k, false
	}
	return keptOf(store, journal, k.Saved), true
}

// leftByWords is how much of a journal a fall leaves, whole records or not: byte by byte.
func leftByWords(k impl.Kept, cut int) int {
	size := k.Saved
	if size < 0 || size > len(k.Journal) {
		size = 0
	}
	for left := cut; left > 0 && size < len(k.Journal); left-- {
		size++
	}
	return size
}

func fallByWords(k impl.Kept, cut int) impl.Kept {
	texts, behind := recordsByWords(k.Journal[:leftByWords(k, cut)])
	return keptOf(madeByWords(k.Store.By, texts), k.Journal[:behind], behind)
}

func checksRecords(t *testing.T, journal string) ([]string, int) {
	t.Helper()
	texts, behind := impl.ReadRecords(journal)
	want, wantBehind := recordsByWords(journal)
	if behind != wantBehind || !slices.Equal(texts, want) {
		t.Fatalf("ReadRecords(%q) = %q, %d; want %q, %d", journal, texts, behind, want, wantBehind)
	}
	return texts, behind
}

func readsRecords(t *testing.T, journal string, want []string, wantBehind int) {
	t.Helper()
	if texts, behind := checksRecords(t, journal); behind != wantBehind || !slices.Equal(texts, want) {
		t.Fatalf("ReadRecords(%q) = %q, %d; want %q, %d", journal, texts, behind, want, wantBehind)
	}
}

func checksKeptOk(t *testing.T, k impl.Kept, want bool) {
	t.Helper()
	if keptOkByWords(k) != want || impl.KeptOk(k) != want {
		t.Fatalf("KeptOk(%#v) = %v, by the words %v; want %v", k, impl.KeptOk(k), keptOkByWords(k), want)
	}
}

func checksDoKept(t *testing.T, k impl.Kept, c impl.Call) (impl.Kept, bool) {
	t.Helper()
	got, ok := impl.DoKept(k, c)
	want, wantOk := doKeptByWords(k, c)
	if ok != wantOk || !likeKepts(got, want) {
		t.Fatalf("DoKept(%#v, %#v) = %#v, %v; want %#v, %v", k, c, got, ok, want, wantOk)
	}
	return got, ok
}

func doesKept(t *testing.T, k impl.Kept, calls ...impl.Call) impl.Kept {
	t.Helper()
	for _, c := range calls {
		next, ok := checksDoKept(t, k, c)
		if !ok {
			t.Fatalf("%#v is refused by %#v", c, k)
		}
		k = next
	}
	return k
}

func refusesKept(t *testing.T, k impl.Kept, c impl.Call) {
	t.Helper()
	kept := copyKept(k)
	if got, ok := impl.DoKept(k, c); ok || !likeKepts(got, kept) || !likeKepts(k, kept) {
		t.Fatalf("DoKept(%#v, %#v) = %#v, %v", kept, c, got, ok)
	}
}

func checksFall(t *testing.T, k impl.Kept, cut int) impl.Kept {
	t.Helper()
	got, want := impl.FallKept(k, cut), fallByWords(k, cut)
	if !likeKepts(got, want) {
		t.Fatalf("FallKept(%#v, %d) = %#v; want %#v", k, cut, got, want)
	}
	return got
}

// lifeCalls: each of the seven kinds, each done behind those ahead of it.
func lifeCalls() []impl.Call {
	theirs := impl.Box{Gid: 4, Name: "theirs", Named: stampOf(9, 2), Next: 3, Mails: []impl.Mail{mailOf(30, 2, flagsOf(1, stampOf(8, 2)), "from there")}, Gone: []int{31}}
	return []impl.Call{
		callOf(1, 5, 0, 0, "inbox"), callOf(4, 5, 7, 0, "hi"), callOf(4, 5, 128, 4, ""), callOf(2, 5, 0, 0, "work"), callOf(5, 5, 7, 3, ""),
		callOf(6, 5, 128, 0, ""), joins(storeOf(2, 9, []impl.Box{theirs}, []int{3})), callOf(1, 6, 0, 0, "old"), callOf(3, 6, 0, 0, ""),
	}
}

// keptAfter is of calls that are all done, made apart from the program.
func keptAfter(t *testing.T, by int, calls ...impl.Call) impl.Kept {
	t.Helper()
	store, n := oneByOne(storeOf(by, 0, nil, nil), calls)
	if n != len(calls) {
		t.Fatalf("only %d of %#v were done", n, calls)
	}
	return keptOf(store, journalByWords(calls...), 0)
}

func lifeKept(t *testing.T) impl.Kept {
	t.Helper()
	return keptAfter(t, 1, lifeCalls()...)
}

// lifeKepts are a life's, one behind each call, with more and less of it saved.
func lifeKepts(t *testing.T) []impl.Kept {
	t.Helper()
	var list []impl.Kept
	for n := range len(lifeCalls()) + 1 {
		k := keptAfter(t, 1, lifeCalls()[:n]...)
		for _, saved := range []int{0, len(k.Journal) / 2, len(k.Journal)} {
			k.Saved = saved
			list = append(list, k)
		}
	}
	return list
}

// recordEnds are the places behind each record, and 0 ahead of the first.
func recordEnds(texts ...string) []int {
	ends := []int{0}
	for i, text := range texts {
		ends = append(ends, ends[i]+len(recordByWords(text)))
	}
	return ends
}

func callTexts(calls []impl.Call) []string {
	var texts []string
	for _, c := range calls {
		texts = append(texts, callByWords(c))
	}
	return texts
}

// wholeAhead is how many records end at a place or ahead of it.
func wholeAhead(ends []int, place int) int {
	n := 0
	for n+1 < len(ends) && ends[n+1] <= place {
		n++
	}
	return n
}

// sizedTexts are of every length at which something changes.
func sizedTexts() []string {
	var list []string
	for _, size := range []int{1, 2, 10, 59, 60, 61, 126, 127, 128, 129, 255, 256, 4565, 4572, 5998, 5999, 6000} {
		list = append(list, strings.Repeat("m", size), strings.Repeat("\x00", size), strings.Repeat("\xff", size-1)+"\x80")
	}
	return list
}

// TestRecordTextWritten: number by number; the seals were worked out apart from the program.
func TestRecordTextWritten(t *testing.T) {
	m := func(size int) string { return strings.Repeat("m", size) }
	for _, c := range []struct{ text, want string }{
		{"a", "\x01a\xf3\x87\xcb\x14"},
		{"\x00", "\x01\x00\xed\x5c\x68\x5e"},
		{"\xff", "\x01\xff\x6c\x06\x50\x7d"},
		{"mail", "\x04mail\xdb\xc5\xc9\xca"},
		{m(127), "\x7f" + m(127) + "\x8e\xd0\x7a\xb1"},
		{m(128), "\x80\x01" + m(128) + "\x22\xb5\x1a\xd1"},
		{m(5999), "\xef\x2e" + m(5999) + "\x05\xed\xee\x5f"},
		{m(6000), "\xf0\x2e" + m(6000) + "\xe0\x49\xe8\x0e"},
		{"\x01\x05\x00\x00\x05inbox", "\x0a\x01\x05\x00\x00\x05inbox\x7e\x11\xa4\xb2"},
	} {
		if got, ok := impl.RecordText(c.text); !ok || got != c.want {
			t.Errorf("RecordText(%q) = %q, %v; want %q", c.text, got, ok, c.want)
		}
		readsRecords(t, c.want, []string{c.text}, len(c.want))
	}
}

func TestRecordTextLimits(t *testing.T) {
	if impl.MaxRecord != 6000 {
		t.Errorf("MaxRecord is %d", impl.MaxRecord)
	}
	for _, size := range []int{0, 1, 2, 127, 128, 5999, 6000, 6001, 6002, 16384, 19999, 20000, 20001, 1 << 20} {
		text := strings.Repeat("r", size)
		got, ok := impl.RecordText(text)
		if want := size >= 1 && size <= 6000; ok != want || !want && got != "" || want && got != recordByWords(text) {
			t.Errorf("of %d bytes: %d bytes, %v", size, len(got), ok)
		}
	}
}

func TestRecordsComeBack(t *testing.T) {
	for n := range 256 {
		text := string([]byte{byte(n)})
		record, ok := impl.RecordText(text)
		if !ok || record != recordByWords(text) {
			t.Fatalf("RecordText(%q) = %q, %v", text, record, ok)
		}
		readsRecords(t, record, []string{text}, 6)
	}
	for _, text := range sizedTexts() {
		record, ok := impl.RecordText(text)
		if !ok || record != recordByWords(text) {
			t.Fatalf("RecordText of %d bytes = %d bytes, %v", len(text), len(record), ok)
		}
		readsRecords(t, record, []string{text}, len(record))
	}
}

// TestRecordsBehindEachOther: text by text, in order, in a journal far longer than MaxText, too.
func TestRecordsBehindEachOther(t *testing.T) {
	readsRecords(t, "", nil, 0)
	journal := ""
	var want []string
	for _, text := range append(sizedTexts(), sizedTexts()...) {
		record, _ := impl.RecordText(text)
		journal, want = journal+record, append(want, text)
		readsRecords(t, journal, want, len(journal))
	}
	if len(journal) < 5*impl.MaxText {
		t.Errorf("the journal has %d bytes", len(journal))
	}
	slices.Reverse(want)
	journal = ""
	for _, text := range want {
		journal += recordByWords(text)
	}
	readsRecords(t, journal, want, len(journal))
	readsRecords(t, "\x01a\xf3\x87\xcb\x14\x04mail\xdb\xc5\xc9\xca\x01a\xf3\x87\xcb\x14", []string{"a", "mail", "a"}, 21)
}

// TestRecordsWithinRecords: what stands in a text is no record of the journal.
func TestRecordsWithinRecords(t *testing.T) {
	inner, _ := impl.RecordText("inner")
	outer, _ := impl.RecordText(inner + inner)
	readsRecords(t, outer+inner, []string{inner + inner, "inner"}, len(outer)+len(inner))
	readsRecords(t, outer[:len(outer)-1], nil, 0)
	readsRecords(t, outer[1:], []string{"inner", "inner"}, 2*len(inner))
}

// TestRecordsCut: at every place just the whole records ahead of it are read.
func TestRecordsCut(t *testing.T) {
	for _, texts := range [][]string{callTexts(lifeCalls()), {"a"}, {"a", "b", "a"}, {strings.Repeat("m", 127), strings.Repeat("m", 128), "\x00", strings.Repeat("\xff", 300)}} {
		journal := ""
		for _, text := range texts {
			journal += recordByWords(text)
		}
		ends := recordEnds(texts...)
		for size := range len(journal) + 1 {
			n := wholeAhead(ends, size)
			readsRecords(t, journal[:size], texts[:n], ends[n])
		}
		for at := range journal {
			checksRecords(t, journal[at:])
		}
	}
}

func TestLongRecordsCut(t *testing.T) {
	texts := []string{"a", strings.Repeat("m", 6000), strings.Repeat("n", 5999), "b"}
	ends := recordEnds(texts...)
	journal := ""
	for _, text := range texts {
		journal += recordByWords(text)
	}
	for _, end := range ends {
		for size := max(0, end-8); size <= min(len(journal), end+8); size++ {
			n := wholeAhead(ends, size)
			readsRecords(t, journal[:size], texts[:n], ends[n])
		}
	}
}

// TestRecordsOneByteTurned: every byte is made every other one, and what is ahead of its record is read alone.
func TestRecordsOneByteTurned(t *testing.T) {
	texts := callTexts(lifeCalls())
	journal, ends := journalByWords(lifeCalls()...), recordEnds(texts...)
	for place := range journal {
		n := wholeAhead(ends, place)
		for b := range 256 {
			if turned := byte(b); turned != journal[place] {
				readsRecords(t, journal[:place]+string([]byte{turned})+journal[place+1:], texts[:n], ends[n])
			}
		}
	}
}

// TestRecordsLongerForms: a length in a longer form, with a seal of all of it.
func TestRecordsLongerForms(t *testing.T) {
	for _, text := range append(sizedTexts(), callTexts(lifeCalls())...) {
		for _, longer := range longerForms(len(text)) {
			bad := sealByWords(longer + text)
			readsRecords(t, bad, nil, 0)
			readsRecords(t, recordByWords("a")+bad+recordByWords("b"), []string{"a"}, 6)
		}
	}
}

// TestRecordsOtherLengths: a length that tells less, or more, than there is, sealed or not; none is of no bytes, or of more than MaxRecord.
func TestRecordsOtherLengths(t *testing.T) {
	for _, text := range sizedTexts() {
		for _, n := range append(turnedNumbers(len(text)), 5999, 6000, 6001) {
			if n == uint64(len(text)) {
				continue
			}
			readsRecords(t, sealByWords(varOf(n)+text), nil, 0)
			readsRecords(t, recordByWords("a")+sealByWords(varOf(n)+text)+recordByWords(text), []string{"a"}, 6)
		}
	}
	for _, text := range []string{"", strings.Repeat("m", 6001), strings.Repeat("m", 6002), strings.Repeat("m", 20000), strings.Repeat("m", 20001), strings.Repeat("m", 1<<17)} {
		readsRecords(t, recordByWords(text), nil, 0)
		readsRecords(t, recordByWords("a")+recordByWords(text)+recordByWords("b"), []string{"a"}, 6)
	}
}

// TestRecordsWithOtherSeals: of the text alone, of another one, with its bytes the other way round.
func TestRecordsWithOtherSeals(t *testing.T) {
	for _, text := range []string{"a", "mail", callByWords(callOf(1, 5, 0, 0, "inbox"))} {
		head := varOf(uint64(len(text))) + text
		record := sealByWords(head)
		seal := []byte(record[len(head):])
		slices.Reverse(seal)
		for _, bad := range []string{head, head + string(seal), varOf(uint64(len(text))) + sealByWords(text), head + "\x00\x00\x00\x00", head + "\xff\xff\xff\xff", sealByWords(head + "\x00"), sealByWords("\x00" + head), varOf(uint64(len(text)))} {
			readsRecords(t, bad, nil, 0)
			readsRecords(t, record+bad, []string{text}, len(record))
			readsRecords(t, bad+record, nil, 0)
		}
	}
}

// TestRecordsAheadOfOtherBytes: what is behind the last one is not read, and tells nothing of it.
func TestRecordsAheadOfOtherBytes(t *testing.T) {
	texts := callTexts(lifeCalls())
	journal := journalByWords(lifeCalls()...)
	for n := range 256 {
		readsRecords(t, journal+string([]byte{byte(n)}), texts, len(journal))
		readsRecords(t, string([]byte{byte(n)})+journal, nil, 0)
	}
	for _, more := range []string{"\x00\x00\x00\x00\x00", "\x80", "\xff\xff\xff\xff\xff\xff\xff\xff\xff\xff", "\x01a", "junk", strings.Repeat("\x00", 30000), strings.Repeat("\x01", 30000), strings.Repeat("\xff", 30000), journal[1:]} {
		readsRecords(t, journal+more, texts, len(journal))
		checksRecords(t, more+journal)
		readsRecords(t, more, nil, 0)
	}
}

func TestDrawnRecords(t *testing.T) {
	r := rand.New(rand.NewSource(121))
	whole, cut := 0, 0
	for range 20000 {
		journal := ""
		var want []string
		for range r.Intn(5) {
			want = append(want, drawnText(r, 1+r.Intn([]int{3, 20, 200}[r.Intn(3)])))
			journal += recordByWords(want[len(want)-1])
		}
		readsRecords(t, journal, want, len(journal))
		turned := drawnBytes(r, journal)
		if _, behind := checksRecords(t, turned); behind == len(turned) {
			whole++
		} else {
			cut++
		}
		checksRecords(t, drawnText(r, r.Intn(20)))
	}
	if whole < 1000 || cut < 1000 {
		t.Errorf("%d were whole, %d were not", whole, cut)
	}
}

func TestKeptNew(t *testing.T) {
	for _, by := range []int{1, 2, 0, 3, -1, math.MaxInt, math.MinInt} {
		got := impl.KeptNew(by)
		if !likeKepts(got, keptOf(storeOf(by, 0, nil, nil), "", 0)) {
			t.Errorf("KeptNew(%d) = %#v", by, got)
		}
		checksKeptOk(t, got, by == 1 || by == 2)
	}
	checksKeptOk(t, impl.Kept{}, false)
}

func TestKeptOkSaved(t *testing.T) {
	for _, k := range append(lifeKepts(t), impl.KeptNew(1), impl.KeptNew(2)) {
		for _, saved := range []int{-1, 0, 1, 7, len(k.Journal) - 1, len(k.Journal), len(k.Journal) + 1, len(k.Journal) + 2, 20000, math.MaxInt, math.MinInt} {
			k.Saved = saved
			checksKeptOk(t, k, saved >= 0 && saved <= len(k.Journal))
		}
	}
	// Also within a record.
	k := lifeKept(t)
	for saved := range len(k.Journal) + 1 {
		k.Saved = saved
		checksKeptOk(t, k, true)
	}
}

func TestKeptOkOneByteTurned(t *testing.T) {
	k := lifeKept(t)
	journal := k.Journal
	for place := range journal {
		for b := range 256 {
			k.Journal = journal[:place] + string([]byte{byte(b)}) + journal[place+1:]
			if impl.KeptOk(k) != (byte(b) == journal[place]) {
				t.Fatalf("KeptOk with byte %d made %d: %v", place, b, impl.KeptOk(k))
			}
		}
	}
}

// TestKeptOkOfPiecesOfAJournal: a beginning, an end, a record less, two the other way round, one twice.
func TestKeptOkOfPiecesOfAJournal(t *testing.T) {
	k, ends := lifeKept(t), recordEnds(callTexts(lifeCalls())...)
	journal := k.Journal
	for size := range journal {
		checksKeptOk(t, keptOf(k.Store, journal[:size], 0), false)
		checksKeptOk(t, keptOf(k.Store, journal[size+1:], 0), false)
	}
	record := func(i int) string { return journal[ends[i]:ends[i+1]] }
	for i := range lifeCalls() {
		checksKeptOk(t, keptOf(k.Store, journal[:ends[i]]+journal[ends[i+1]:], 0), false)
		if i > 0 {
			twisted := keptOf(k.Store, journal[:ends[i-1]]+record(i)+record(i-1)+journal[ends[i+1]:], 0)
			checksKeptOk(t, twisted, keptOkByWords(twisted))
		}
	}
	checksKeptOk(t, keptOf(k.Store, record(1)+record(0)+journal[ends[2]:], 0), false)
	checksKeptOk(t, keptOf(k.Store, journal[:ends[3]]+record(4)+record(3)+journal[ends[5]:], 0), false)
}

func TestKeptOkOfOtherBytes(t *testing.T) {
	k := lifeKept(t)
	call := callOf(5, 5, 7, 3, "")
	bad := []string{"\x00", "a", "\xff", "junk", recordByWords(""), recordByWords("a"), recordByWords("\x00"), recordByWords(callByWords(call) + "\x00"), recordByWords(callByWords(call)[1:]), recordByWords(strings.Repeat("m", 6000)), recordByWords(recordByWords(callByWords(call))), callByWords(call), sealByWords(callByWords(call)), recordByWords(storeByWords(k.Store))}
	for _, longer := range longerForms(5) {
		bad = append(bad, sealByWords(longer+callByWords(call)))
	}
	for _, c := range wrongCalls() {
		bad = append(bad, journalByWords(c))
	}
	for _, more := range bad {
		for _, journal := range []string{k.Journal + more, more + k.Journal, k.Journal[:15] + more + k.Journal[15:]} {
			checksKeptOk(t, keptOf(k.Store, journal, 0), false)
		}
		checksKeptOk(t, keptOf(storeOf(1, 0, nil, nil), more, 0), false)
	}
}

// TestKeptOkOfAnotherStore: a journal of a join, so that all of a store may be turned, part by part.
func TestKeptOkOfAnotherStore(t *testing.T) {
	store := someStore(4, 3)
	theirs := copyStore(store)
	theirs.By = 2
	k := keptAfter(t, 1, joins(theirs))
	checksKeptOk(t, keptOf(store, k.Journal, 0), true)
	for _, other := range partsTurned(store) {
		checksKeptOk(t, keptOf(other, k.Journal, 0), false)
	}
	life := lifeKept(t)
	for _, other := range append(rightStores(), madeStores(t)...) {
		checksKeptOk(t, keptOf(other, life.Journal, 0), false)
		checksKeptOk(t, keptOf(other, "", 0), likeStores(other, storeOf(other.By, 0, nil, nil)))
	}
}

func TestKeptOkOfStoresThatAreNotRight(t *testing.T) {
	journal := lifeKept(t).Journal
	for _, s := range append(wrongStores(), impl.Store{}) {
		for _, journal := range []string{"", journal} {
			checksKeptOk(t, keptOf(s, journal, 0), false)
		}
	}
}

// TestKeptOkOfEmptyLists: an empty list is as good as none.
func TestKeptOkOfEmptyLists(t *testing.T) {
	checksKeptOk(t, keptOf(storeOf(2, 0, []impl.Box{}, []int{}), "", 0), true)
	k := keptAfter(t, 1, callOf(1, 5, 0, 0, "inbox"))
	k.Store.Boxes[0].Mails, k.Store.Boxes[0].Gone, k.Store.Gone = []impl.Mail{}, []int{}, []int{}
	checksKeptOk(t, k, true)
}

// TestKeptOkOfCallsThatCanNotBeDone: what they make counts, not how many were done; nor how long the journal is.
func TestKeptOkOfCallsThatCanNotBeDone(t *testing.T) {
	make5, drop9 := callOf(1, 5, 0, 0, "inbox"), callOf(3, 9, 0, 0, "")
	k := keptAfter(t, 1, make5)
	for _, calls := range [][]impl.Call{{make5, make5}, {drop9, make5}, {make5, callOf(5, 5, 7, 3, ""), drop9}, {make5, joins(impl.StoreNew(1))}} {
		checksKeptOk(t, keptOf(k.Store, journalByWords(calls...), 3), true)
	}
	checksKeptOk(t, keptOf(k.Store, journalByWords(drop9, drop9), 0), false)
	for _, count := range []int{1999, 2000, 2001, 3000} {
		long := strings.Repeat(journalByWords(drop9), count)
		checksKeptOk(t, keptOf(impl.StoreNew(2), long, len(long)), true)
	}
}

// TestDoKeptWritten: what is kept behind each call, with its bytes; the seals were worked out apart from the program.
func TestDoKeptWritten(t *testing.T) {
	k := impl.KeptNew(1)
	journal := ""
	for _, c := range []struct {
		call   impl.Call
		record string
	}{
		{callOf(1, 5, 0, 0, "inbox"), "\x0a\x01\x05\x00\x00\x05inbox\x7e\x11\xa4\xb2"},
		{callOf(4, 5, 7, 0, "hi"), "\x07\x04\x05\x07\x00\x02hi\x46\xe0\x9a\xe5"},
		{callOf(2, 5, 0, 0, "work"), "\x09\x02\x05\x00\x00\x04work\x7b\xcf\x02\x39"},
		{callOf(5, 5, 7, 3, ""), "\x05\x05\x05\x07\x03\x00\xac\x4a\x86\x3b"},
		{callOf(6, 5, 7, 0, ""), "\x05\x06\x05\x07\x00\x00\x14\x7a\x8c\xbc"},
		{callOf(3, 5, 0, 0, ""), "\x05\x03\x05\x00\x00\x00\x53\x3a\x65\xbc"},
	} {
		next, ok := impl.DoKept(k, c.call)
		journal += c.record
		if !ok || next.Journal != journal || next.Saved != 0 || !impl.KeptOk(next) {
			t.Fatalf("DoKept(%#v, %#v) = %#v, %v; want the journal %q", k, c.call, next, ok, journal)
		}
		k = next
	}
	if want := storeOf(1, 4, nil, []int{5}); !likeStores(k.Store, want) {
		t.Errorf("the store is %#v", k.Store)
	}
}

// checksDoKeptByChapters holds each field against what the functions of the chapters answer.
func checksDoKeptByChapters(t *testing.T, k impl.Kept, c impl.Call) bool {
	t.Helper()
	got, ok := checksDoKept(t, k, c)
	store, done := impl.DoCall(k.Store, c)
	text, right := impl.CallText(c)
	record, _ := impl.RecordText(text)
	if done && !right || ok != (done && len(k.Journal)+len(record) <= impl.MaxText) {
		t.Fatalf("DoKept(%#v, %#v): %v; done %v, right %v", k, c, ok, done, right)
	}
	if !ok {
		refusesKept(t, k, c)
		return false
	}
	if !likeStores(got.Store, store) || got.Journal != k.Journal+record || got.Saved != k.Saved {
		t.Fatalf("DoKept(%#v, %#v) = %#v", k, c, got)
	}
	return true
}

func TestDoKeptOfEachKind(t *testing.T) {
	done := map[int]int{}
	for _, k := range lifeKepts(t) {
		for _, c := range slices.Concat(callsOf(k.Store), lifeCalls(), oneOfEach()) {
			if checksDoKeptByChapters(t, k, c) {
				done[c.Kind]++
				got, _ := impl.DoKept(k, c)
				checksKeptOk(t, got, true)
			}
		}
	}
	for kind := 1; kind <= 7; kind++ {
		if done[kind] < 10 {
			t.Errorf("of kind %d %d were done", kind, done[kind])
		}
	}
}

// TestDoKeptLooksAtNoMore: whatever the journal is, and whatever is saved of it, both stay ahead of the new record.
func TestDoKeptLooksAtNoMore(t *testing.T) {
	journals := []string{"", "junk", "\x00", "\x01a\xf3\x87\xcb", recordByWords("a"), strings.Repeat("\xff", 4000), lifeKept(t).Journal}
	for i, s := range append(rightStores(), fullestStore()) {
		journal := journals[i%len(journals)]
		for j, c := range callsOf(s) {
			saved := []int{0, 1, -1, len(journal), len(journal) + 1, math.MaxInt, math.MinInt}[(i+j)%7]
			checksDoKeptByChapters(t, keptOf(s, journal, saved), c)
		}
	}
}

func TestDoKeptOfStoresThatAreNotRight(t *testing.T) {
	for _, s := range append(wrongStores(), impl.Store{}) {
		for _, c := range oneOfEach() {
			refusesKept(t, keptOf(s, "", 0), c)
			refusesKept(t, keptOf(s, lifeKept(t).Journal, 5), c)
		}
	}
}

func TestDoKeptOfCallsThatAreNotRight(t *testing.T) {
	k := lifeKept(t)
	k.Saved = 20
	for _, c := range wrongCalls() {
		refusesKept(t, k, c)
		refusesKept(t, impl.KeptNew(2), c)
	}
}

func TestDoKeptOfWhatCanNotBeDone(t *testing.T) {
	k := lifeKept(t)
	k.Saved = 20
	for _, c := range []impl.Call{
		callOf(1, 5, 0, 0, "new"), callOf(1, 9, 0, 0, "work"), callOf(1, 6, 0, 0, "new"), callOf(2, 9, 0, 0, "new"), callOf(2, 5, 0, 0, "work"), callOf(3, 9, 0, 0, ""), callOf(3, 6, 0, 0, ""),
		callOf(4, 9, 99, 0, "hi"), callOf(4, 5, 7, 0, "hi"), callOf(4, 5, 128, 0, "hi"), callOf(5, 5, 128, 3, ""), callOf(5, 4, 7, 3, ""), callOf(6, 5, 128, 0, ""), callOf(6, 9, 7, 0, ""),
		joins(impl.StoreNew(1)), joins(k.Store), joins(fullestStore()),
	} {
		if !impl.CallOk(c) {
			t.Fatalf("CallOk(%#v) = false", c)
		}
		refusesKept(t, k, c)
	}
}

// TestDoKeptJournalLimits: a journal that becomes just MaxText long, and one that would be one longer, with a record of each kind.
func TestDoKeptJournalLimits(t *testing.T) {
	store := lifeKept(t).Store
	for _, c := range []impl.Call{callOf(1, 50, 0, 0, "new"), callOf(2, 5, 0, 0, "new"), callOf(3, 5, 0, 0, ""), callOf(4, 5, 99, 1, strings.Repeat("m", 60)), callOf(5, 5, 7, 0, ""), callOf(6, 5, 7, 0, ""), joins(someStore(2, 3)), joins(smallStore())} {
		by := store
		if c.Kind == 7 {
			by = impl.StoreNew(2)
			if other, _ := readStoreByWords(c.Text); other.By == 2 {
				by.By = 1
			}
		}
		room := 20000 - len(journalByWords(c))
		for _, size := range []int{0, 1, room - 2, room - 1, room, room + 1, room + 2, 19999, 20000, 20001, 20002, 40000, 1 << 20} {
			k := keptOf(by, strings.Repeat("j", size), 7)
			got, ok := checksDoKept(t, k, c)
			if ok != (size <= room) || ok && len(got.Journal) != size+20000-room {
				t.Fatalf("%#v behind %d bytes: %v, and %d bytes", c, size, ok, len(got.Journal))
			}
			if !ok {
				refusesKept(t, k, c)
			}
		}
	}
}

// fullKept is of a life whose journal is just MaxText long: no call fits any more.
func fullKept(t *testing.T) impl.Kept {
	t.Helper()
	k := impl.KeptNew(1)
	calls := []impl.Call{callOf(1, 5, 0, 0, "a"), callOf(4, 5, 7, 0, "nine byte")}
	for n := range 1997 {
		calls = append(calls, callOf(5, 5, 7, n%8, ""))
	}
	for _, c := range calls {
		next, ok := impl.DoKept(k, c)
		if !ok {
			t.Fatalf("%#v is refused behind %d bytes", c, len(k.Journal))
		}
		k = next
	}
	return k
}

func TestFullJournal(t *testing.T) {
	k := fullKept(t)
	if len(k.Journal) != impl.MaxText || k.Store.Time != 1999 {
		t.Fatalf("the journal has %d bytes, the store %d as Time", len(k.Journal), k.Store.Time)
	}
	checksKeptOk(t, k, true)
	for _, c := range []impl.Call{callOf(5, 5, 7, 1, ""), callOf(6, 5, 7, 0, ""), callOf(3, 5, 0, 0, ""), callOf(1, 6, 0, 0, "b"), joins(impl.StoreNew(2))} {
		if _, ok := impl.DoCall(k.Store, c); !ok {
			t.Fatalf("%#v can't be done", c)
		}
		refusesKept(t, k, c)
		refusesKept(t, impl.SaveKept(k), c)
	}
	if got := impl.FallKept(impl.SaveKept(k), 0); !likeKepts(got, keptOf(k.Store, k.Journal, impl.MaxText)) {
		t.Errorf("the whole of it did not stay")
	}
	// A record that falls off makes room for one of its length.
	fallen := checksFall(t, k, impl.MaxText-1)
	if len(fallen.Journal) != impl.MaxText-10 {
		t.Fatalf("%d bytes are left", len(fallen.Journal))
	}
	refusesKept(t, fallen, callOf(1, 6, 0, 0, "b"))
	if again := doesKept(t, fallen, callOf(5, 5, 7, 1, "")); len(again.Journal) != impl.MaxText || again.Saved != impl.MaxText-10 {
		t.Errorf("%d bytes, %d saved", len(again.Journal), again.Saved)
	}
}

// TestLongestCallIsWrittenDown: a call of the longest text has a record.
func TestLongestCallIsWrittenDown(t *testing.T) {
	k := doesKept(t, impl.KeptNew(1), joins(fullestStore()))
	if len(k.Journal) != 4565+6+2+4 {
		t.Errorf("the journal has %d bytes", len(k.Journal))
	}
	checksKeptOk(t, k, true)
	checksFall(t, k, len(k.Journal))
	checksFall(t, k, len(k.Journal)-1)
}

func TestSaveKept(t *testing.T) {
	list := append(lifeKepts(t), impl.KeptNew(1), impl.Kept{})
	for i, s := range append(rightStores(), wrongStores()...) {
		list = append(list, keptOf(s, strings.Repeat("j", []int{0, 1, 100, 20000, 20001}[i%5]), []int{-1, 0, 50, math.MaxInt, math.MinInt}[i/5%5]))
	}
	for _, k := range list {
		want := copyKept(k)
		want.Saved = len(k.Journal)
		got := impl.SaveKept(k)
		if !likeKepts(got, want) || !likeKepts(impl.SaveKept(got), want) {
			t.Fatalf("SaveKept(%#v) = %#v", k, got)
		}
	}
}

// cutsAround: around each of the places, and far past both ends.
func cutsAround(size int, places ...int) []int {
	list := []int{math.MinInt, -20000, -2, -1, 0, 1, 2, size - 1, size, size + 1, 2 * size, 20000, math.MaxInt - size, math.MaxInt - 1, math.MaxInt}
	for _, place := range places {
		list = append(list, place-1, place, place+1)
	}
	return list
}

// checksWhatIsLeft: all that is promised of a fall of what is right, told apart from the words of FallKept.
func checksWhatIsLeft(t *testing.T, k, left impl.Kept) {
	t.Helper()
	texts, behind := impl.ReadRecords(left.Journal)
	if !strings.HasPrefix(k.Journal, left.Journal) || behind != len(left.Journal) || left.Saved != len(left.Journal) {
		t.Fatalf("of %#v is left %#v", k, left)
	}
	var calls []impl.Call
	for _, text := range texts {
		c, ok := impl.ReadCall(text)
		if !ok {
			t.Fatalf("%q is no call", text)
		}
		calls = append(calls, c)
	}
	made, n := impl.DoAll(impl.StoreNew(k.Store.By), calls)
	if n != len(calls) || !likeStores(left.Store, made) || !impl.KeptOk(left) {
		t.Fatalf("what is left of %#v makes %#v, and %d of its calls are done, not %#v", k, made, n, left)
	}
}

// TestFallEverywhere: whatever was saved, and wherever it is cut, whole records alone stay, and none that was saved is lost.
func TestFallEverywhere(t *testing.T) {
	k, ends := lifeKept(t), recordEnds(callTexts(lifeCalls())...)
	var stores []impl.Store
	for n := range ends {
		stores = append(stores, keptAfter(t, 1, lifeCalls()[:n]...).Store)
	}
	size := len(k.Journal)
	for saved := range size + 1 {
		k.Saved = saved
		for cut := -1; cut <= size-saved+1; cut++ {
			n := wholeAhead(ends, min(size, saved+max(0, cut)))
			got := impl.FallKept(k, cut)
			if !likeKepts(got, keptOf(stores[n], k.Journal[:ends[n]], ends[n])) {
				t.Fatalf("with %d saved, cut at %d: %#v", saved, cut, got)
			}
			if n < wholeAhead(ends, saved) {
				t.Fatalf("with %d saved, cut at %d: a record that was saved is lost", saved, cut)
			}
		}
	}
}

func TestFallIsByTheWords(t *testing.T) {
	k, ends := lifeKept(t), recordEnds(callTexts(lifeCalls())...)
	for _, saved := range cutsAround(len(k.Journal), ends...) {
		k.Saved = saved
		for _, cut := range cutsAround(len(k.Journal), ends...) {
			checksWhatIsLeft(t, k, checksFall(t, k, cut))
		}
	}
}

// TestFallOfOtherSaved: what is out of place counts as nothing saved.
func TestFallOfOtherSaved(t *testing.T) {
	k := lifeKept(t)
	whole := keptOf(k.Store, k.Journal, len(k.Journal))
	none := keptOf(impl.StoreNew(1), "", 0)
	for _, saved := range []int{-1, -2, len(k.Journal) + 1, len(k.Journal) + 2, 20000, math.MaxInt, math.MinInt} {
		k.Saved = saved
		for _, cut := range []int{math.MinInt, -1, 0, 1, 14} {
			if got := checksFall(t, k, cut); !likeKepts(got, none) {
				t.Errorf("with %d saved, cut at %d: %#v", saved, cut, got)
			}
		}
		for _, cut := range []int{len(k.Journal), len(k.Journal) + 1, math.MaxInt} {
			if got := checksFall(t, k, cut); !likeKepts(got, whole) {
				t.Errorf("with %d saved, cut at %d: %#v", saved, cut, got)
			}
		}
		if got := checksFall(t, k, 15); got.Saved != 15 || len(got.Store.Boxes) != 1 {
			t.Errorf("with %d saved, cut at 15: %#v", saved, got)
		}
	}
}

// TestFallTwice: what is left does not fall any more.
func TestFallTwice(t *testing.T) {
	for _, k := range lifeKepts(t) {
		for cut := range len(k.Journal) + 2 {
			left := impl.FallKept(k, cut)
			for _, again := range []int{math.MinInt, -1, 0, 1, cut, math.MaxInt} {
				if got := impl.FallKept(left, again); !likeKepts(got, left) {
					t.Fatalf("%#v became %#v", left, got)
				}
			}
		}
	}
}

// TestFallMakesItsStoreAnew: the store that falls has no say but for its By.
func TestFallMakesItsStoreAnew(t *testing.T) {
	k := lifeKept(t)
	for _, s := range slices.Concat(rightStores(), wrongStores(), madeStores(t), []impl.Store{{}}) {
		got := checksFall(t, keptOf(s, k.Journal, len(k.Journal)), 0)
		if got.Journal != k.Journal || got.Store.By != s.By || s.By == 1 && !likeStores(got.Store, k.Store) {
			t.Fatalf("of %#v: %#v", s, got)
		}
		if got := checksFall(t, keptOf(s, "", 0), 5); !likeKepts(got, keptOf(storeOf(s.By, 0, nil, nil), "", 0)) {
			t.Fatalf("of %#v, with no journal: %#v", s, got)
		}
	}
	// As server 2 the join, which is of its own By, is not done.
	got := checksFall(t, keptOf(impl.StoreNew(2), k.Journal, len(k.Journal)), 0)
	if got.Store.By != 2 || len(got.Store.Boxes) != 1 || got.Store.Boxes[0].Named != stampOf(4, 2) {
		t.Errorf("%#v", got)
	}
}

func TestFallOneByteTurned(t *testing.T) {
	k, ends := lifeKept(t), recordEnds(callTexts(lifeCalls())...)
	journal := k.Journal
	for place := range journal {
		n := wholeAhead(ends, place)
		for _, turn := range []byte{1, 2, 128, 255} {
			bytes := []byte(journal)
			bytes[place] ^= turn
			for _, saved := range []int{0, place, len(journal)} {
				got := checksFall(t, keptOf(k.Store, string(bytes), saved), len(journal))
				if got.Journal != journal[:ends[n]] || !impl.KeptOk(got) {
					t.Fatalf("with byte %d turned: %#v", place, got)
				}
			}
		}
	}
}

// TestFallOfJournalsThatAreNotRight: what is no record ends it; a record that is no call's stays, and does nothing; so does a call that can not be done.
func TestFallOfJournalsThatAreNotRight(t *testing.T) {
	first, second := callOf(1, 5, 0, 0, "inbox"), callOf(4, 5, 7, 0, "hi")
	one, both := keptAfter(t, 1, first), keptAfter(t, 1, first, second)
	records := []string{recordByWords("a"), recordByWords(strings.Repeat("m", 6000)), journalByWords(callOf(8, 1, 1, 0, "")), journalByWords(impl.Call{}), journalByWords(first), journalByWords(callOf(3, 9, 0, 0, "")), recordByWords(callByWords(second) + "\x00")}
	for _, record := range records {
		journal := journalByWords(first) + record + journalByWords(second)
		if got := checksFall(t, keptOf(one.Store, journal, 3), math.MaxInt); !likeKepts(got, keptOf(both.Store, journal, len(journal))) {
			t.Fatalf("of %q is left %#v", journal, got)
		}
	}
	for _, junk := range []string{"\x00", "junk", recordByWords(""), recordByWords(strings.Repeat("m", 6001)), sealByWords("\x81\x00a"), strings.Repeat("\xff", 30000)} {
		journal := journalByWords(first) + junk + journalByWords(second)
		if got := checksFall(t, keptOf(both.Store, journal, len(journal)), 0); !likeKepts(got, keptOf(one.Store, one.Journal, len(one.Journal))) {
			t.Fatalf("of %q is left %#v", journal, got)
		}
	}
}

// drawnKept is right about every second time.
func drawnKept(r *rand.Rand) impl.Kept {
	k := keptOf(storeOf(1+r.Intn(2), 0, nil, nil), "", 0)
	other := impl.StoreNew(3 - k.Store.By)
	for range r.Intn(8) {
		c := drawnCallOf(r, k.Store, other)
		if next, ok := doKeptByWords(k, c); ok {
			k = next
		} else if r.Intn(20) == 0 {
			k.Journal += journalByWords(c)
		}
	}
	k.Saved = r.Intn(len(k.Journal) + 1)
	switch r.Intn(8) {
	case 0:
		k.Journal = drawnBytes(r, k.Journal)
	case 1:
		k.Store = drawnStore(r)
	case 2:
		k.Saved = []int{-1, len(k.Journal) + 1, math.MinInt, math.MaxInt}[r.Intn(4)]
	case 3:
		k.Journal = k.Journal[:r.Intn(len(k.Journal)+1)]
	}
	return k
}

func TestDrawnKepts(t *testing.T) {
	r := rand.New(rand.NewSource(122))
	right, wrong := 0, 0
	for range 6000 {
		k := drawnKept(r)
		ok := keptOkByWords(k)
		checksKeptOk(t, k, ok)
		checksRecords(t, k.Journal)
		for range 3 {
			left := checksFall(t, k, r.Intn(len(k.Journal)+3)-1)
			if ok {
				checksKeptOk(t, left, true)
			}
		}
		checksDoKeptByChapters(t, k, drawnCallOf(r, k.Store, impl.StoreNew(3-k.Store.By)))
		if saved := impl.SaveKept(k); !likeKepts(saved, keptOf(k.Store, k.Journal, len(k.Journal))) {
			t.Fatalf("SaveKept(%#v) = %#v", k, saved)
		}
		if ok {
			right++
		} else {
			wrong++
		}
	}
	if right < 1000 || wrong < 1000 {
		t.Errorf("%d were right, %d were not", right, wrong)
	}
}

// TestLivesWrittenDown: two servers write down what they do, save it now and then, and fall; each comes back to what it had saved, at least.
func TestLivesWrittenDown(t *testing.T) {
	r := rand.New(rand.NewSource(123))
	falls, lost, joined := 0, 0, 0
	for range 40 {
		kepts := [2]impl.Kept{impl.KeptNew(1), impl.KeptNew(2)}
		for range 120 {
			i := r.Intn(2)
			k := kepts[i]
			switch r.Intn(8) {
			case 0:
				kepts[i] = impl.SaveKept(k)
			case 1:
				left := checksFall(t, k, r.Intn(60)-5)
				if len(left.Journal) < k.Saved || !strings.HasPrefix(k.Journal, left.Journal) {
					t.Fatalf("%d bytes were saved of %q, %q is left", k.Saved, k.Journal, left.Journal)
				}
				falls++
				if left.Journal != k.Journal {
					lost++
				}
				kepts[i] = left
			default:
				c := drawnCallOf(r, k.Store, kepts[1-i].Store)
				next, ok := checksDoKept(t, k, c)
				if ok && c.Kind == 7 {
					joined++
				}
				kepts[i] = next
			}
			checksKeptOk(t, kepts[i], true)
		}
	}
	if falls < 400 || lost < 100 || joined < 100 {
		t.Errorf("%d falls, %d with a loss, %d joins", falls, lost, joined)
	}
}

func roomyKept(k impl.Kept) impl.Kept {
	return keptOf(roomyStore(k.Store), strings.Clone(k.Journal), k.Saved)
}

// memoryKepts are right, and not; each journal makes a store of its own.
func memoryKepts(t *testing.T) []impl.Kept {
	t.Helper()
	list := append(lifeKepts(t), impl.KeptNew(1), keptAfter(t, 1, joins(fullestStore())), keptAfter(t, 1, joins(smallStore()), callOf(1, 77, 0, 0, "own")))
	life := lifeKept(t).Journal
	for i, s := range slices.Concat(memoryStores(), madeStores(t)) {
		list = append(list, keptOf(s, []string{"", "junk", life, life[:40], strings.Repeat("j", 20000)}[i%5], []int{0, 2, -1, 40, 20001}[i/5%5]))
	}
	return list
}

// keptAnswers are of one and of what is done with it: done or refused, saved, fallen a little and far.
func keptAnswers(k impl.Kept, calls []impl.Call) []impl.Kept {
	list := []impl.Kept{impl.SaveKept(k), impl.FallKept(k, 0), impl.FallKept(k, 20), impl.FallKept(k, math.MaxInt)}
	for _, c := range calls {
		done, _ := impl.DoKept(k, c)
		list = append(list, done)
	}
	return list
}

func someCallsOf(s impl.Store) []impl.Call {
	calls := callsOf(s)
	return append(calls[:min(8, len(calls))], calls[len(calls)-6:]...)
}

func TestKeptsLeaveTheirArguments(t *testing.T) {
	for _, given := range memoryKepts(t) {
		k := roomyKept(given)
		whole := wholeStore(k.Store)
		impl.KeptOk(k)
		keptAnswers(k, callsOf(given.Store))
		if !likeStores(wholeStore(k.Store), whole) || k.Journal != given.Journal || k.Saved != given.Saved {
			t.Fatalf("%#v was written into, or behind its end", given)
		}
	}
}

// TestKeptsNewMemory: what is answered stays as it is when the argument is changed behind the call, and the other way round; of what is refused, too.
func TestKeptsNewMemory(t *testing.T) {
	for _, given := range memoryKepts(t) {
		calls := someCallsOf(given.Store)
		k := roomyKept(given)
		answers := keptAnswers(k, calls)
		var kept []impl.Kept
		for _, answer := range answers {
			kept = append(kept, copyKept(answer))
		}
		spoilStore(k.Store)
		k = roomyKept(given)
		whole := wholeStore(k.Store)
		again := keptAnswers(k, calls)
		for i, answer := range answers {
			if !likeKepts(answer, kept[i]) {
				t.Fatalf("answer %d of %#v became %#v when the argument was changed", i, given, answer)
			}
			spoilStore(answer.Store)
		}
		for i, answer := range again {
			if !likeKepts(answer, kept[i]) {
				t.Fatalf("answer %d of %#v changed with another one", i, given)
			}
			spoilStore(answer.Store)
		}
		if !likeStores(wholeStore(k.Store), whole) || k.Journal != given.Journal {
			t.Fatalf("%#v changed with its answers", given)
		}
	}
}

func TestKeptsShareNoTexts(t *testing.T) {
	for _, given := range memoryKepts(t) {
		k := roomyKept(given)
		var calls []impl.Call
		theirs := append(textsOfStore(k.Store), k.Journal)
		for _, c := range someCallsOf(given.Store) {
			c = roomyCall(c)
			calls, theirs = append(calls, c), append(theirs, c.Text)
		}
		for i, answer := range keptAnswers(k, calls) {
			own := textsOfStore(answer.Store)
			for _, text := range append(own, answer.Journal) {
				if slices.ContainsFunc(theirs, func(other string) bool { return sharesMemory(text, other) }) {
					t.Fatalf("answer %d of %#v shares the text %q", i, given, text)
				}
			}
			if slices.ContainsFunc(own, func(text string) bool { return sharesMemory(text, answer.Journal) }) {
				t.Fatalf("answer %d of %#v: the store has a piece of the journal", i, given)
			}
		}
	}
}

// TestListsOfOneKeptApart: no list of an answer lies within another one, also where the argument's lists do.
func TestListsOfOneKeptApart(t *testing.T) {
	numbers, flags := []int{8001, 8002}, flagsOf(3, stampOf(4, 1))
	for _, size := range []int{2, 5, 6} {
		given := keptOf(someStore(size, 0), lifeKept(t).Journal, 15)
		given.Store.Gone = numbers
		for i := range given.Store.Boxes {
			given.Store.Boxes[i].Gone = numbers
		}
		for _, m := range mailsIn(&given.Store) {
			m.Flags = flags
		}
		for _, answer := range keptAnswers(given, callsOf(given.Store)) {
			apartFromEachOther(t, answer.Store)
		}
	}
	for _, answer := range keptAnswers(lifeKept(t), callsOf(lifeKept(t).Store)) {
		apartFromEachOther(t, answer.Store)
	}
}

func TestRecordsNewMemory(t *testing.T) {
	for _, text := range append(sizedTexts(), callTexts(lifeCalls())...) {
		text = strings.Clone(text)
		first, _ := impl.RecordText(text)
		second, _ := impl.RecordText(text)
		if sharesMemory(first, text) || sharesMemory(first, second) {
			t.Fatalf("RecordText(%q) keeps something of it", text)
		}
	}
	journal := lifeKept(t).Journal
	texts, _ := impl.ReadRecords(journal)
	others, _ := impl.ReadRecords(journal)
	for i, text := range texts {
		if sharesMemory(text, journal) || sharesMemory(text, others[i]) || i > 0 && sharesMemory(text, texts[i-1]) {
			t.Fatalf("the record %q keeps something of its journal", text)
		}
	}
	for i := range texts {
		texts[i] = "spoilt"
	}
	if slices.Contains(others, "spoilt") {
		t.Error("two answers share a list")
	}
}

// TestKeptsAreValues: a copy goes on by itself.
func TestKeptsAreValues(t *testing.T) {
	k := lifeKept(t)
	other := k
	here := doesKept(t, k, callOf(4, 5, 60, 0, "here"))
	there := doesKept(t, other, callOf(4, 5, 61, 0, "there"))
	if !likeKepts(k, lifeKept(t)) || !likeKepts(other, k) || here.Journal == there.Journal || !impl.KeptOk(here) || !impl.KeptOk(there) {
		t.Errorf("%#v and %#v", here, there)
	}
	if again := doesKept(t, k, callOf(4, 5, 61, 0, "there")); !likeKepts(again, there) {
		t.Errorf("%#v and %#v", again, there)
	}
}

// TestJournalsAgain: nothing is kept from call to call, also when many are under way.
func TestJournalsAgain(t *testing.T) {
	k := lifeKept(t)
	k.Saved = 27
	call, refused := callOf(4, 5, 60, 0, "more"), callOf(3, 9, 0, 0, "")
	want, _ := doKeptByWords(k, call)
	var falls []impl.Kept
	for cut := range len(k.Journal) {
		falls = append(falls, fallByWords(k, cut))
	}
	texts := callTexts(lifeCalls())
	var group sync.WaitGroup
	for worker := range 8 {
		group.Go(func() {
			for i := range 100 {
				if got, ok := impl.DoKept(k, call); !ok || !likeKepts(got, want) {
					t.Errorf("DoKept = %#v, %v", got, ok)
				}
				if got, ok := impl.DoKept(k, refused); ok || !likeKepts(got, k) {
					t.Errorf("DoKept = %#v, %v", got, ok)
				}
				cut := (13*i + worker) % len(falls)
				if got := impl.FallKept(k, cut); !likeKepts(got, falls[cut]) {
					t.Errorf("FallKept at %d = %#v", cut, got)
				}
				if got, behind := impl.ReadRecords(k.Journal); behind != len(k.Journal) || !slices.Equal(got, texts) {
					t.Errorf("ReadRecords = %q, %d", got, behind)
				}
				if !impl.KeptOk(k) || impl.SaveKept(k).Saved != len(k.Journal) {
					t.Error("it is not as it was")
				}
			}
		})
	}
	group.Wait()
}
