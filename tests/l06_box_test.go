package tests

import (
	"math"
	"math/rand"
	"slices"
	"strings"
	"testing"

	"loop.example/g00324/impl"
)

func boxOf(next int, mails []impl.Mail, gone []int) impl.Box {
	return impl.Box{Gid: 5, Name: "inbox", Named: stampOf(3, 1), Next: next, Mails: mails, Gone: gone}
}

// someMail has a text and stamps of its own, so that one that took another's would be seen.
func someMail(gid, uid int) impl.Mail {
	stamps := []impl.Stamp{stampOf(20+uid%50, 1), stampOf(21+uid%50, 0), stampOf(20+uid%50, 2)}
	return mailOf(gid, uid, flagsWithStamps(uid%8, stamps), strings.Repeat("m", uid%60))
}

// someBox has Gids that are in no order, and Uids with gaps.
func someBox(mails, gone int) impl.Box {
	b := boxOf(1, nil, nil)
	for i := range mails {
		b.Mails = append(b.Mails, someMail(101+(i*7)%53, b.Next))
		b.Next += 1 + i%3
	}
	for i := range gone {
		gid := 2 + 3*i
		if gid > 100 {
			gid += 1000
		}
		b.Gone = append(b.Gone, gid)
	}
	return b
}

func numbersFrom(first, count int) []int {
	var list []int
	for i := range count {
		list = append(list, first+i)
	}
	return list
}

func likeBoxes(a, b impl.Box) bool {
	if a.Gid != b.Gid || a.Name != b.Name || a.Named != b.Named || a.Next != b.Next || len(a.Mails) != len(b.Mails) || len(a.Gone) != len(b.Gone) {
		return false
	}
	for i := range a.Mails {
		if !likeMails(a.Mails[i], b.Mails[i]) {
			return false
		}
	}
	for i := range a.Gone {
		if a.Gone[i] != b.Gone[i] {
			return false
		}
	}
	return true
}

func copyBox(b impl.Box) impl.Box {
	mails := b.Mails
	b.Name, b.Mails, b.Gone = strings.Clone(b.Name), nil, slices.Clone(b.Gone)
	for _, m := range mails {
		b.Mails = append(b.Mails, copyMail(m))
	}
	return b
}

func nameByWords(s string) bool {
	return len(s) >= 1 && len(s) <= 12 && strings.Trim(s, "abcdefghijklmnopqrstuvwxyz0123456789") == ""
}

func mailOkByWords(m impl.Mail) bool {
	if m.Gid < 1 || m.Gid > 9999 || m.Uid < 1 || m.Uid > 9999 || len(m.Flags) != 3 || len(m.Text) > 60 {
		return false
	}
	for _, r := range m.Flags {
		if r.Val < 0 || r.Val > 1 || !stampByWords(r.Stamp) {
			return false
		}
	}
	return true
}

func stampByWords(s impl.Stamp) bool {
	return s.Time >= 0 && s.Time <= 100000 && s.By >= 0 && s.By <= 2
}

// boxOkByWords holds each with each, and asks for nothing of the program.
func boxOkByWords(b impl.Box) bool {
	if b.Gid < 1 || b.Gid > 9999 || !nameByWords(b.Name) || !stampByWords(b.Named) || b.Next < 1 || b.Next > 10000 || len(b.Mails) > 10 || len(b.Gone) > 40 {
		return false
	}
	for i, m := range b.Mails {
		if !mailOkByWords(m) || m.Uid >= b.Next {
			return false
		}
		for _, other := range b.Mails[:i] {
			if other.Uid >= m.Uid || other.Gid == m.Gid {
				return false
			}
		}
		for _, gid := range b.Gone {
			if gid == m.Gid {
				return false
			}
		}
	}
	for i, gid := range b.Gone {
		if gid < 1 || gid > 9999 {
			return false
		}
		for _, other := range b.Gone[:i] {
			if other >= gid {
				return false
			}
		}
	}
	return true
}

func placeByWords(b impl.Box, gid int) int {
	for i, m := range b.Mails {
		if m.Gid == gid {
			return i
		}
	}
	return -1
}

func addByWords(b impl.Box, gid, flags int, text string, s impl.Stamp) (impl.Box, bool) {
	if !boxOkByWords(b) || placeByWords(b, gid) >= 0 || flags < 0 || flags > 7 {
		return b, false
	}
	out := copyBox(b)
	out.Mails = append(out.Mails, mailOf(gid, b.Next, flagsOf(flags, s), text))
	out.Next++
	if !boxOkByWords(out) {
		return b, false
	}
	return out, true
}

func flagByWords(b impl.Box, gid, n int, s impl.Stamp) (impl.Box, bool) {
	at := placeByWords(b, gid)
	if !boxOkByWords(b) || at < 0 || n < 0 || n > 7 || !stampByWords(s) {
		return b, false
	}
	out := copyBox(b)
	for i, bit := range bitsOf(n) {
		r := &out.Mails[at].Flags[i]
		if r.Val != bit && stampOrder(s, r.Stamp) > 0 {
			*r = impl.Reg{Val: bit, Stamp: s}
		}
	}
	return out, true
}

func takeByWords(b impl.Box, gid int) (impl.Box, bool) {
	at := placeByWords(b, gid)
	if !boxOkByWords(b) || at < 0 || len(b.Gone) >= 40 {
		return b, false
	}
	out := copyBox(b)
	out.Mails = slices.Delete(out.Mails, at, at+1)
	out.Gone = append(out.Gone, gid)
	slices.Sort(out.Gone)
	return out, true
}

// boxCall is one of the three that answer a box; the program's, and what the document's words make of it.
type boxCall struct {
	name  string
	gid   int
	n     int
	text  string
	stamp impl.Stamp
}

func (c boxCall) done(b impl.Box) (impl.Box, bool) {
	switch c.name {
	case "AddMail":
		return impl.AddMail(b, c.gid, c.n, c.text, c.stamp)
	case "FlagMail":
		return impl.FlagMail(b, c.gid, c.n, c.stamp)
	}
	return impl.TakeOut(b, c.gid)
}

func (c boxCall) byWords(b impl.Box) (impl.Box, bool) {
	switch c.name {
	case "AddMail":
		return addByWords(b, c.gid, c.n, c.text, c.stamp)
	case "FlagMail":
		return flagByWords(b, c.gid, c.n, c.stamp)
	}
	return takeByWords(b, c.gid)
}

func threeCalls(gid, n int, text string, s impl.Stamp) []boxCall {
	return []boxCall{{"AddMail", gid, n, text, s}, {"FlagMail", gid, n, text, s}, {"TakeOut", gid, n, text, s}}
}

func checksCall(t *testing.T, b impl.Box, c boxCall) (impl.Box, bool) {
	t.Helper()
	got, ok := c.done(b)
	want, wantOk := c.byWords(b)
	if ok != wantOk || !likeBoxes(got, want) {
		t.Fatalf("%#v of %#v = %#v, %#v; want %#v, %#v", c, b, got, ok, want, wantOk)
	}
	return got, ok
}

func refusesCall(t *testing.T, b impl.Box, c boxCall) {
	t.Helper()
	kept := copyBox(b)
	if got, ok := c.done(b); ok || !likeBoxes(got, kept) {
		t.Fatalf("%#v of %#v = %#v, %#v", c, b, got, ok)
	}
}

// withField has one thing another way.
func withField(b impl.Box, change func(b *impl.Box)) impl.Box {
	out := copyBox(b)
	change(&out)
	return out
}

func rightNames() []string {
	return []string{"a", "z", "0", "9", "inbox", "7", "a1", "1a", "abcdefghijkl", "mnopqrstuvwx", "yz0123456789", "000000000000", "zzzzzzzzzzzz"}
}

func wrongNames() []string {
	return []string{"", "abcdefghijklm", "0000000000000", strings.Repeat("a", 24), strings.Repeat("a", 1000), "A", "Inbox", "inboX", "in box", " inbox", "inbox ", " ", "\x00", "inbox\x00", "in\xc3\xa9", "\xe1", "\xff", "in-box", "in.box", "in/box", "in_box", "inbox\n", "`", "{", "/", ":", "@", "[", "\u0661"}
}

// rightBoxes: each thing of a box with all that it may be, and boxes of every size.
func rightBoxes() []impl.Box {
	var list []impl.Box
	for mails := range impl.MaxMails + 1 {
		for _, gone := range []int{0, 1, 2, 39, 40} {
			list = append(list, someBox(mails, gone))
		}
	}
	b := someBox(3, 2)
	for _, gid := range []int{1, 2, 128, 9998, 9999, b.Mails[0].Gid, b.Gone[0]} {
		list = append(list, withField(b, func(b *impl.Box) { b.Gid = gid }))
	}
	for _, name := range rightNames() {
		list = append(list, withField(b, func(b *impl.Box) { b.Name = name }))
	}
	for _, s := range []impl.Stamp{{}, stampOf(0, 2), stampOf(impl.MaxTime, 0), stampOf(impl.MaxTime, 2)} {
		list = append(list, withField(b, func(b *impl.Box) { b.Named = s }))
	}
	for _, next := range []int{b.Next + 1, b.Next + 100, 9998, 9999, 10000} {
		list = append(list, withField(b, func(b *impl.Box) { b.Next = next }))
	}
	list = append(list, boxOf(1, nil, nil), boxOf(9999, nil, nil), boxOf(10000, nil, nil), boxOf(1, []impl.Mail{}, []int{}),
		boxOf(2, []impl.Mail{someMail(9, 1)}, nil), boxOf(10000, []impl.Mail{someMail(1, 9999)}, []int{9999}), boxOf(10000, []impl.Mail{someMail(9999, 9998), someMail(1, 9999)}, nil),
		boxOf(1, nil, []int{1}), boxOf(1, nil, []int{9999}), boxOf(1, nil, []int{1, 2, 9998, 9999}), boxOf(1, nil, numbersFrom(1, 40)), boxOf(1, nil, numbersFrom(9960, 40)),
		boxOf(11, mailsFrom(1, 10), numbersFrom(100, 40)), boxOf(9999, mailsFrom(9989, 10), numbersFrom(1, 40)), boxOf(10000, mailsFrom(9990, 10), numbersFrom(1, 40)))
	for i, m := range rightMails() {
		if i%5 == 0 {
			list = append(list, boxOf(m.Uid+1, []impl.Mail{m}, nil))
		}
	}
	return list
}

// mailsFrom: in a row, with Gids that go down.
func mailsFrom(uid, count int) []impl.Mail {
	var list []impl.Mail
	for i := range count {
		list = append(list, someMail(900-i, uid+i))
	}
	return list
}

// wrongBoxes: each is no box for one cause alone.
func wrongBoxes() []impl.Box {
	b := someBox(4, 3)
	var list []impl.Box
	add := func(change func(b *impl.Box)) { list = append(list, withField(b, change)) }
	for _, gid := range wrongIds() {
		add(func(b *impl.Box) { b.Gid = gid })
	}
	for _, name := range wrongNames() {
		add(func(b *impl.Box) { b.Name = name })
	}
	for _, s := range wrongStamps() {
		add(func(b *impl.Box) { b.Named = s })
	}
	for _, next := range []int{b.Mails[3].Uid, b.Mails[3].Uid - 1, b.Mails[0].Uid, 1, 0, -1, 10001, 10002, math.MaxInt, math.MinInt} {
		add(func(b *impl.Box) { b.Next = next })
	}
	for place := range b.Mails {
		for i, m := range wrongMails() {
			if i%3 == place%3 {
				add(func(b *impl.Box) { b.Mails[place] = m })
			}
		}
		add(func(b *impl.Box) { b.Gone = slices.Sorted(slices.Values(append(b.Gone, b.Mails[place].Gid))) })
	}
	add(func(b *impl.Box) { b.Mails[1].Uid = b.Mails[0].Uid })
	add(func(b *impl.Box) { b.Mails[3].Uid = b.Mails[2].Uid })
	add(func(b *impl.Box) { b.Mails[2], b.Mails[3] = b.Mails[3], b.Mails[2] })
	add(func(b *impl.Box) { b.Mails[0], b.Mails[3] = b.Mails[3], b.Mails[0] })
	add(func(b *impl.Box) { b.Mails[1].Gid = b.Mails[0].Gid })
	add(func(b *impl.Box) { b.Mails[3].Gid = b.Mails[0].Gid })
	for _, gid := range wrongIds() {
		add(func(b *impl.Box) { b.Gone = []int{gid} })
		add(func(b *impl.Box) { b.Gone = []int{gid, 7} })
		add(func(b *impl.Box) { b.Gone = []int{7, gid} })
	}
	for _, gone := range [][]int{{7, 7}, {8, 7}, {7, 8, 8}, {7, 7, 8}, {7, 9, 8}, {9, 7, 8}, numbersFrom(1, 41), numbersFrom(9959, 41), numbersFrom(1, 80)} {
		add(func(b *impl.Box) { b.Gone = gone })
	}
	return append(list, boxOf(0, nil, nil), boxOf(10001, nil, nil), someBox(11, 3), someBox(12, 0), someBox(30, 40), someBox(10, 41), someBox(11, 41), boxOf(12, mailsFrom(1, 11), nil), boxOf(1, nil, numbersFrom(1, 41)), impl.Box{})
}

func TestBoxLimits(t *testing.T) {
	if impl.MaxMails != 10 || impl.MaxGone != 40 {
		t.Errorf("MaxMails = %d, MaxGone = %d", impl.MaxMails, impl.MaxGone)
	}
}

func TestNameOk(t *testing.T) {
	for _, s := range rightNames() {
		if !impl.NameOk(s) {
			t.Errorf("NameOk(%q) = false", s)
		}
	}
	for _, s := range wrongNames() {
		if impl.NameOk(s) {
			t.Errorf("NameOk(%q) = true", s)
		}
	}
	for size := range 40 {
		if s := strings.Repeat("q", size); impl.NameOk(s) != (size >= 1 && size <= 12) {
			t.Errorf("NameOk(%q) = %v", s, impl.NameOk(s))
		}
	}
}

// TestNameOkEveryByte: at each place of names of each length.
func TestNameOkEveryByte(t *testing.T) {
	for _, c := range []byte(everyByte()) {
		want := c >= 'a' && c <= 'z' || c >= '0' && c <= '9'
		for size := 1; size <= 12; size++ {
			for place := range size {
				name := []byte("abcdefghij09"[:size])
				name[place] = c
				if got := impl.NameOk(string(name)); got != want {
					t.Fatalf("NameOk(%q) = %v", name, got)
				}
			}
		}
	}
}

func TestBoxOk(t *testing.T) {
	for _, b := range rightBoxes() {
		if !boxOkByWords(b) || !impl.BoxOk(b) {
			t.Errorf("BoxOk(%#v) = %v", b, impl.BoxOk(b))
		}
	}
	for _, b := range wrongBoxes() {
		if boxOkByWords(b) || impl.BoxOk(b) {
			t.Errorf("BoxOk(%#v) = %v", b, impl.BoxOk(b))
		}
	}
}

func TestBoxOkSizes(t *testing.T) {
	for mails := range 14 {
		for gone := range 44 {
			want := mails <= 10 && gone <= 40
			if got := impl.BoxOk(someBox(mails, gone)); got != want {
				t.Errorf("BoxOk of %d mails, %d gone = %v", mails, gone, got)
			}
		}
	}
}

func TestBoxOkNext(t *testing.T) {
	for _, next := range []int{math.MinInt, -1, 0, 1, 2, 9998, 9999, 10000, 10001, math.MaxInt} {
		want := next >= 1 && next <= 10000
		if got := impl.BoxOk(boxOf(next, nil, nil)); got != want {
			t.Errorf("BoxOk of Next %d = %v", next, got)
		}
		for _, uid := range []int{1, 2, 9998, 9999} {
			if got := impl.BoxOk(boxOf(next, []impl.Mail{someMail(7, uid)}, nil)); got != (want && uid < next) {
				t.Errorf("BoxOk of Next %d and Uid %d = %v", next, uid, got)
			}
		}
	}
}

// TestBoxOkEveryOrder: of Uids and of Gone one order alone is right; of Gids every one.
func TestBoxOkEveryOrder(t *testing.T) {
	for i, order := range orders(5) {
		uids, gids, gone := boxOf(100, nil, nil), boxOf(100, nil, nil), boxOf(100, nil, nil)
		for place, n := range order {
			uids.Mails = append(uids.Mails, someMail(place+1, 10+n))
			gids.Mails = append(gids.Mails, someMail(10+n, place+1))
			gone.Gone = append(gone.Gone, 10+n)
		}
		ascending := slices.IsSorted(order)
		if impl.BoxOk(uids) != ascending || !impl.BoxOk(gids) || impl.BoxOk(gone) != ascending {
			t.Errorf("order %d, %v: Uids %v, Gids %v, Gone %v", i, order, impl.BoxOk(uids), impl.BoxOk(gids), impl.BoxOk(gone))
		}
	}
}

// TestBoxOkLikeNumbers: two of ten alike, wherever they stand.
func TestBoxOkLikeNumbers(t *testing.T) {
	for i := range 10 {
		for j := range i {
			b := someBox(10, 40)
			b.Mails[i].Gid = b.Mails[j].Gid
			if impl.BoxOk(b) {
				t.Errorf("mails %d and %d of one Gid are right", j, i)
			}
			b = someBox(10, 40)
			b.Mails[i].Uid = b.Mails[j].Uid
			if impl.BoxOk(b) {
				t.Errorf("mails %d and %d of one Uid are right", j, i)
			}
		}
		for place := range 40 {
			b := someBox(10, 40)
			b.Mails[i].Gid = b.Gone[place]
			if impl.BoxOk(b) {
				t.Errorf("mail %d with the Gid of Gone %d is right", i, place)
			}
		}
	}
}

func TestMailAt(t *testing.T) {
	for _, b := range append(rightBoxes(), wrongBoxes()...) {
		for _, gid := range slices.Concat(numbersFrom(-2, 160), wrongIds(), rightIds(), b.Gone) {
			if got, want := impl.MailAt(b, gid), placeByWords(b, gid); got != want {
				t.Fatalf("MailAt(%#v, %d) = %d; want %d", b, gid, got, want)
			}
		}
	}
}

func TestMailAtOfLikeGids(t *testing.T) {
	b := someBox(4, 2)
	b.Mails[1].Gid, b.Mails[2].Gid, b.Mails[3].Gid = 7, 7, 7
	if got := impl.MailAt(b, 7); got != 1 {
		t.Errorf("MailAt of the second, third and fourth = %d", got)
	}
	if got := impl.MailAt(b, b.Mails[0].Gid); got != 0 {
		t.Errorf("MailAt of the first = %d", got)
	}
	if got := impl.MailAt(b, 8); got != -1 {
		t.Errorf("MailAt of none = %d", got)
	}
	// Mails that are not right have places as well.
	b.Mails[2].Gid, b.Mails[3].Gid = 0, -4
	if impl.MailAt(b, 0) != 2 || impl.MailAt(b, -4) != 3 || impl.MailAt(impl.Box{}, 0) != -1 {
		t.Errorf("MailAt of Gids that are not right = %d, %d, %d", impl.MailAt(b, 0), impl.MailAt(b, -4), impl.MailAt(impl.Box{}, 0))
	}
}

func TestAddMailIntoAnEmptyBox(t *testing.T) {
	s := stampOf(9, 2)
	for flags := range 8 {
		got, ok := impl.AddMail(boxOf(1, nil, nil), 7, flags, "hi", s)
		want := boxOf(2, []impl.Mail{mailOf(7, 1, flagsOf(flags, s), "hi")}, nil)
		if !ok || !likeBoxes(got, want) || !impl.BoxOk(got) || impl.MailAt(got, 7) != 0 {
			t.Errorf("AddMail of flags %d = %#v, %v", flags, got, ok)
		}
	}
}

// TestAddMailBehindOthers: from nothing to a full box, one by one; a lesser Gid stands behind as well.
func TestAddMailBehindOthers(t *testing.T) {
	for _, gids := range [][]int{numbersFrom(100, 10), {90, 80, 70, 60, 50, 40, 30, 20, 10, 1}, {9999, 1, 9998, 2, 9997, 3, 9996, 4, 9995, 6}} {
		b := boxOf(4, nil, []int{5, 7, 8})
		want := copyBox(b)
		for i, gid := range gids {
			s := stampOf(i, i%3)
			next, ok := impl.AddMail(b, gid, i%8, strings.Repeat("t", i*6), s)
			want.Mails = append(want.Mails, mailOf(gid, 4+i, flagsOf(i%8, s), strings.Repeat("t", i*6)))
			want.Next = 5 + i
			if !ok || !likeBoxes(next, want) || impl.MailAt(next, gid) != i {
				t.Fatalf("AddMail(%#v, %d) = %#v, %v; want %#v", b, gid, next, ok, want)
			}
			b = next
		}
		refusesCall(t, b, boxCall{"AddMail", 11, 0, "", stampOf(1, 1)})
	}
}

func TestAddMailKeepsAllElse(t *testing.T) {
	for _, b := range rightBoxes() {
		got, ok := checksCall(t, b, boxCall{"AddMail", 77, 5, "new", stampOf(100000, 2)})
		if want := len(b.Mails) < 10 && b.Next <= 9999 && placeByWords(b, 77) < 0 && !slices.Contains(b.Gone, 77); ok != want {
			t.Fatalf("AddMail(%#v, 77) = %#v, %v", b, got, ok)
		}
	}
}

func TestAddMailWhereNextEnds(t *testing.T) {
	for _, mails := range []int{0, 3} {
		b := someBox(mails, 2)
		b.Next = 9998
		for _, uid := range []int{9998, 9999} {
			got, ok := checksCall(t, b, boxCall{"AddMail", uid, 0, "hi", stampOf(1, 1)})
			if !ok || got.Mails[len(got.Mails)-1].Uid != uid || got.Next != uid+1 || !impl.BoxOk(got) {
				t.Fatalf("AddMail with Next %d = %#v, %v", uid, got, ok)
			}
			b = got
		}
		refusesCall(t, b, boxCall{"AddMail", 500, 0, "hi", stampOf(1, 1)})
		// There is room for a mail, but none for its number.
		taken, ok := impl.TakeOut(b, 9999)
		if !ok || taken.Next != 10000 {
			t.Fatalf("TakeOut(%#v, 9999) = %#v, %v", b, taken, ok)
		}
		refusesCall(t, taken, boxCall{"AddMail", 500, 0, "hi", stampOf(1, 1)})
	}
	for _, next := range []int{0, -1, 10001, math.MinInt, math.MaxInt} {
		refusesCall(t, boxOf(next, nil, nil), boxCall{"AddMail", 500, 0, "hi", stampOf(1, 1)})
	}
}

func TestAddMailFull(t *testing.T) {
	for _, c := range []struct {
		mails int
		want  bool
	}{{0, true}, {8, true}, {9, true}, {10, false}, {11, false}, {12, false}} {
		for _, gone := range []int{0, 39, 40, 41} {
			b := someBox(c.mails, gone)
			if _, ok := checksCall(t, b, boxCall{"AddMail", 500, 1, "hi", stampOf(1, 1)}); ok != (c.want && gone <= 40) {
				t.Errorf("AddMail into a box of %d mails, %d gone = %v", c.mails, gone, ok)
			}
		}
	}
}

func TestAddMailOfEachArgument(t *testing.T) {
	b, s := someBox(3, 2), stampOf(1, 1)
	for _, gid := range rightIds() {
		if _, ok := checksCall(t, b, boxCall{"AddMail", gid, 0, "hi", s}); ok != !slices.Contains(b.Gone, gid) {
			t.Errorf("AddMail of Gid %d = %v", gid, ok)
		}
	}
	for _, gid := range wrongIds() {
		refusesCall(t, b, boxCall{"AddMail", gid, 0, "hi", s})
	}
	for n := range 8 {
		if _, ok := checksCall(t, b, boxCall{"AddMail", 500, n, "hi", s}); !ok {
			t.Errorf("AddMail of flags %d is refused", n)
		}
	}
	for _, n := range wrongFlagNumbers() {
		refusesCall(t, b, boxCall{"AddMail", 500, n, "hi", s})
	}
	for _, text := range rightTexts() {
		if _, ok := checksCall(t, b, boxCall{"AddMail", 500, 0, text, s}); !ok {
			t.Errorf("AddMail of %q is refused", text)
		}
	}
	for _, text := range longTexts() {
		refusesCall(t, b, boxCall{"AddMail", 500, 0, text, s})
	}
	for _, s := range stampsAround() {
		if _, ok := checksCall(t, b, boxCall{"AddMail", 500, 0, "hi", s}); ok != stampByWords(s) {
			t.Errorf("AddMail with %v = %v", s, ok)
		}
	}
}

func TestAddMailThatIsThereOrGone(t *testing.T) {
	for _, b := range rightBoxes() {
		for _, m := range b.Mails {
			refusesCall(t, b, boxCall{"AddMail", m.Gid, 0, m.Text, stampOf(100000, 2)})
		}
		for _, gid := range b.Gone {
			refusesCall(t, b, boxCall{"AddMail", gid, 0, "hi", stampOf(100000, 2)})
		}
	}
}

// TestFlagMail: the first, those between and the last one; all others stay as they are.
func TestFlagMail(t *testing.T) {
	b := someBox(10, 40)
	for place, m := range b.Mails {
		for n := range 8 {
			s := stampOf(500, 1)
			got, ok := impl.FlagMail(b, m.Gid, n, s)
			want := copyBox(b)
			for i, bit := range bitsOf(n) {
				if m.Flags[i].Val != bit {
					want.Mails[place].Flags[i] = impl.Reg{Val: bit, Stamp: s}
				}
			}
			if !ok || !likeBoxes(got, want) || impl.FlagsOf(got.Mails[place].Flags) != n {
				t.Errorf("FlagMail(%#v, %d, %d) = %#v, %v", b, m.Gid, n, got, ok)
			}
		}
	}
}

// TestFlagMailByStamp: true also where nothing is later, and nothing changes.
func TestFlagMailByStamp(t *testing.T) {
	for _, s := range stampsAround() {
		for n := range 8 {
			flags := []impl.Reg{regOf(0, 7, 1), regOf(1, 0, 0), regOf(0, impl.MaxTime, 2)}
			b := boxOf(4, []impl.Mail{someMail(9, 1), mailOf(6, 2, flags, "hi"), someMail(3, 3)}, []int{1, 5})
			if _, ok := checksCall(t, b, boxCall{"FlagMail", 6, n, "", s}); ok != stampByWords(s) {
				t.Errorf("FlagMail of %d with %v = %v", n, s, ok)
			}
		}
	}
	b := someBox(4, 2)
	for _, m := range b.Mails {
		got, ok := impl.FlagMail(b, m.Gid, 7-impl.FlagsOf(m.Flags), stampOf(0, 0))
		if !ok || !likeBoxes(got, b) {
			t.Errorf("FlagMail(%#v, %d) with the earliest stamp = %#v, %v", b, m.Gid, got, ok)
		}
	}
}

func TestFlagMailOfWrongNumbers(t *testing.T) {
	b := someBox(4, 2)
	for _, m := range b.Mails {
		for _, n := range wrongFlagNumbers() {
			refusesCall(t, b, boxCall{"FlagMail", m.Gid, n, "", stampOf(500, 1)})
		}
		for _, s := range wrongStamps() {
			refusesCall(t, b, boxCall{"FlagMail", m.Gid, 3, "", s})
			refusesCall(t, b, boxCall{"FlagMail", m.Gid, impl.FlagsOf(m.Flags), "", s})
		}
	}
}

func TestTakeOut(t *testing.T) {
	for _, size := range []int{1, 2, 3, 9, 10} {
		b := someBox(size, 3)
		for place, m := range b.Mails {
			got, ok := impl.TakeOut(b, m.Gid)
			want := copyBox(b)
			want.Mails = slices.Delete(want.Mails, place, place+1)
			want.Gone = append(want.Gone, m.Gid)
			if !ok || !likeBoxes(got, want) || got.Next != b.Next || impl.MailAt(got, m.Gid) != -1 || !impl.BoxOk(got) {
				t.Errorf("TakeOut(%#v, %d) = %#v, %v", b, m.Gid, got, ok)
			}
			for _, c := range threeCalls(m.Gid, 1, "hi", stampOf(600, 1)) {
				refusesCall(t, got, c)
			}
		}
	}
}

// TestTakeOutGoneInOrder: ahead of all, between, and behind all.
func TestTakeOutGoneInOrder(t *testing.T) {
	for _, gid := range []int{1, 2, 9, 11, 19, 21, 29, 31, 9998, 9999} {
		b := boxOf(3, []impl.Mail{someMail(500, 1), someMail(gid, 2)}, []int{10, 20, 30})
		got, ok := impl.TakeOut(b, gid)
		want := append([]int{10, 20, 30}, gid)
		slices.Sort(want)
		if !ok || !slices.Equal(got.Gone, want) || len(got.Mails) != 1 {
			t.Errorf("TakeOut of %d = %#v, %v", gid, got, ok)
		}
	}
	for _, order := range orders(4) {
		b := boxOf(5, []impl.Mail{someMail(40, 1), someMail(20, 2), someMail(30, 3), someMail(10, 4)}, nil)
		gids := []int{40, 20, 30, 10}
		for i, place := range order {
			next, ok := impl.TakeOut(b, gids[place])
			if !ok || len(next.Mails) != 3-i || len(next.Gone) != i+1 || !slices.IsSorted(next.Gone) {
				t.Fatalf("TakeOut(%#v, %d) = %#v, %v", b, gids[place], next, ok)
			}
			b = next
		}
		if !slices.Equal(b.Gone, []int{10, 20, 30, 40}) || b.Next != 5 {
			t.Fatalf("of all that were taken out comes %#v", b)
		}
	}
}

func TestTakeOutFull(t *testing.T) {
	for _, mails := range []int{1, 9, 10, 11} {
		for _, gone := range []int{0, 38, 39, 40, 41} {
			b := someBox(mails, gone)
			for _, m := range b.Mails {
				got, ok := checksCall(t, b, boxCall{"TakeOut", m.Gid, 0, "", impl.Stamp{}})
				if ok != (mails <= 10 && gone <= 39) || ok && len(got.Gone) != gone+1 {
					t.Errorf("TakeOut of a box of %d mails, %d gone = %v", mails, gone, ok)
				}
			}
		}
	}
	// A box that takes nothing out any more still takes mails in, and flags them.
	b := someBox(3, 40)
	for _, c := range []boxCall{{"AddMail", 500, 7, "", stampOf(500, 1)}, {"FlagMail", b.Mails[1].Gid, 7, "", stampOf(500, 1)}} {
		if _, ok := checksCall(t, b, c); !ok {
			t.Errorf("%#v is refused", c)
		}
	}
}

func TestMailsThatAreNotThere(t *testing.T) {
	for _, b := range rightBoxes() {
		for _, gid := range slices.Concat(wrongIds(), b.Gone, []int{b.Gid, b.Next, 4321}) {
			if placeByWords(b, gid) >= 0 {
				continue
			}
			refusesCall(t, b, boxCall{"FlagMail", gid, 1, "", stampOf(500, 1)})
			refusesCall(t, b, boxCall{"TakeOut", gid, 0, "", impl.Stamp{}})
		}
	}
}

// TestBoxesThatAreNotRight: as they are, every field, whatever is asked of them.
func TestBoxesThatAreNotRight(t *testing.T) {
	for _, b := range wrongBoxes() {
		gids := []int{500, 0, b.Gid}
		for _, m := range b.Mails[:min(4, len(b.Mails))] {
			gids = append(gids, m.Gid)
		}
		for _, gid := range gids {
			for _, c := range threeCalls(gid, 3, "hi", stampOf(500, 1)) {
				refusesCall(t, b, c)
			}
		}
	}
}

func TestBoxesWithTwoMailsOfOneGid(t *testing.T) {
	b := boxOf(9, []impl.Mail{mailOf(7, 2, flagsOf(1, stampOf(1, 1)), "first"), mailOf(7, 3, flagsOf(2, stampOf(2, 1)), "second"), mailOf(7, 3, nil, "third"), mailOf(6, 1, nil, "")}, []int{8, 8, 3, -1})
	for _, c := range slices.Concat(threeCalls(7, 3, "hi", stampOf(5, 1)), threeCalls(6, 3, "hi", stampOf(5, 1)), threeCalls(5, 3, "hi", stampOf(5, 1))) {
		refusesCall(t, b, c)
	}
}

// TestDrawnBoxes: boxes of which about every second one is right, held against the words.
func TestDrawnBoxes(t *testing.T) {
	r := rand.New(rand.NewSource(6))
	right := 0
	for range 4000 {
		b := someBox(r.Intn(12), []int{0, 1, 5, 38, 39, 40}[r.Intn(6)])
		switch r.Intn(8) {
		case 0:
			b.Next = r.Intn(25)
		case 1:
			b.Gone = append(b.Gone, r.Intn(3000))
		case 2:
			r.Shuffle(len(b.Gone), func(i, j int) { b.Gone[i], b.Gone[j] = b.Gone[j], b.Gone[i] })
		case 3:
			if len(b.Mails) > 0 {
				b.Mails[r.Intn(len(b.Mails))].Uid = r.Intn(25)
			}
		case 4:
			if len(b.Mails) > 0 {
				b.Mails[r.Intn(len(b.Mails))].Gid = 98 + r.Intn(60)
			}
		}
		if boxOkByWords(b) {
			right++
		}
		if impl.BoxOk(b) != boxOkByWords(b) {
			t.Fatalf("BoxOk(%#v) = %v", b, impl.BoxOk(b))
		}
		for range 3 {
			for _, c := range threeCalls(95+r.Intn(65), r.Intn(10)-1, drawnText(r, r.Intn(63)), stampOf(r.Intn(80), r.Intn(4))) {
				checksCall(t, b, c)
			}
		}
	}
	if right < 1000 || right > 3500 {
		t.Errorf("%d of 4000 drawn boxes are right", right)
	}
}

// TestNumbersOfTheirOwn: through a long life of a box no number is of two mails, and what was taken out stays out.
func TestNumbersOfTheirOwn(t *testing.T) {
	r := rand.New(rand.NewSource(66))
	for range 60 {
		b := boxOf(1+r.Intn(3)*4990, nil, nil)
		ownerOf, wasOut := map[int]int{}, map[int]bool{}
		for range 300 {
			gid, time := 1+r.Intn(60), r.Intn(200)
			c := threeCalls(gid, r.Intn(8), drawnText(r, r.Intn(61)), stampOf(time, 1+r.Intn(2)))[r.Intn(3)]
			next, ok := checksCall(t, b, c)
			if ok && c.name == "TakeOut" {
				wasOut[gid] = true
			}
			b = next
			for _, m := range b.Mails {
				if owner, known := ownerOf[m.Uid]; known && owner != m.Gid {
					t.Fatalf("Uid %d is of %d and of %d", m.Uid, owner, m.Gid)
				}
				ownerOf[m.Uid] = m.Gid
				if wasOut[m.Gid] {
					t.Fatalf("mail %d came back", m.Gid)
				}
			}
			if !impl.BoxOk(b) {
				t.Fatalf("%#v is not right", b)
			}
		}
	}
}

// TestBoxesAnswerAlike: the same, call for call, in whatever order a map is gone through.
func TestBoxesAnswerAlike(t *testing.T) {
	b := someBox(10, 39)
	for _, c := range threeCalls(b.Mails[4].Gid, 7, "hi", stampOf(500, 1))[1:] {
		for range 200 {
			checksCall(t, b, c)
		}
	}
}

func roomyNumbers(list []int) []int {
	room := slices.Concat(list, []int{-77, -78, -79, -80})
	return room[:len(list)]
}

// roomyBox has marks behind each of its lists that nobody may touch.
func roomyBox(b impl.Box) impl.Box {
	mails := make([]impl.Mail, len(b.Mails), len(b.Mails)+4)
	for i, m := range b.Mails {
		mails[i] = roomyMail(copyMail(m))
	}
	for i := len(b.Mails); i < cap(mails); i++ {
		mails[:cap(mails)][i] = mailOf(-77, -i, withRoom(flagsOf(5, stampOf(1, 1))), "mark")
	}
	b.Name, b.Mails, b.Gone = strings.Clone(b.Name), mails, roomyNumbers(b.Gone)
	return b
}

// wholeBox has what stands behind the ends as well.
func wholeBox(b impl.Box) impl.Box {
	b.Mails, b.Gone = b.Mails[:cap(b.Mails)], b.Gone[:cap(b.Gone)]
	mails := b.Mails
	b.Mails = nil
	for _, m := range mails {
		b.Mails = append(b.Mails, mailOf(m.Gid, m.Uid, m.Flags[:cap(m.Flags)], m.Text))
	}
	return copyBox(b)
}

func spoilNumbers(list []int) {
	list = list[:cap(list)]
	for i := range list {
		list[i] = -9
	}
}

func spoilBox(b impl.Box) {
	mails := b.Mails[:cap(b.Mails)]
	for i := range mails {
		spoil(mails[i].Flags)
		mails[i] = mailOf(-9, -9, nil, "spoilt")
	}
	spoilNumbers(b.Gone)
}

// memoryCalls: some that are done on most right boxes, some that are refused.
func memoryCalls(b impl.Box) []boxCall {
	list := threeCalls(500, 5, strings.Repeat("new", 3), stampOf(500, 1))
	if len(b.Mails) > 0 {
		list = append(list, threeCalls(b.Mails[0].Gid, 5, "hi", stampOf(500, 1))...)
		list = append(list, threeCalls(b.Mails[len(b.Mails)-1].Gid, 5, "hi", stampOf(0, 0))...)
		list = append(list, boxCall{"FlagMail", b.Mails[0].Gid, 8, "", stampOf(1, 1)})
	}
	return list
}

func TestBoxesLeaveTheirArguments(t *testing.T) {
	for _, given := range append(rightBoxes(), wrongBoxes()...) {
		b := roomyBox(given)
		whole := wholeBox(b)
		impl.BoxOk(b)
		impl.MailAt(b, 500)
		for _, c := range memoryCalls(given) {
			c.done(b)
		}
		if !likeBoxes(wholeBox(b), whole) {
			t.Fatalf("%#v was written into, or behind its end", given)
		}
	}
}

// TestBoxesNewMemory: what is answered stays as it is when the argument is changed behind the call, and the other way round.
func TestBoxesNewMemory(t *testing.T) {
	for _, given := range append(rightBoxes(), wrongBoxes()...) {
		for _, c := range memoryCalls(given) {
			b := roomyBox(given)
			answer, _ := c.done(b)
			kept := copyBox(answer)
			spoilBox(b)
			if !likeBoxes(answer, kept) {
				t.Fatalf("%#v: %#v became %#v when the argument was changed", c, kept, answer)
			}
			b = roomyBox(given)
			whole := wholeBox(b)
			answer, _ = c.done(b)
			spoilBox(answer)
			if !likeBoxes(wholeBox(b), whole) {
				t.Fatalf("%#v: %#v changed with the answer", c, given)
			}
		}
	}
}

func TestBoxesShareNoTexts(t *testing.T) {
	for _, given := range append(rightBoxes(), wrongBoxes()...) {
		for _, c := range memoryCalls(given) {
			b := roomyBox(given)
			answer, _ := c.done(b)
			texts := []string{answer.Name}
			for _, m := range answer.Mails {
				texts = append(texts, m.Text)
			}
			for _, text := range texts {
				shared := sharesMemory(text, b.Name) || sharesMemory(text, c.text)
				for _, m := range b.Mails {
					shared = shared || sharesMemory(text, m.Text)
				}
				if shared {
					t.Fatalf("%#v of %#v shares the text %q", c, given, text)
				}
			}
		}
	}
}

// TestListsOfOneBoxApart: no list of an answer lies within another one, also where the argument's lists do.
func TestListsOfOneBoxApart(t *testing.T) {
	for _, size := range []int{3, 10, 11} {
		given := someBox(size, 5)
		one := flagsOf(3, stampOf(4, 1))
		for i := range given.Mails {
			given.Mails[i].Flags = one
		}
		for _, c := range memoryCalls(given) {
			answer, _ := c.done(given)
			for place := range answer.Mails {
				kept := copyBox(answer)
				spoil(answer.Mails[place].Flags)
				kept.Mails[place].Flags = slices.Clone(answer.Mails[place].Flags)
				if !likeBoxes(answer, kept) {
					t.Fatalf("%#v: flags of mail %d are shared: %#v", c, place, answer)
				}
			}
			kept := copyBox(answer)
			spoilNumbers(answer.Gone)
			kept.Gone = answer.Gone
			if !likeBoxes(answer, kept) {
				t.Fatalf("%#v: Gone is shared: %#v", c, answer)
			}
		}
	}
}

// TestBoxAnswersApart: two answers of one call share nothing either.
func TestBoxAnswersApart(t *testing.T) {
	for _, given := range append(rightBoxes(), wrongBoxes()...) {
		for _, c := range memoryCalls(given) {
			first, _ := c.done(given)
			second, _ := c.done(given)
			kept := copyBox(second)
			spoilBox(first)
			if !likeBoxes(second, kept) {
				t.Fatalf("%#v of %#v: of two answers one changed with the other", c, given)
			}
		}
	}
}
