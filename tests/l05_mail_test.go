package tests

import (
	"encoding/binary"
	"fmt"
	"math"
	"math/rand"
	"slices"
	"strings"
	"testing"

	"loop.example/g00324/impl"
)

func mailOf(gid, uid int, flags []impl.Reg, text string) impl.Mail {
	return impl.Mail{Gid: gid, Uid: uid, Flags: flags, Text: text}
}

// likeMails goes by the document's words alone, so that SameMail does not vouch for itself.
func likeMails(a, b impl.Mail) bool {
	if a.Gid != b.Gid || a.Uid != b.Uid || a.Text != b.Text || len(a.Flags) != len(b.Flags) {
		return false
	}
	for i := range a.Flags {
		if a.Flags[i] != b.Flags[i] {
			return false
		}
	}
	return true
}

func isNoMail(m impl.Mail) bool {
	return m.Gid == 0 && m.Uid == 0 && len(m.Flags) == 0 && m.Text == ""
}

// mailByWords writes a mail of any numbers, so that it also makes what MailText refuses to.
func mailByWords(m impl.Mail) string {
	return varOf(uint64(m.Gid)) + varOf(uint64(m.Uid)) + flagsByWords(m.Flags) + varOf(uint64(len(m.Text))) + m.Text
}

func flagsByWords(list []impl.Reg) string {
	text := ""
	for _, r := range list {
		text += varOf(uint64(r.Val)) + varOf(uint64(r.Stamp.Time)) + varOf(uint64(r.Stamp.By))
	}
	return text
}

// numbersThere reads as many numbers as are asked for, each in its one form; nil when they do not stand there.
func numbersThere(text string, count int) ([]int, int) {
	var list []int
	at := 0
	for range count {
		n, size := binary.Uvarint([]byte(text[at:]))
		if size <= 0 || varOf(n) != text[at:at+size] || n > impl.MaxNumber {
			return nil, 0
		}
		list, at = append(list, int(n)), at+size
	}
	return list, at
}

// readByWords is a second reader, which asks for nothing of the program.
func readByWords(text string, at int) (impl.Mail, int, bool) {
	if at < 0 || at > len(text) {
		return impl.Mail{}, 0, false
	}
	n, used := numbersThere(text[at:], 12)
	if n == nil {
		return impl.Mail{}, 0, false
	}
	from := at + used
	if n[0] < 1 || n[0] > 9999 || n[1] < 1 || n[1] > 9999 || n[11] > 60 || n[11] > len(text)-from {
		return impl.Mail{}, 0, false
	}
	m := mailOf(n[0], n[1], nil, text[from:from+n[11]])
	for i := 2; i < 11; i += 3 {
		if n[i] > 1 || n[i+1] > 100000 || n[i+2] > 2 {
			return impl.Mail{}, 0, false
		}
		m.Flags = append(m.Flags, regOf(n[i], n[i+1], n[i+2]))
	}
	return m, from + n[11], true
}

func refusesMail(t *testing.T, text string, at int) {
	t.Helper()
	if m, behind, ok := impl.ReadMail(text, at); ok || behind != 0 || !isNoMail(m) {
		t.Fatalf("ReadMail(%q, %d) = %#v, %d, %#v", text, at, m, behind, ok)
	}
}

func readsMail(t *testing.T, text string, at int, want impl.Mail, wantBehind int) {
	t.Helper()
	if m, behind, ok := impl.ReadMail(text, at); !ok || behind != wantBehind || !likeMails(m, want) {
		t.Fatalf("ReadMail(%q, %d) = %#v, %d, %#v; want %#v, %d", text, at, m, behind, ok, want, wantBehind)
	}
}

// rightIds: of one byte and of two, with the borders of both.
func rightIds() []int {
	return []int{1, 2, 7, 126, 127, 128, 129, 255, 256, 300, 9998, 9999}
}

func wrongIds() []int {
	return []int{0, 10000, 10001, 16383, 16384, -1, -9999, impl.MaxNumber, impl.MaxNumber + 1, math.MaxInt, math.MinInt}
}

// rightTexts: of every length, and of every byte somewhere.
func rightTexts() []string {
	list := []string{"", "hi", "a b\r\n", "\x00", "\xff", "\x80\x80", "\xc3\xa9", "\x07\x02\x01\x01\x01\x00\x01\x01\x00\x01\x01\x02hi"}
	for size := 1; size <= 60; size++ {
		list = append(list, strings.Repeat("m", size))
	}
	for from := 0; from < 256; from += 60 {
		list = append(list, everyByte()[from:min(256, from+60)])
	}
	return list
}

func longTexts() []string {
	return []string{strings.Repeat("m", 61), strings.Repeat("\x00", 61), strings.Repeat("m", 62), everyByte(), strings.Repeat("m", 128), strings.Repeat("m", impl.MaxText), strings.Repeat("m", impl.MaxText+1)}
}

// rightFlags: every number, with stamps of each length of a number.
func rightFlags() [][]impl.Reg {
	var list [][]impl.Reg
	for n := range 8 {
		list = append(list, flagsOf(n, impl.Stamp{}), flagsOf(n, stampOf(impl.MaxTime, 2)), flagsWithStamps(n, ownStamps()),
			flagsWithStamps(n, []impl.Stamp{stampOf(127, 0), stampOf(128, 1), stampOf(16384, 2)}), flagsWithStamps(n, []impl.Stamp{stampOf(impl.MaxTime, 0), stampOf(0, 2), stampOf(16383, 1)}))
	}
	return list
}

// rightMails has each thing of a mail with all that it may be; not all with all.
func rightMails() []impl.Mail {
	var list []impl.Mail
	flags := rightFlags()
	for i, gid := range rightIds() {
		for j, uid := range rightIds() {
			list = append(list, mailOf(gid, uid, flags[(12*i+j)%len(flags)], "hi"))
		}
	}
	for i, f := range flags {
		list = append(list, mailOf(7, 2, f, ""), mailOf(300, 1+i, f, "hi"))
	}
	for i, s := range rightTexts() {
		list = append(list, mailOf(1+i, 9999-i, flags[i%len(flags)], s))
	}
	return list
}

// wrongMails: each is no mail for one cause alone, but for the last ones.
func wrongMails() []impl.Mail {
	right := flagsWithStamps(5, ownStamps())
	var list []impl.Mail
	for _, n := range wrongIds() {
		list = append(list, mailOf(n, 2, right, "hi"), mailOf(7, n, right, "hi"))
	}
	for _, flags := range wrongFlags() {
		list = append(list, mailOf(7, 2, flags, "hi"))
	}
	for _, s := range longTexts() {
		list = append(list, mailOf(7, 2, right, s))
	}
	return append(list, impl.Mail{}, mailOf(0, 0, right, ""), mailOf(-1, 10000, nil, everyByte()))
}

func TestMailLimits(t *testing.T) {
	if impl.MaxGid != 9999 || impl.MaxText9 != 60 {
		t.Errorf("MaxGid = %d, MaxText9 = %d", impl.MaxGid, impl.MaxText9)
	}
}

func TestMailOk(t *testing.T) {
	for _, m := range rightMails() {
		if !impl.MailOk(m) {
			t.Errorf("MailOk(%#v) = false", m)
		}
	}
	for _, m := range wrongMails() {
		if impl.MailOk(m) {
			t.Errorf("MailOk(%#v) = true", m)
		}
	}
}

func TestMailOkOfEachReg(t *testing.T) {
	for place := range impl.FlagCount {
		for _, r := range regsAround() {
			flags := flagsWithStamps(2, ownStamps())
			flags[place] = r
			want := impl.StampOk(r.Stamp) && (r.Val == 0 || r.Val == 1)
			if got := impl.MailOk(mailOf(7, 2, flags, "hi")); got != want {
				t.Errorf("MailOk with %#v = %#v", flags, got)
			}
		}
	}
}

func TestSameMail(t *testing.T) {
	list := append(rightMails(), wrongMails()...)
	for i, a := range list {
		other := mailOf(a.Gid, a.Uid, slices.Clone(a.Flags), strings.Clone(a.Text))
		if !impl.SameMail(a, a) || !impl.SameMail(a, other) || !impl.SameMail(other, a) {
			t.Fatalf("%#v is not the same as itself", a)
		}
		for _, b := range list[:i] {
			want := likeMails(a, b)
			if impl.SameMail(a, b) != want || impl.SameMail(b, a) != want {
				t.Fatalf("SameMail(%#v, %#v) = %#v, the other way %#v", a, b, impl.SameMail(a, b), impl.SameMail(b, a))
			}
		}
	}
}

// TestSameMailOfOneDifference: each number of a mail, and each byte, counts by itself.
func TestSameMailOfOneDifference(t *testing.T) {
	m := mailOf(7, 2, flagsWithStamps(5, ownStamps()), "hill")
	others := []impl.Mail{mailOf(8, 2, m.Flags, "hill"), mailOf(2, 7, m.Flags, "hill"), mailOf(7, 3, m.Flags, "hill"), mailOf(7, -2, m.Flags, "hill"),
		mailOf(7, 2, m.Flags, ""), mailOf(7, 2, m.Flags, "hil"), mailOf(7, 2, m.Flags, "hills"), mailOf(7, 2, m.Flags, "hilL"), mailOf(7, 2, m.Flags, "Hill"), mailOf(7, 2, m.Flags, "hill\x00"),
		mailOf(7, 2, nil, "hill"), mailOf(7, 2, m.Flags[:1], "hill"), mailOf(7, 2, m.Flags[:2], "hill"), mailOf(7, 2, m.Flags[1:], "hill"), mailOf(7, 2, append(slices.Clone(m.Flags), impl.Reg{}), "hill")}
	for place := range m.Flags {
		for _, change := range []func(r *impl.Reg){func(r *impl.Reg) { r.Val++ }, func(r *impl.Reg) { r.Stamp.Time++ }, func(r *impl.Reg) { r.Stamp.By++ }} {
			flags := slices.Clone(m.Flags)
			change(&flags[place])
			others = append(others, mailOf(7, 2, flags, "hill"))
		}
	}
	for _, other := range others {
		if impl.SameMail(m, other) || impl.SameMail(other, m) {
			t.Errorf("%#v and %#v are the same", m, other)
		}
	}
	if !impl.SameMail(mailOf(7, 2, nil, "hi"), mailOf(7, 2, []impl.Reg{}, "hi")) || !impl.SameMail(mailOf(7, 2, m.Flags[:0], "hi"), mailOf(7, 2, nil, "hi")) {
		t.Errorf("an empty list and nil are not the same")
	}
}

func TestJoinMailUidsAndTexts(t *testing.T) {
	s := stampOf(3, 1)
	for _, c := range []struct {
		uidA  int
		textA string
		uidB  int
		textB string
		uid   int
		text  string
	}{
		{1, "a", 2, "b", 2, "b"}, {1, "b", 2, "a", 2, "b"}, {2, "a", 2, "a", 2, "a"}, {5, "a", 5, "b", 5, "b"}, {5, "a", 6, "a", 6, "a"},
		{1, "", 1, "", 1, ""}, {1, "", 1, "\x00", 1, "\x00"}, {1, "ab", 1, "abc", 1, "abc"}, {1, "abc", 2, "ab", 2, "abc"}, {1, "b", 1, "abc", 1, "b"}, {9, "Z", 10, "a", 10, "a"}, {127, "9", 128, "10", 128, "9"},
		{1, "\x7f", 1, "\x80", 1, "\x80"}, {1, "\xff", 1, "z", 1, "\xff"}, {1, "z", 1, "\xc3\xa9", 1, "\xc3\xa9"}, {1, "ab\x00", 1, "ab", 1, "ab\x00"}, {1, "ab\x00", 1, "ab\x00\x00", 1, "ab\x00\x00"},
		{9998, "a", 9999, strings.Repeat("a", 60), 9999, strings.Repeat("a", 60)},
		// What is not right is joined by the same words.
		{0, "a", 5, "b", 5, "b"}, {-1, "a", 0, "b", 0, "b"}, {-5, "b", -6, "a", -5, "b"}, {math.MinInt, "a", math.MaxInt, "a", math.MaxInt, "a"}, {10000, "a", 9999, "a", 10000, "a"},
		{1, strings.Repeat("a", 61), 1, strings.Repeat("a", 60), 1, strings.Repeat("a", 61)}, {1, strings.Repeat("a", 61), 1, "b", 1, "b"}, {1, strings.Repeat("b", impl.MaxText+1), 2, "a", 2, strings.Repeat("b", impl.MaxText+1)},
	} {
		a, b, want := mailOf(7, c.uidA, flagsOf(5, s), c.textA), mailOf(7, c.uidB, flagsOf(5, s), c.textB), mailOf(7, c.uid, flagsOf(5, s), c.text)
		if got := impl.JoinMail(a, b); !likeMails(got, want) {
			t.Errorf("JoinMail(%#v, %#v) = %#v", a, b, got)
		}
		if got := impl.JoinMail(b, a); !likeMails(got, want) {
			t.Errorf("JoinMail(%#v, %#v) = %#v", b, a, got)
		}
	}
}

func joinedByWords(a, b impl.Mail) impl.Mail {
	if a.Gid != b.Gid {
		return a
	}
	joined := mailOf(a.Gid, slices.Max([]int{a.Uid, b.Uid}), nil, slices.Max([]string{a.Text, b.Text}))
	for i := range min(len(a.Flags), len(b.Flags)) {
		joined.Flags = append(joined.Flags, slices.MaxFunc([]impl.Reg{a.Flags[i], b.Flags[i]}, regOrder))
	}
	return joined
}

// TestJoinMailFlags: flag by flag, as long as both have one, also of what is not right.
func TestJoinMailFlags(t *testing.T) {
	lists := append(someFlags(), []impl.Reg{}, slices.Repeat([]impl.Reg{regOf(1, 6, 2)}, 5), flagsOf(7, stampOf(-1, 3)))
	for i, x := range lists {
		for j, y := range lists {
			a, b := mailOf(7, 1+i, x, "a"), mailOf(7, 1+j, y, "b")
			if got, want := impl.JoinMail(a, b), joinedByWords(a, b); !likeMails(got, want) {
				t.Fatalf("JoinMail(%#v, %#v) = %#v; want %#v", a, b, got, want)
			}
		}
	}
}

func TestJoinMailOfUnlikeGids(t *testing.T) {
	list := append(rightMails(), wrongMails()...)
	late := flagsOf(7, stampOf(impl.MaxTime, 2))
	for _, a := range list {
		for _, gid := range []int{0, 1, 7, 8, 9999, -1, math.MaxInt} {
			if gid == a.Gid {
				continue
			}
			b := mailOf(gid, math.MaxInt, late, strings.Repeat("\xff", 61))
			if got := impl.JoinMail(a, b); !likeMails(got, a) {
				t.Fatalf("JoinMail(%#v, %#v) = %#v", a, b, got)
			}
			if got := impl.JoinMail(b, a); !likeMails(got, b) {
				t.Fatalf("JoinMail(%#v, %#v) = %#v", b, a, got)
			}
		}
	}
}

func TestJoinMailWithItself(t *testing.T) {
	for _, m := range append(rightMails(), wrongMails()...) {
		if got := impl.JoinMail(m, m); !likeMails(got, m) {
			t.Errorf("JoinMail(%#v, itself) = %#v", m, got)
		}
	}
}

func TestJoinMailOfWhatIsNotRight(t *testing.T) {
	list := wrongMails()
	list = append(list, mailOf(7, 2, flagsOf(5, stampOf(6, 1)), "hi"), mailOf(0, 2, nil, "hi"), mailOf(0, 3, []impl.Reg{}, "h"), mailOf(-1, 3, flagsOf(1, stampOf(6, 1)), "h"))
	for _, a := range list {
		for _, b := range list {
			if got, want := impl.JoinMail(a, b), joinedByWords(a, b); !likeMails(got, want) {
				t.Fatalf("JoinMail(%#v, %#v) = %#v; want %#v", a, b, got, want)
			}
		}
	}
}

// TestJoinMailInEveryOrder: three of one Gid come to one, whichever is first, and right ones to a right one.
func TestJoinMailInEveryOrder(t *testing.T) {
	var list []impl.Mail
	for i, flags := range someFlags() {
		list = append(list, mailOf(7, 1+(i*5)%4, flags, []string{"", "a", "ab", "b"}[(i*3)%4]))
	}
	for i, a := range list {
		for j, b := range list[:i+1] {
			for _, c := range list[:j+1] {
				three := []impl.Mail{a, b, c}
				want := joinedByWords(joinedByWords(a, b), c)
				for _, order := range orders(3) {
					x, y, z := three[order[0]], three[order[1]], three[order[2]]
					left, right := impl.JoinMail(impl.JoinMail(x, y), z), impl.JoinMail(x, impl.JoinMail(y, z))
					twice := impl.JoinMail(impl.JoinMail(left, y), x)
					if !likeMails(left, want) || !likeMails(right, want) || !likeMails(twice, want) {
						t.Fatalf("of %#v, %#v, %#v come %#v, %#v, %#v; want %#v", x, y, z, left, right, twice, want)
					}
				}
				if impl.MailOk(a) && impl.MailOk(b) && impl.MailOk(c) && !impl.MailOk(want) {
					t.Fatalf("of %#v, %#v, %#v comes %#v, which is not right", a, b, c, want)
				}
			}
		}
	}
}

func TestMailTextWritten(t *testing.T) {
	for _, c := range []struct {
		m    impl.Mail
		want string
	}{
		{mailOf(7, 2, flagsOf(1, stampOf(1, 1)), "hi"), "\x07\x02\x01\x01\x01\x00\x01\x01\x00\x01\x01\x02hi"},
		{mailOf(1, 1, flagsOf(0, impl.Stamp{}), ""), "\x01\x01\x00\x00\x00\x00\x00\x00\x00\x00\x00\x00"},
		{mailOf(9999, 128, flagsOf(7, stampOf(100000, 2)), "\x00"), "\x8f\x4e\x80\x01\x01\xa0\x8d\x06\x02\x01\xa0\x8d\x06\x02\x01\xa0\x8d\x06\x02\x01\x00"},
		{mailOf(127, 9999, flagsWithStamps(6, []impl.Stamp{stampOf(127, 0), stampOf(128, 1), stampOf(16384, 2)}), "\xff\x80"), "\x7f\x8f\x4e\x00\x7f\x00\x01\x80\x01\x01\x01\x80\x80\x01\x02\x02\xff\x80"},
		{mailOf(300, 3, flagsWithStamps(4, ownStamps()), strings.Repeat("m", 60)), "\xac\x02\x03\x00\x04\x01\x00\x09\x00\x01\x04\x02\x3c" + strings.Repeat("m", 60)},
	} {
		if got, ok := impl.MailText(c.m); !ok || got != c.want {
			t.Errorf("MailText(%#v) = %q, %#v; want %q", c.m, got, ok, c.want)
		}
	}
	for _, m := range rightMails() {
		if got, ok := impl.MailText(m); !ok || got != mailByWords(m) {
			t.Errorf("MailText(%#v) = %q, %#v", m, got, ok)
		}
	}
}

func TestMailTextRefused(t *testing.T) {
	for _, m := range wrongMails() {
		if got, ok := impl.MailText(m); ok || got != "" {
			t.Errorf("MailText(%#v) = %q, %#v", m, got, ok)
		}
	}
}

func TestMailsComeBack(t *testing.T) {
	for _, m := range rightMails() {
		text, _ := impl.MailText(m)
		for _, ahead := range []string{"", "\x00", "\x80", "\xff\xff\xffmail", text} {
			for _, behind := range []string{"", "\x00", "\x01\x01", "\xff\xff\xff", strings.Repeat("b", 100)} {
				readsMail(t, ahead+text+behind, len(ahead), m, len(ahead+text))
			}
		}
	}
}

// TestMailsComeBackInARow: where one ends the next one begins.
func TestMailsComeBackInARow(t *testing.T) {
	mails := rightMails()
	row := ""
	for _, m := range mails {
		text, _ := impl.MailText(m)
		row += text
	}
	at := 0
	for i, m := range mails {
		got, behind, ok := impl.ReadMail(row, at)
		if !ok || !likeMails(got, m) || !impl.SameMail(got, m) {
			t.Fatalf("mail %d of the row = %#v, %#v; want %#v", i, got, ok, m)
		}
		at = behind
	}
	if at != len(row) {
		t.Errorf("the row ends at %d; read up to %d", len(row), at)
	}
	refusesMail(t, row, at)
	for i, a := range mails[:len(mails)-1] {
		b := mails[i+1]
		textA, textB := mailByWords(a), mailByWords(b)
		readsMail(t, textA+textB, 0, a, len(textA))
		readsMail(t, textA+textB, len(textA), b, len(textA+textB))
	}
}

// TestReadMailCut: a text that ends one byte or more too soon has no mail, be it cut in a number, in the text, or ahead of it.
func TestReadMailCut(t *testing.T) {
	for _, m := range rightMails() {
		text := mailByWords(m)
		for size := range len(text) {
			refusesMail(t, text[:size], 0)
			refusesMail(t, "\x01\x01"+text[:size], 2)
		}
	}
}

func TestReadMailPlaces(t *testing.T) {
	for _, m := range rightMails() {
		text := mailByWords(m)
		for _, at := range append(wrongPlaces(text), len(text)) {
			refusesMail(t, text, at)
		}
	}
	for _, at := range []int{0, 1, -1, math.MaxInt, math.MinInt} {
		refusesMail(t, "", at)
	}
}

// TestReadMailLongerForms: each number in its turn is written longer than VarText has it.
func TestReadMailLongerForms(t *testing.T) {
	for _, m := range rightMails() {
		numbers := []int{m.Gid, m.Uid}
		for _, r := range m.Flags {
			numbers = append(numbers, r.Val, r.Stamp.Time, r.Stamp.By)
		}
		numbers = append(numbers, len(m.Text))
		for place := range numbers {
			for _, more := range []string{"\x00", "\x80\x00", "\x80\x80\x80\x80\x00"} {
				text := ""
				for i, n := range numbers {
					s := varOf(uint64(n))
					if i == place {
						s = s[:len(s)-1] + string([]byte{s[len(s)-1] | 128}) + more
					}
					text += s
				}
				refusesMail(t, text+m.Text, 0)
				refusesMail(t, text+m.Text+strings.Repeat("\x01", 80), 0)
			}
		}
	}
}

// TestReadMailTextTooShort: the text at the end is told longer than what is left, by one and by far.
func TestReadMailTextTooShort(t *testing.T) {
	head := "\x07\x02" + flagsByWords(flagsOf(5, stampOf(3, 1)))
	for told := 1; told <= 60; told++ {
		for left := range told {
			refusesMail(t, head+varOf(uint64(told))+strings.Repeat("m", left), 0)
		}
		want := mailOf(7, 2, flagsOf(5, stampOf(3, 1)), strings.Repeat("m", told))
		readsMail(t, head+varOf(uint64(told))+strings.Repeat("m", told), 0, want, len(head)+1+told)
		readsMail(t, head+varOf(uint64(told))+strings.Repeat("m", told+1), 0, want, len(head)+1+told)
	}
	for _, told := range []uint64{61, 127, 128, impl.MaxText, impl.MaxText + 1, impl.MaxNumber, impl.MaxNumber + 1, 1 << 32, 1<<63 - 1, math.MaxUint64} {
		refusesMail(t, head+varOf(told), 0)
		refusesMail(t, head+varOf(told)+strings.Repeat("m", 60), 0)
	}
}

// TestReadMailOfTheFormAlone: all of it stands there, but what stands there is not right.
func TestReadMailOfTheFormAlone(t *testing.T) {
	behind := strings.Repeat("\x01", 100)
	for _, m := range wrongMails() {
		// A list of another length is of another form, and what follows is taken for what is missing.
		if len(m.Flags) != impl.FlagCount {
			continue
		}
		refusesMail(t, mailByWords(m), 0)
		refusesMail(t, mailByWords(m)+behind, 0)
		refusesMail(t, "hi"+mailByWords(m), 2)
	}
}

// TestReadMailOfOtherFlagCounts: the reader takes FlagCount flags, whatever was meant by who wrote it.
func TestReadMailOfOtherFlagCounts(t *testing.T) {
	for _, count := range []int{0, 1, 2, 4, 5} {
		text := mailByWords(mailOf(7, 2, slices.Repeat([]impl.Reg{regOf(1, 9, 2)}, count), "\x03\x03\x03"))
		want, behind, ok := readByWords(text, 0)
		if !ok {
			refusesMail(t, text, 0)
			continue
		}
		readsMail(t, text, 0, want, behind)
	}
}

func checksReadMail(t *testing.T, text string, at int) {
	t.Helper()
	want, behind, ok := readByWords(text, at)
	if !ok {
		refusesMail(t, text, at)
		return
	}
	readsMail(t, text, at, want, behind)
	if again, right := impl.MailText(want); !right || again != text[at:behind] {
		t.Fatalf("at %d of %q stands %#v, whose MailText is %q, %#v", at, text, want, again, right)
	}
}

// TestReadMailOneByteTurned: every byte is made every other one, and read from every place.
func TestReadMailOneByteTurned(t *testing.T) {
	for _, m := range []impl.Mail{mailOf(7, 2, flagsOf(1, stampOf(1, 1)), "hi"), mailOf(9999, 128, flagsWithStamps(6, []impl.Stamp{stampOf(127, 0), stampOf(128, 1), stampOf(impl.MaxTime, 2)}), ""), mailOf(1, 1, flagsOf(0, impl.Stamp{}), strings.Repeat("\x01", 30))} {
		text := mailByWords(m)
		for place := range len(text) {
			for c := range 256 {
				turned := text[:place] + string([]byte{byte(c)}) + text[place+1:]
				for _, at := range []int{0, 1, 2, place, len(text)} {
					checksReadMail(t, turned, at)
					checksReadMail(t, turned+text, at)
				}
			}
		}
	}
}

// TestReadMailOfDrawnTexts: bytes that are mostly small make mails often enough.
func TestReadMailOfDrawnTexts(t *testing.T) {
	r := rand.New(rand.NewSource(5))
	mails := 0
	for range 30000 {
		bytes := make([]byte, r.Intn(40))
		for i := range bytes {
			bytes[i] = []byte{0, 1, 1, 1, 1, 2, byte(r.Intn(4)), byte(r.Intn(256))}[r.Intn(7+r.Intn(2))]
		}
		text := string(bytes)
		for at := -1; at <= len(text)+1; at++ {
			checksReadMail(t, text, at)
			if _, _, ok := readByWords(text, at); ok {
				mails++
			}
		}
	}
	if mails < 1000 {
		t.Errorf("only %d mails were drawn", mails)
	}
}

func TestDrawnMailsComeBack(t *testing.T) {
	r := rand.New(rand.NewSource(6))
	for range 20000 {
		var flags []impl.Reg
		for range impl.FlagCount {
			flags = append(flags, regOf(r.Intn(2), r.Intn(impl.MaxTime+1)>>r.Intn(17), r.Intn(3)))
		}
		m := mailOf(1+r.Intn(impl.MaxGid)>>r.Intn(13), 1+r.Intn(impl.MaxGid)>>r.Intn(13), flags, drawnText(r, r.Intn(impl.MaxText9+1)))
		text, ok := impl.MailText(m)
		if !ok || text != mailByWords(m) {
			t.Fatalf("MailText(%#v) = %q, %#v", m, text, ok)
		}
		ahead := drawnText(r, r.Intn(5))
		readsMail(t, ahead+text+drawnText(r, r.Intn(5)), len(ahead), m, len(ahead+text))
	}
}

func copyMail(m impl.Mail) impl.Mail {
	return mailOf(m.Gid, m.Uid, slices.Clone(m.Flags), strings.Clone(m.Text))
}

// roomyMail has marks behind its flags that nobody may touch.
func roomyMail(m impl.Mail) impl.Mail {
	return mailOf(m.Gid, m.Uid, withRoom(m.Flags), m.Text)
}

func TestMailsLeaveTheirArguments(t *testing.T) {
	list := append(rightMails(), wrongMails()...)
	for i, m := range list {
		a, b := roomyMail(m), roomyMail(list[(i+1)%len(list)])
		b.Gid = a.Gid + i%2
		wholeA, wholeB := slices.Clone(a.Flags[:cap(a.Flags)]), slices.Clone(b.Flags[:cap(b.Flags)])
		impl.MailOk(a)
		impl.SameMail(a, b)
		impl.JoinMail(a, b)
		impl.JoinMail(b, a)
		impl.MailText(a)
		if !slices.Equal(a.Flags[:cap(a.Flags)], wholeA) || !slices.Equal(b.Flags[:cap(b.Flags)], wholeB) {
			t.Fatalf("the flags of %#v were written into, or behind their end", m)
		}
	}
}

// TestJoinMailNewMemory: what is answered stays as it is when an argument is changed behind the call, and the other way round.
func TestJoinMailNewMemory(t *testing.T) {
	list := append(rightMails(), wrongMails()...)
	for i, m := range list {
		for _, gid := range []int{m.Gid, m.Gid ^ 1} {
			a, b := roomyMail(m), roomyMail(list[(i+7)%len(list)])
			b.Gid = gid
			answer := impl.JoinMail(a, b)
			kept := copyMail(answer)
			if sharesMemory(answer.Text, a.Text) || sharesMemory(answer.Text, b.Text) {
				t.Fatalf("JoinMail(%#v, %#v) shares its text with one of them", a, b)
			}
			spoil(a.Flags)
			spoil(b.Flags)
			if !likeMails(answer, kept) {
				t.Fatalf("%#v became %#v when the arguments were changed", kept, answer)
			}
			a, b = roomyMail(m), roomyMail(list[(i+7)%len(list)])
			b.Gid = gid
			wholeA, wholeB := slices.Clone(a.Flags[:cap(a.Flags)]), slices.Clone(b.Flags[:cap(b.Flags)])
			spoil(impl.JoinMail(a, b).Flags)
			if !slices.Equal(a.Flags[:cap(a.Flags)], wholeA) || !slices.Equal(b.Flags[:cap(b.Flags)], wholeB) {
				t.Fatalf("flags of %#v, %#v changed with the answer", a, b)
			}
		}
	}
}

func TestMailTextNewMemory(t *testing.T) {
	for _, m := range rightMails() {
		given := roomyMail(m)
		text, _ := impl.MailText(given)
		kept := strings.Clone(text)
		spoil(given.Flags)
		if text != kept || sharesMemory(text, given.Text) {
			t.Fatalf("MailText(%#v) keeps something of it", m)
		}
	}
}

func TestReadMailNewMemory(t *testing.T) {
	for _, m := range rightMails() {
		text := "ahead" + mailByWords(m) + "behind"
		first, _, _ := impl.ReadMail(text, 5)
		second, _, _ := impl.ReadMail(text, 5)
		if sharesMemory(first.Text, text) || sharesMemory(first.Text, second.Text) {
			t.Fatalf("ReadMail(%q, 5) shares its text", text)
		}
		spoil(first.Flags)
		if !likeMails(second, m) {
			t.Fatalf("of two answers %#v changed with the other one", second)
		}
	}
}

// TestMailsCallAgain: a reading that was given up leaves nothing for the next one.
func TestMailsCallAgain(t *testing.T) {
	for i, m := range rightMails() {
		text := mailByWords(m)
		refusesMail(t, text[:i%len(text)], 0)
		readsMail(t, text, 0, m, len(text))
		refusesMail(t, fmt.Sprintf("\x00%s", text), 0)
		readsMail(t, text, 0, m, len(text))
	}
}
