package tests

import (
	"cmp"
	"math"
	"math/rand"
	"slices"
	"strings"
	"testing"

	"loop.example/g00324/impl"
)

// twoBoxes are what both servers have of one box.
type twoBoxes struct {
	a, b impl.Box
}

func (p twoBoxes) turned() twoBoxes {
	return twoBoxes{p.b, p.a}
}

func goneByWords(a, b []int) []int {
	var list []int
	for _, n := range slices.Concat(a, b) {
		place := 0
		for place < len(list) && list[place] < n {
			place++
		}
		if place == len(list) || list[place] != n {
			list = slices.Insert(list, place, n)
		}
	}
	return list
}

func keepsByWords(a, b impl.Box, gid int) bool {
	i, j := placeByWords(a, gid), placeByWords(b, gid)
	switch {
	case i < 0:
		return false
	case j < 0:
		return a.Mails[i].Uid >= b.Next
	}
	return a.Mails[i].Uid == b.Mails[j].Uid
}

// mailsOfBoth are without new numbers yet, in no order that is told: of each Gid the first mail of each side.
func mailsOfBoth(a, b impl.Box) []impl.Mail {
	var list []impl.Mail
	for i, m := range a.Mails {
		if placeByWords(a, m.Gid) != i {
			continue
		}
		if j := placeByWords(b, m.Gid); j >= 0 {
			m = joinedByWords(m, b.Mails[j])
		}
		list = append(list, m)
	}
	for j, m := range b.Mails {
		if placeByWords(a, m.Gid) < 0 && placeByWords(b, m.Gid) == j {
			list = append(list, m)
		}
	}
	gone := slices.Concat(a.Gone, b.Gone)
	return slices.DeleteFunc(list, func(m impl.Mail) bool { return slices.Contains(gone, m.Gid) })
}

// insertMail puts it ahead of the first that is greater: by Uid, of like ones by Gid.
func insertMail(list []impl.Mail, m impl.Mail) []impl.Mail {
	place := 0
	for place < len(list) && (list[place].Uid < m.Uid || list[place].Uid == m.Uid && list[place].Gid <= m.Gid) {
		place++
	}
	return slices.Insert(list, place, m)
}

// joinMailsByWords answers how many were given new numbers, too.
func joinMailsByWords(a, b impl.Box) ([]impl.Mail, int) {
	var list, others []impl.Mail
	for _, m := range mailsOfBoth(a, b) {
		inA, inB := placeByWords(a, m.Gid) >= 0, placeByWords(b, m.Gid) >= 0
		if inA && !keepsByWords(a, b, m.Gid) || inB && !keepsByWords(b, a, m.Gid) {
			others = append(others, m)
		} else {
			list = insertMail(list, copyMail(m))
		}
	}
	slices.SortStableFunc(others, func(x, y impl.Mail) int { return cmp.Compare(x.Gid, y.Gid) })
	for i, m := range others {
		m.Uid = slices.Max([]int{a.Next, b.Next}) + i
		list = insertMail(list, copyMail(m))
	}
	return list, len(others)
}

func joinBoxByWords(a, b impl.Box) impl.Box {
	if a.Gid != b.Gid {
		return a
	}
	mails, given := joinMailsByWords(a, b)
	next := slices.Max([]int{a.Next, b.Next})
	out := impl.Box{Gid: a.Gid, Name: a.Name, Named: a.Named, Next: slices.Max([]int{next, next + given}), Mails: mails, Gone: goneByWords(a.Gone, b.Gone)}
	switch order := stampOrder(a.Named, b.Named); {
	case order < 0:
		out.Name, out.Named = b.Name, b.Named
	case order == 0:
		out.Name = slices.Max([]string{a.Name, b.Name})
	}
	return out
}

func likeMailLists(a, b []impl.Mail) bool {
	return slices.EqualFunc(a, b, likeMails)
}

// gidsAround: all that the two know, and some that they do not.
func gidsAround(a, b impl.Box) []int {
	list := slices.Concat(a.Gone, b.Gone, []int{0, -1, 1, 4321, 9999, 10000, a.Gid, b.Gid, a.Next, b.Next})
	for _, m := range slices.Concat(a.Mails, b.Mails) {
		list = append(list, m.Gid, m.Gid+1, m.Uid)
	}
	return list
}

// checksJoin holds all of the chapter against its words, of right boxes and of others.
func checksJoin(t *testing.T, a, b impl.Box) impl.Box {
	t.Helper()
	if got, want := impl.JoinGone(a.Gone, b.Gone), goneByWords(a.Gone, b.Gone); !slices.Equal(got, want) {
		t.Fatalf("JoinGone(%v, %v) = %v; want %v", a.Gone, b.Gone, got, want)
	}
	for _, gid := range gidsAround(a, b) {
		if got, want := impl.Holds(a, gid), placeByWords(a, gid) >= 0; got != want {
			t.Fatalf("Holds(%#v, %d) = %v; want %v", a, gid, got, want)
		}
		if got, want := impl.KeepsUid(a, b, gid), keepsByWords(a, b, gid); got != want {
			t.Fatalf("KeepsUid(%#v, %#v, %d) = %v; want %v", a, b, gid, got, want)
		}
	}
	mails, _ := joinMailsByWords(a, b)
	if got := impl.JoinMails(a, b); !likeMailLists(got, mails) {
		t.Fatalf("JoinMails(%#v, %#v) = %#v; want %#v", a, b, got, mails)
	}
	box, want := impl.JoinBox(a, b), joinBoxByWords(a, b)
	if !likeBoxes(box, want) {
		t.Fatalf("JoinBox(%#v, %#v) = %#v; want %#v", a, b, box, want)
	}
	if got, want := impl.FitsBox(a, b), boxOkByWords(want); got != want {
		t.Fatalf("FitsBox(%#v, %#v) = %v; want %v", a, b, got, want)
	}
	return box
}

// checksNumbers: what stays means what it meant, what is new is new; asked of the numbers alone, not of how they come about.
func checksNumbers(t *testing.T, p twoBoxes, joined impl.Box) {
	t.Helper()
	greater := max(p.a.Next, p.b.Next)
	var given []impl.Mail
	for i, m := range joined.Mails {
		if i > 0 && joined.Mails[i-1].Uid >= m.Uid {
			t.Fatalf("%#v do not ascend", joined.Mails)
		}
		kept := true
		for _, side := range []impl.Box{p.a, p.b} {
			there := placeByWords(side, m.Gid)
			if m.Uid < side.Next && (there < 0 || side.Mails[there].Uid != m.Uid) {
				t.Fatalf("Uid %d is of mail %d, and was not in %#v", m.Uid, m.Gid, side)
			}
			kept = kept && (there < 0 || side.Mails[there].Uid == m.Uid)
		}
		if !kept {
			given = append(given, m)
		}
	}
	for i, m := range given {
		if m.Uid != greater+i || i > 0 && given[i-1].Gid >= m.Gid {
			t.Fatalf("%#v are given new numbers from %d on", given, greater)
		}
	}
	if joined.Next != greater+len(given) {
		t.Fatalf("Next is %d; %d new from %d on", joined.Next, len(given), greater)
	}
}

// checksMailsOfBoth: each mail of either box is there once, unless it is Gone, and no other.
func checksMailsOfBoth(t *testing.T, p twoBoxes, joined impl.Box) {
	t.Helper()
	var want []int
	for _, m := range slices.Concat(p.a.Mails, p.b.Mails) {
		if !slices.Contains(p.a.Gone, m.Gid) && !slices.Contains(p.b.Gone, m.Gid) {
			want = append(want, m.Gid)
		}
	}
	var got []int
	for _, m := range joined.Mails {
		got = append(got, m.Gid)
	}
	slices.Sort(want)
	slices.Sort(got)
	if !slices.Equal(got, slices.Compact(want)) {
		t.Fatalf("of %#v and %#v come mails %v; want %v", p.a, p.b, got, want)
	}
}

// firstsAlone is the box without the mails that have a Gid that one ahead of them has.
func firstsAlone(b impl.Box) impl.Box {
	out := copyBox(b)
	out.Mails = nil
	for i, m := range b.Mails {
		if placeByWords(b, m.Gid) == i {
			out.Mails = append(out.Mails, copyMail(m))
		}
	}
	return out
}

// checksBothWays is for any two boxes of one Gid, right or not: they come to one, and no Gid is there twice.
func checksBothWays(t *testing.T, p twoBoxes) impl.Box {
	t.Helper()
	joined, turned := checksJoin(t, p.a, p.b), checksJoin(t, p.b, p.a)
	if !likeBoxes(joined, turned) {
		t.Fatalf("JoinBox(%#v, %#v) = %#v; the other way round %#v", p.a, p.b, joined, turned)
	}
	if !likeMailLists(impl.JoinMails(p.a, p.b), impl.JoinMails(p.b, p.a)) || impl.FitsBox(p.a, p.b) != impl.FitsBox(p.b, p.a) {
		t.Fatalf("JoinMails or FitsBox of %#v and %#v hangs on which is first", p.a, p.b)
	}
	if !likeBoxes(joined, firstsAlone(joined)) {
		t.Fatalf("JoinBox(%#v, %#v) = %#v: a Gid is there twice", p.a, p.b, joined)
	}
	if alone := impl.JoinBox(firstsAlone(p.a), firstsAlone(p.b)); !likeBoxes(joined, alone) {
		t.Fatalf("JoinBox(%#v, %#v) = %#v; of their first mails alone %#v", p.a, p.b, joined, alone)
	}
	return joined
}

// checksRightBoxes is for two right boxes of one Gid: all that promise 8 asks of them.
func checksRightBoxes(t *testing.T, p twoBoxes) impl.Box {
	t.Helper()
	if !boxOkByWords(p.a) || !boxOkByWords(p.b) || p.a.Gid != p.b.Gid {
		t.Fatalf("%#v and %#v are not two right boxes of one Gid", p.a, p.b)
	}
	joined := checksBothWays(t, p)
	checksNumbers(t, p, joined)
	checksMailsOfBoth(t, p, joined)
	if again := checksJoin(t, joined, joined); !likeBoxes(again, joined) {
		t.Fatalf("%#v joined with itself is %#v", joined, again)
	}
	return joined
}

func put(gid int) boxCall {
	return boxCall{"AddMail", gid, gid % 8, strings.Repeat("t", gid%60), stampOf(gid%90, 1+gid%2)}
}

func take(gid int) boxCall {
	return boxCall{"TakeOut", gid, 0, "", impl.Stamp{}}
}

func flag(gid, n, time, by int) boxCall {
	return boxCall{"FlagMail", gid, n, "", stampOf(time, by)}
}

// after is the box behind calls that are all done.
func after(t *testing.T, b impl.Box, calls ...boxCall) impl.Box {
	t.Helper()
	for _, c := range calls {
		next, ok := c.byWords(b)
		if !ok {
			t.Fatalf("%#v is refused by %#v", c, b)
		}
		b = next
	}
	return b
}

// oneBox has the mails 40, 20 and 60, with the Uids 1, 2 and 3.
func oneBox(t *testing.T) impl.Box {
	t.Helper()
	return after(t, boxOf(1, nil, nil), put(40), put(20), put(60))
}

// numbersOf: Gid and Uid of each mail.
func numbersOf(list []impl.Mail) [][2]int {
	var out [][2]int
	for _, m := range list {
		out = append(out, [2]int{m.Gid, m.Uid})
	}
	return out
}

func TestJoinGone(t *testing.T) {
	for _, c := range []struct{ a, b, want []int }{
		{nil, nil, nil},
		{[]int{}, nil, nil},
		{[]int{5}, nil, []int{5}},
		{[]int{1, 5, 9}, []int{}, []int{1, 5, 9}},
		{[]int{1, 5, 9}, []int{1, 5, 9}, []int{1, 5, 9}},
		{[]int{1, 5, 9}, []int{5}, []int{1, 5, 9}},
		{[]int{1, 5, 9}, []int{1, 9}, []int{1, 5, 9}},
		{[]int{1, 2, 3}, []int{4, 5, 6}, []int{1, 2, 3, 4, 5, 6}},
		{[]int{1, 3, 5}, []int{2, 4, 6}, []int{1, 2, 3, 4, 5, 6}},
		{[]int{1, 9999}, []int{5000}, []int{1, 5000, 9999}},
		{[]int{9, 5, 1}, nil, []int{1, 5, 9}},
		{[]int{9, 5, 1}, []int{1, 9, 5}, []int{1, 5, 9}},
		{[]int{5, 5, 5}, nil, []int{5}},
		{[]int{5, 5}, []int{5, 5, 5}, []int{5}},
		{[]int{7, 3, 7, 3}, []int{4, 4, 1}, []int{1, 3, 4, 7}},
		{[]int{0, -1, 10000}, []int{math.MaxInt, math.MinInt, 0}, []int{math.MinInt, -1, 0, 10000, math.MaxInt}},
		{numbersFrom(1, 40), numbersFrom(1, 40), numbersFrom(1, 40)},
		{numbersFrom(1, 40), numbersFrom(41, 40), numbersFrom(1, 80)},
		{numbersFrom(1, 40), numbersFrom(21, 40), numbersFrom(1, 60)},
	} {
		for _, got := range [][]int{impl.JoinGone(c.a, c.b), impl.JoinGone(c.b, c.a)} {
			if !slices.Equal(got, c.want) {
				t.Errorf("JoinGone of %v and %v = %v; want %v", c.a, c.b, got, c.want)
			}
		}
	}
}

func TestJoinGoneDrawn(t *testing.T) {
	r := rand.New(rand.NewSource(8))
	for range 3000 {
		var lists [2][]int
		for i := range lists {
			for range r.Intn(12) {
				lists[i] = append(lists[i], r.Intn(30)-3)
			}
		}
		want := goneByWords(lists[0], lists[1])
		if got := impl.JoinGone(lists[0], lists[1]); !slices.Equal(got, want) {
			t.Fatalf("JoinGone(%v, %v) = %v; want %v", lists[0], lists[1], got, want)
		}
	}
}

func TestJoinGoneOfLongLists(t *testing.T) {
	var even, odd []int
	for i := range 60000 {
		even, odd = append(even, 120000-2*i), append(odd, 2*i+1)
	}
	if got := impl.JoinGone(even, append(odd, even...)); !slices.Equal(got, numbersFrom(1, 120000)) {
		t.Errorf("JoinGone of long lists has %d", len(got))
	}
}

func TestJoinGoneMemory(t *testing.T) {
	lists := [][]int{nil, {5}, {1, 5, 9}, {9, 5, 5, 1}, numbersFrom(3, 40)}
	for _, x := range lists {
		for _, y := range lists {
			a, b := roomyNumbers(x), roomyNumbers(y)
			wholeA, wholeB := slices.Clone(a[:cap(a)]), slices.Clone(b[:cap(b)])
			got := impl.JoinGone(a, b)
			kept := slices.Clone(got)
			if !slices.Equal(a[:cap(a)], wholeA) || !slices.Equal(b[:cap(b)], wholeB) {
				t.Fatalf("JoinGone(%v, %v) wrote into an argument", x, y)
			}
			spoilNumbers(a)
			spoilNumbers(b)
			if !slices.Equal(got, kept) {
				t.Fatalf("JoinGone(%v, %v) changed with an argument", x, y)
			}
			a, b = roomyNumbers(x), roomyNumbers(y)
			spoilNumbers(impl.JoinGone(a, b))
			if !slices.Equal(a[:cap(a)], wholeA) || !slices.Equal(b[:cap(b)], wholeB) {
				t.Fatalf("JoinGone(%v, %v): an argument changed with the answer", x, y)
			}
		}
	}
}

func TestHolds(t *testing.T) {
	for _, b := range append(rightBoxes(), wrongBoxes()...) {
		for _, gid := range slices.Concat(gidsAround(b, b), wrongIds(), rightIds()) {
			if got, want := impl.Holds(b, gid), placeByWords(b, gid) >= 0; got != want {
				t.Fatalf("Holds(%#v, %d) = %v", b, gid, got)
			}
		}
	}
	b := boxOf(9, []impl.Mail{someMail(7, 1), someMail(0, 2), someMail(-3, 8)}, []int{7, 20})
	for gid, want := range map[int]bool{7: true, 0: true, -3: true, 20: false, 1: false, 5: false, 8: false, 9: false} {
		if impl.Holds(b, gid) != want {
			t.Errorf("Holds of %d = %v", gid, !want)
		}
	}
}

func TestKeepsUid(t *testing.T) {
	with := func(next int, mails ...impl.Mail) impl.Box { return boxOf(next, mails, []int{3}) }
	a := with(30, someMail(7, 20))
	for _, c := range []struct {
		b    impl.Box
		gid  int
		want bool
	}{
		{with(30, someMail(7, 20)), 7, true},
		{with(21, someMail(7, 20)), 7, true},
		{with(9999, someMail(8, 2), someMail(7, 20), someMail(9, 21)), 7, true},
		{with(30, someMail(7, 19)), 7, false},
		{with(30, someMail(7, 21)), 7, false},
		{with(10, someMail(7, 9)), 7, false},
		{with(30), 7, false},
		{with(21), 7, false},
		{with(20), 7, true},
		{with(19), 7, true},
		{with(1), 7, true},
		{with(21, someMail(8, 20)), 7, false},
		{with(20, someMail(8, 19)), 7, true},
		{with(20, someMail(8, 20)), 7, true},
		{boxOf(21, nil, []int{7}), 7, false},
		{boxOf(20, nil, []int{7}), 7, true},
		{with(1, someMail(8, 20)), 8, false},
		{with(1, someMail(7, 20)), 3, false},
		{with(1), 0, false},
		{with(-5), 20, false},
		{impl.Box{}, 7, true},
	} {
		if got := impl.KeepsUid(a, c.b, c.gid); got != c.want {
			t.Errorf("KeepsUid(%#v, %#v, %d) = %v", a, c.b, c.gid, got)
		}
	}
}

// TestKeepsUidOfUnlikeBoxes: nothing but mails and Next is looked at.
func TestKeepsUidOfUnlikeBoxes(t *testing.T) {
	a, b := boxOf(9, []impl.Mail{someMail(7, 4), someMail(8, 6)}, nil), boxOf(5, []impl.Mail{someMail(7, 4)}, nil)
	for _, w := range append(wrongBoxes(), rightBoxes()...) {
		x, y := copyBox(a), copyBox(b)
		x.Gid, x.Name, x.Named, x.Gone = w.Gid, w.Name, w.Named, w.Gone
		if !impl.KeepsUid(x, y, 7) || !impl.KeepsUid(y, x, 7) || !impl.KeepsUid(x, y, 8) || impl.KeepsUid(y, x, 8) {
			t.Errorf("KeepsUid looks at %#v", x)
		}
	}
	twice := boxOf(9, []impl.Mail{someMail(7, 3), someMail(7, 4)}, nil)
	if impl.KeepsUid(twice, b, 7) || impl.KeepsUid(b, twice, 7) || !impl.KeepsUid(twice, twice, 7) {
		t.Error("KeepsUid of two mails of one Gid does not go by the first")
	}
}

// TestBoxesThatWentApart: each with its numbers written out.
func TestBoxesThatWentApart(t *testing.T) {
	type uids = [][2]int
	for _, c := range []struct {
		name string
		a, b []boxCall
		want uids
		next int
		gone []int
	}{
		{"nothing was done", nil, nil, uids{{40, 1}, {20, 2}, {60, 3}}, 4, nil},
		{"one has one more", []boxCall{put(70)}, nil, uids{{40, 1}, {20, 2}, {60, 3}, {70, 4}}, 5, nil},
		{"one has some more", []boxCall{put(70), put(10), put(30)}, nil, uids{{40, 1}, {20, 2}, {60, 3}, {70, 4}, {10, 5}, {30, 6}}, 7, nil},
		{"one number for two mails", []boxCall{put(70)}, []boxCall{put(10)}, uids{{40, 1}, {20, 2}, {60, 3}, {10, 5}, {70, 6}}, 7, nil},
		{"one went further", []boxCall{put(70), put(80)}, []boxCall{put(10)}, uids{{40, 1}, {20, 2}, {60, 3}, {80, 5}, {10, 6}, {70, 7}}, 8, nil},
		{"one went far", []boxCall{put(70), put(80), put(50), put(15)}, []boxCall{put(10), put(90)}, uids{{40, 1}, {20, 2}, {60, 3}, {50, 6}, {15, 7}, {10, 8}, {70, 9}, {80, 10}, {90, 11}}, 12, nil},
		{"the same mail on both", []boxCall{put(70)}, []boxCall{put(70)}, uids{{40, 1}, {20, 2}, {60, 3}, {70, 4}}, 5, nil},
		{"the same mails in another order", []boxCall{put(80), put(70)}, []boxCall{put(70), put(80)}, uids{{40, 1}, {20, 2}, {60, 3}, {70, 6}, {80, 7}}, 8, nil},
		{"the same mail with unlike numbers", []boxCall{put(70)}, []boxCall{put(10), put(70)}, uids{{40, 1}, {20, 2}, {60, 3}, {10, 6}, {70, 7}}, 8, nil},
		{"taken out of one", []boxCall{take(20)}, nil, uids{{40, 1}, {60, 3}}, 4, []int{20}},
		{"taken out of both", []boxCall{take(20)}, []boxCall{take(20)}, uids{{40, 1}, {60, 3}}, 4, []int{20}},
		{"each took out another", []boxCall{take(20)}, []boxCall{take(40)}, uids{{60, 3}}, 4, []int{20, 40}},
		{"taken out and flagged", []boxCall{take(20)}, []boxCall{flag(20, 7, 99, 2)}, uids{{40, 1}, {60, 3}}, 4, []int{20}},
		{"put in and taken out again", []boxCall{put(70), take(70)}, nil, uids{{40, 1}, {20, 2}, {60, 3}}, 5, []int{70}},
		{"a number that was taken", []boxCall{put(70), take(70)}, []boxCall{put(10)}, uids{{40, 1}, {20, 2}, {60, 3}, {10, 5}}, 6, []int{70}},
		{"put in on both, taken out of one", []boxCall{put(70), take(70)}, []boxCall{put(70)}, uids{{40, 1}, {20, 2}, {60, 3}}, 5, []int{70}},
		{"all taken out", []boxCall{take(20), take(40), take(60)}, []boxCall{put(5)}, uids{{5, 4}}, 5, []int{20, 40, 60}},
		{"all but the new one", []boxCall{take(20), put(9), take(60)}, []boxCall{take(40), put(5)}, uids{{5, 5}, {9, 6}}, 7, []int{20, 40, 60}},
	} {
		p := twoBoxes{after(t, oneBox(t), c.a...), after(t, oneBox(t), c.b...)}
		for _, p := range []twoBoxes{p, p.turned()} {
			got := checksRightBoxes(t, p)
			if !slices.Equal(numbersOf(got.Mails), c.want) || got.Next != c.next || !slices.Equal(got.Gone, c.gone) || !impl.FitsBox(p.a, p.b) {
				t.Errorf("%s: %v, Next %d, Gone %v", c.name, numbersOf(got.Mails), got.Next, got.Gone)
			}
		}
	}
}

// TestMailsOfBothAreJoined: flags of both, the greater text; a mail of one side as that side has it.
func TestMailsOfBothAreJoined(t *testing.T) {
	a := after(t, oneBox(t), flag(40, 7, 91, 1), flag(20, 1, 92, 2), put(70))
	b := after(t, oneBox(t), flag(40, 0, 95, 2), flag(20, 6, 91, 1), flag(60, 5, 93, 1))
	a.Mails[2].Text, b.Mails[2].Text = "aa", "b"
	for _, p := range []twoBoxes{{a, b}, {b, a}} {
		got := checksRightBoxes(t, p)
		for place := range 3 {
			if want := joinedByWords(a.Mails[place], b.Mails[place]); !likeMails(got.Mails[place], want) {
				t.Errorf("mail %d is %#v; want %#v", place, got.Mails[place], want)
			}
		}
		if !likeMails(got.Mails[3], a.Mails[3]) || got.Mails[2].Text != "b" {
			t.Errorf("of texts and mails of one side comes %#v", got.Mails)
		}
		// A mail that both have, with unlike numbers, is joined as well.
		if m := impl.JoinMails(boxOf(9, []impl.Mail{a.Mails[0]}, nil), boxOf(9, []impl.Mail{withUid(b.Mails[0], 5)}, nil))[0]; !likeMails(m, withUid(joinedByWords(a.Mails[0], b.Mails[0]), 9)) {
			t.Errorf("with unlike numbers: %#v", m)
		}
	}
}

func withUid(m impl.Mail, uid int) impl.Mail {
	m.Uid = uid
	return m
}

// TestNamesOfBoth: that which was given later; of like stamps the greater one.
func TestNamesOfBoth(t *testing.T) {
	named := func(name string, s impl.Stamp) impl.Box {
		return withField(oneBox(t), func(b *impl.Box) { b.Name, b.Named = name, s })
	}
	for _, c := range []struct {
		a, b impl.Box
		want string
		by   impl.Stamp
	}{
		{named("inbox", stampOf(1, 1)), named("inbox", stampOf(1, 1)), "inbox", stampOf(1, 1)},
		{named("zebra", stampOf(1, 1)), named("ant", stampOf(2, 1)), "ant", stampOf(2, 1)},
		{named("ant", stampOf(1, 1)), named("zebra", stampOf(2, 1)), "zebra", stampOf(2, 1)},
		{named("zebra", stampOf(2, 1)), named("ant", stampOf(2, 2)), "ant", stampOf(2, 2)},
		{named("zebra", stampOf(2, 2)), named("ant", stampOf(3, 0)), "ant", stampOf(3, 0)},
		{named("ant", stampOf(2, 1)), named("zebra", stampOf(2, 1)), "zebra", stampOf(2, 1)},
		{named("ant", stampOf(2, 1)), named("ants", stampOf(2, 1)), "ants", stampOf(2, 1)},
		{named("9", stampOf(2, 1)), named("a", stampOf(2, 1)), "a", stampOf(2, 1)},
		{named("ab", stampOf(2, 1)), named("b", stampOf(2, 1)), "b", stampOf(2, 1)},
		{named("same", stampOf(7, 2)), named("same", stampOf(7, 1)), "same", stampOf(7, 2)},
		{named("first", stampOf(0, 0)), named("last", stampOf(impl.MaxTime, 2)), "last", stampOf(impl.MaxTime, 2)},
	} {
		for _, p := range []twoBoxes{{c.a, c.b}, {c.b, c.a}} {
			if got := checksRightBoxes(t, p); got.Name != c.want || got.Named != c.by {
				t.Errorf("of %q %v and %q %v comes %q %v", p.a.Name, p.a.Named, p.b.Name, p.b.Named, got.Name, got.Named)
			}
		}
	}
}

// TestNamesThatAreNotRight: the later one counts, right or not.
func TestNamesThatAreNotRight(t *testing.T) {
	names := []string{"", "inbox", "In Box", "\xff\x00", strings.Repeat("a", 50)}
	for _, s := range stampsAround() {
		for _, other := range []impl.Stamp{{}, stampOf(7, 1), stampOf(-1, 5), stampOf(impl.MaxTime, 2)} {
			for i, name := range names {
				a, b := oneBox(t), oneBox(t)
				a.Name, a.Named, b.Name, b.Named = name, s, names[(i+2)%5], other
				checksJoin(t, a, b)
				checksJoin(t, b, a)
			}
		}
	}
}

// TestJoinedAgain: what came to one, with either side again and with itself.
func TestJoinedAgain(t *testing.T) {
	a := after(t, oneBox(t), put(70), put(80), take(20), flag(40, 7, 91, 1))
	b := after(t, oneBox(t), put(10), flag(60, 5, 92, 2), put(70))
	joined := checksRightBoxes(t, twoBoxes{a, b})
	if !slices.Equal(numbersOf(joined.Mails), [][2]int{{40, 1}, {60, 3}, {10, 6}, {70, 7}, {80, 8}}) || joined.Next != 9 {
		t.Fatalf("%v, Next %d", numbersOf(joined.Mails), joined.Next)
	}
	for _, c := range []struct {
		side impl.Box
		want [][2]int
		next int
	}{
		// What a side still has with its own number has two numbers then: neither stays.
		{a, [][2]int{{40, 1}, {60, 3}, {10, 6}, {70, 9}, {80, 10}}, 11},
		{b, [][2]int{{40, 1}, {60, 3}, {80, 8}, {10, 9}, {70, 10}}, 11},
		{joined, [][2]int{{40, 1}, {60, 3}, {10, 6}, {70, 7}, {80, 8}}, 9},
	} {
		for _, p := range []twoBoxes{{joined, c.side}, {c.side, joined}} {
			got := checksRightBoxes(t, p)
			if !slices.Equal(numbersOf(got.Mails), c.want) || got.Next != c.next || !slices.Equal(got.Gone, []int{20}) {
				t.Errorf("joined again: %v, Next %d, Gone %v", numbersOf(got.Mails), got.Next, got.Gone)
			}
		}
	}
}

func TestRightBoxesWithThemselves(t *testing.T) {
	for _, b := range rightBoxes() {
		if got := checksRightBoxes(t, twoBoxes{b, b}); !likeBoxes(got, b) {
			t.Errorf("%#v with itself is %#v", b, got)
		}
		if got := checksRightBoxes(t, twoBoxes{b, withField(b, func(b *impl.Box) { b.Mails, b.Gone, b.Next = nil, nil, 1 })}); !likeBoxes(got, b) {
			t.Errorf("%#v with nothing is %#v", b, got)
		}
	}
}

// TestRightBoxesWithEachOther: Gids of mails of one are Gone in another, Uids are above and below.
func TestRightBoxesWithEachOther(t *testing.T) {
	list := rightBoxes()
	for i, a := range list {
		for j := i % 3; j < len(list); j += 3 {
			b := copyBox(list[j])
			b.Gid = a.Gid
			checksRightBoxes(t, twoBoxes{a, b})
		}
	}
}

// TestNewNumbersAtTheEnd: the last that a box has, and those past it.
func TestNewNumbersAtTheEnd(t *testing.T) {
	for next := 9990; next <= 9999; next++ {
		base := boxOf(next, []impl.Mail{someMail(40, 1)}, nil)
		both := twoBoxes{after(t, base, put(70)), after(t, base, put(10))}
		got := checksRightBoxes(t, both)
		if got.Next != next+3 || impl.FitsBox(both.a, both.b) != (next <= 9997) {
			t.Errorf("two new from %d on: Next %d, %v", next+1, got.Next, impl.FitsBox(both.a, both.b))
		}
		one := twoBoxes{after(t, base, put(70)), after(t, base, put(10), take(10))}
		got = checksRightBoxes(t, one)
		if got.Mails[1].Uid != next+1 || got.Next != next+2 || impl.FitsBox(one.a, one.b) != (next <= 9998) {
			t.Errorf("one new from %d on: Next %d, %v", next+1, got.Next, impl.FitsBox(one.a, one.b))
		}
		none := twoBoxes{after(t, base, put(70)), base}
		got = checksRightBoxes(t, none)
		if got.Mails[1].Uid != next || got.Next != next+1 || !impl.FitsBox(none.a, none.b) {
			t.Errorf("no new one: Next %d", got.Next)
		}
	}
}

// TestNextsThatAreNotRight: from the greater one on, whatever it is.
func TestNextsThatAreNotRight(t *testing.T) {
	nexts := []int{math.MinInt, math.MinInt + 1, -7, -1, 0, 1, 2, 5, 10000, 10001, math.MaxInt - 2, math.MaxInt - 1, math.MaxInt}
	for _, x := range nexts {
		for _, y := range nexts {
			a, b := oneBox(t), oneBox(t)
			a.Mails = append(a.Mails, someMail(70, 4), someMail(75, 6))
			b.Mails = append(b.Mails, someMail(75, 4), someMail(10, 5))
			a.Next, b.Next = x, y
			got := checksJoin(t, a, b)
			turned := checksJoin(t, b, a)
			if !likeBoxes(got, turned) || got.Next < x || got.Next < y || impl.FitsBox(a, b) != boxOkByWords(got) {
				t.Errorf("of Next %d and %d comes %#v", x, y, got)
			}
		}
	}
}

// fullBoxes have mails of their own, and as many that both have.
func fullBoxes(both, a, b int) twoBoxes {
	common := someBox(both, 0)
	p := twoBoxes{copyBox(common), copyBox(common)}
	for i := range a {
		p.a.Mails = append(p.a.Mails, someMail(600+i, p.a.Next))
		p.a.Next++
	}
	for i := range b {
		p.b.Mails = append(p.b.Mails, someMail(500+i, p.b.Next))
		p.b.Next++
	}
	return p
}

func TestMailsOfBothTogether(t *testing.T) {
	for both := range 11 {
		for a := range 11 - both {
			for b := range 11 - both {
				p := fullBoxes(both, a, b)
				got := checksRightBoxes(t, p)
				if fits := impl.FitsBox(p.a, p.b); len(got.Mails) != both+a+b || fits != (both+a+b <= 10) {
					t.Errorf("%d of both, %d and %d: %d mails, %v", both, a, b, len(got.Mails), fits)
				}
			}
		}
	}
	// What is Gone in one makes room.
	p := fullBoxes(4, 6, 1)
	p.b.Mails = p.b.Mails[1:]
	p.b.Gone = []int{p.a.Mails[0].Gid}
	if got := checksRightBoxes(t, p); len(got.Mails) != 10 || !impl.FitsBox(p.a, p.b) {
		t.Errorf("with one Gone: %d mails", len(got.Mails))
	}
}

func TestGoneOfBothTogether(t *testing.T) {
	for a := range 41 {
		for _, b := range []int{0, 1, 39 - a, 40 - a, 41 - a, 40} {
			if b < 0 || b > 40 {
				continue
			}
			for _, common := range []int{0, min(a, b), min(a, b) / 2} {
				p := twoBoxes{boxOf(3, nil, numbersFrom(100, a)), boxOf(4, nil, numbersFrom(100+a-common, b))}
				got := checksRightBoxes(t, p)
				if fits := impl.FitsBox(p.a, p.b); len(got.Gone) != a+b-common || fits != (a+b-common <= 40) {
					t.Errorf("%d and %d, %d of both: %d Gone, %v", a, b, common, len(got.Gone), fits)
				}
			}
		}
	}
}

// TestBoxesOfUnlikeGids: the first as it is, every field, right or not.
func TestBoxesOfUnlikeGids(t *testing.T) {
	list := append(rightBoxes(), wrongBoxes()...)
	for i, a := range list {
		for _, step := range []int{1, -1, 5000} {
			b := copyBox(list[(i*7+3)%len(list)])
			b.Gid = a.Gid + step
			kept := copyBox(a)
			if got := impl.JoinBox(a, b); !likeBoxes(got, kept) {
				t.Fatalf("JoinBox(%#v, %#v) = %#v", a, b, got)
			}
			if got := impl.FitsBox(a, b); got != boxOkByWords(kept) {
				t.Fatalf("FitsBox(%#v, %#v) = %v", a, b, got)
			}
			like := copyBox(b)
			like.Gid = a.Gid
			if got, want := impl.JoinMails(a, b), impl.JoinMails(a, like); !likeMailLists(got, want) {
				t.Fatalf("JoinMails looks at the boxes' Gids: %#v; want %#v", got, want)
			}
		}
	}
}

// TestJoinsOfBoxesThatAreNotRight: what the words give of them, with right boxes, with themselves and with each other.
func TestJoinsOfBoxesThatAreNotRight(t *testing.T) {
	wrong := wrongBoxes()
	for i, w := range wrong {
		for _, other := range []impl.Box{someBox(4, 3), someBox(2, 0), boxOf(40, mailsFrom(20, 3), []int{101, 500}), boxOf(1, nil, nil), w, wrong[(i+1)%len(wrong)], wrong[(i*5+2)%len(wrong)]} {
			other.Gid = w.Gid
			checksBothWays(t, twoBoxes{w, other})
		}
	}
}

// told: a mail of this Gid and Uid, with seen set or not, and a text.
func told(gid, uid, seen int, text string) impl.Mail {
	return mailOf(gid, uid, flagsOf(seen, stampOf(uid, 1)), text)
}

// TestGidsThatAreThereTwice: of a Gid that a box has more than once its first mail counts, with all that it has.
func TestGidsThatAreThereTwice(t *testing.T) {
	with := func(next int, mails ...impl.Mail) impl.Box { return boxOf(next, mails, nil) }
	gone := func(next int, gids []int, mails ...impl.Mail) impl.Box { return boxOf(next, mails, gids) }
	first, second, third := told(7, 2, 1, "first"), told(7, 3, 0, "second"), told(7, 5, 1, "third")
	other := told(9, 4, 0, "other")
	twice, thrice := with(6, first, second), with(6, first, second, other, third)
	for _, c := range []struct {
		name string
		a, b impl.Box
		want []impl.Mail
		next int
	}{
		{"twice in one, kept", twice, with(1), []impl.Mail{first}, 6},
		{"twice in one, kept by Next", twice, with(2), []impl.Mail{first}, 6},
		{"twice in one, its second alone would be kept", twice, with(3), []impl.Mail{withUid(first, 6)}, 7},
		{"twice in one, not kept", twice, with(9), []impl.Mail{withUid(first, 9)}, 10},
		{"three times in one, kept", thrice, with(1), []impl.Mail{first, other}, 6},
		{"three times in one, not kept", thrice, with(9), []impl.Mail{withUid(first, 9), withUid(other, 10)}, 11},
		{"three times in one, another kept", thrice, with(3), []impl.Mail{other, withUid(first, 6)}, 7},
		{"twice with one Uid", with(6, first, withUid(second, 2)), with(1), []impl.Mail{first}, 6},
		{"twice, the first with the greater Uid", with(6, third, first), with(1), []impl.Mail{third}, 6},
		{"twice in one, once in the other", twice, with(6, first), []impl.Mail{first}, 6},
		{"the other has the Uid of the second", twice, with(6, second), []impl.Mail{withUid(joinedByWords(first, second), 6)}, 7},
		{"the other has the Uid of the first", twice, with(6, withUid(third, 2)), []impl.Mail{joinedByWords(first, withUid(third, 2))}, 6},
		{"three times in one, once in the other", thrice, with(6, first, told(8, 3, 0, "more")), []impl.Mail{first, withUid(told(8, 3, 0, "more"), 6), withUid(other, 7)}, 8},
		{"twice in both, alike", twice, twice, []impl.Mail{first}, 6},
		{"twice in both, turned", twice, with(6, second, first), []impl.Mail{withUid(joinedByWords(first, second), 6)}, 7},
		{"twice in both, like firsts", twice, with(8, first, third), []impl.Mail{first}, 8},
		{"twice in both, like seconds", twice, with(8, third, second), []impl.Mail{withUid(joinedByWords(first, third), 8)}, 9},
		{"twice in one, three times in the other", twice, thrice, []impl.Mail{first, withUid(other, 6)}, 7},
		{"three times in both", thrice, thrice, []impl.Mail{first, other}, 6},
		{"three times in both, turned", thrice, with(6, third, second, other, first), []impl.Mail{other, withUid(joinedByWords(first, third), 6)}, 7},
		{"two Gids twice", with(6, first, other, second, withUid(other, 5)), with(1), []impl.Mail{first, other}, 6},
		{"each twice in one", with(6, first, second), with(6, other, withUid(other, 5)), []impl.Mail{withUid(first, 6), withUid(other, 7)}, 8},
		{"twice, Gone in the other", twice, gone(1, []int{7}), nil, 6},
		{"twice, Gone in its own", gone(6, []int{7}, first, second), with(1), nil, 6},
		{"three times, Gone in the other", thrice, gone(9, []int{7}), []impl.Mail{withUid(other, 9)}, 10},
		{"twice in both, Gone in one", twice, gone(6, []int{7}, first, third), nil, 6},
		{"twice, another is Gone", thrice, gone(6, []int{9}, first, second), []impl.Mail{first}, 6},
	} {
		got := checksBothWays(t, twoBoxes{c.a, c.b})
		if !likeMailLists(got.Mails, c.want) || got.Next != c.next {
			t.Errorf("%s: %#v, Next %d; want %#v, Next %d", c.name, got.Mails, got.Next, c.want, c.next)
		}
		for _, p := range []twoBoxes{{c.a, c.b}, {c.b, c.a}} {
			if !likeMailLists(impl.JoinMails(p.a, p.b), c.want) || !impl.FitsBox(p.a, p.b) {
				t.Errorf("%s: JoinMails has %#v, FitsBox is %v", c.name, impl.JoinMails(p.a, p.b), impl.FitsBox(p.a, p.b))
			}
		}
	}
}

// TestGidsThatAreThereOften: as many mails of one Gid as there may be, they are one; what is told of them at the limits.
func TestGidsThatAreThereOften(t *testing.T) {
	for often := 1; often <= 30; often++ {
		a, b := someBox(9, 0), someBox(9, 0)
		for i := range often {
			a.Mails = append(a.Mails, someMail(600, a.Next+i))
			b.Mails = slices.Insert(b.Mails, 0, someMail(b.Mails[0].Gid, 1))
		}
		a.Next += often
		got := checksBothWays(t, twoBoxes{a, b})
		if len(got.Mails) != 10 || got.Next != a.Next || !impl.FitsBox(a, b) || !impl.FitsBox(b, a) {
			t.Errorf("%d times: %d mails, Next %d", often, len(got.Mails), got.Next)
		}
		b.Mails = append(b.Mails, someMail(601, b.Next), someMail(601, b.Next))
		b.Next++
		got = checksBothWays(t, twoBoxes{a, b})
		if len(got.Mails) != 11 || impl.FitsBox(a, b) || impl.FitsBox(b, a) {
			t.Errorf("%d times and one more: %d mails", often, len(got.Mails))
		}
	}
	// A number that no mail takes is not given: the last one is for the first mail of the Gid alone.
	twice := boxOf(9999, []impl.Mail{someMail(7, 2), someMail(7, 3)}, nil)
	if got := checksBothWays(t, twoBoxes{twice, boxOf(9999, nil, nil)}); got.Next != 10000 || !impl.FitsBox(twice, boxOf(9999, nil, nil)) {
		t.Errorf("at the end: Next %d", got.Next)
	}
}

// TestNumbersThatAreNotRight: two mails of one Uid, Uids that do not ascend, or are not below Next.
func TestNumbersThatAreNotRight(t *testing.T) {
	right := boxOf(4, []impl.Mail{someMail(40, 1), someMail(20, 3)}, nil)
	for _, c := range []struct {
		a    impl.Box
		want [][2]int
		next int
	}{
		{boxOf(6, []impl.Mail{someMail(9, 4), someMail(8, 4)}, nil), [][2]int{{8, 4}, {9, 4}, {20, 6}, {40, 7}}, 8},
		{boxOf(6, []impl.Mail{someMail(9, 2), someMail(8, 2)}, nil), [][2]int{{8, 6}, {9, 7}, {20, 8}, {40, 9}}, 10},
		{boxOf(6, []impl.Mail{someMail(9, 5), someMail(40, 1), someMail(8, 4)}, nil), [][2]int{{40, 1}, {8, 4}, {9, 5}, {20, 6}}, 7},
		{boxOf(4, []impl.Mail{someMail(9, 4)}, nil), [][2]int{{9, 4}, {20, 4}, {40, 5}}, 6},
		{boxOf(2, []impl.Mail{someMail(9, 50), someMail(20, 3)}, nil), [][2]int{{20, 3}, {40, 4}, {9, 50}}, 5},
		{boxOf(4, []impl.Mail{someMail(9, 0), withUid(someMail(40, 1), -3)}, nil), [][2]int{{9, 4}, {20, 5}, {40, 6}}, 7},
	} {
		for _, got := range []impl.Box{checksJoin(t, c.a, right), checksJoin(t, right, c.a)} {
			if !slices.Equal(numbersOf(got.Mails), c.want) || got.Next != c.next {
				t.Errorf("of %#v comes %v, Next %d", c.a, numbersOf(got.Mails), got.Next)
			}
		}
	}
}

// TestMailsGoneInTheirOwnBox: Gone in one is Gone, also in the one that still has it.
func TestMailsGoneInTheirOwnBox(t *testing.T) {
	a := oneBox(t)
	a.Gone = []int{60, 20, 20}
	for _, b := range []impl.Box{oneBox(t), boxOf(1, nil, nil), a, boxOf(4, []impl.Mail{someMail(40, 1)}, []int{7})} {
		for _, got := range []impl.Box{checksJoin(t, a, b), checksJoin(t, b, a)} {
			if len(got.Mails) != 1 || got.Mails[0].Gid != 40 || !slices.Equal(got.Gone, goneByWords([]int{20, 60}, b.Gone)) {
				t.Errorf("with %#v: %#v", b, got)
			}
		}
		if !impl.FitsBox(a, b) {
			t.Errorf("with %#v it does not fit", b)
		}
	}
}

// goApart does drawn things on both sides of one box.
func goApart(r *rand.Rand, p twoBoxes, steps int) twoBoxes {
	for range steps {
		side := &p.a
		if r.Intn(2) == 0 {
			side = &p.b
		}
		c := threeCalls(1+r.Intn(40), r.Intn(8), drawnText(r, r.Intn(61)), stampOf(r.Intn(200), 1+r.Intn(2)))[r.Intn(3)]
		*side, _ = c.byWords(*side)
		if r.Intn(8) == 0 {
			side.Name, side.Named = rightNames()[r.Intn(4)], stampOf(r.Intn(4), 1+r.Intn(2))
		}
	}
	return p
}

func TestDrawnBoxesThatWentApart(t *testing.T) {
	r := rand.New(rand.NewSource(88))
	fits := 0
	for range 3000 {
		base := goApart(r, twoBoxes{boxOf(1+r.Intn(3)*4990, nil, nil), boxOf(1, nil, nil)}, r.Intn(12)).a
		p := goApart(r, twoBoxes{base, base}, r.Intn(30))
		checksRightBoxes(t, p)
		if impl.FitsBox(p.a, p.b) {
			fits++
		}
	}
	if fits < 1000 || fits > 2900 {
		t.Errorf("%d of 3000 fit", fits)
	}
}

// drawnBox is of small numbers, so that many of two are alike; few are right.
func drawnBox(r *rand.Rand) impl.Box {
	b := boxOf(r.Intn(14)-1, nil, nil)
	b.Gid, b.Name, b.Named = 5+r.Intn(8)/7, []string{"a", "b", ""}[r.Intn(3)], stampOf(r.Intn(2), r.Intn(2))
	for range r.Intn(6) {
		m := withUid(someMail(r.Intn(9)-1, r.Intn(14)), r.Intn(14)-1)
		m.Flags = m.Flags[:3-r.Intn(9)/8]
		b.Mails = append(b.Mails, m)
	}
	for range r.Intn(4) {
		b.Gone = append(b.Gone, r.Intn(9)-1)
	}
	return b
}

func TestDrawnBoxesOfAnyKind(t *testing.T) {
	r := rand.New(rand.NewSource(888))
	twice := 0
	for range 20000 {
		p := twoBoxes{drawnBox(r), drawnBox(r)}
		if p.a.Gid != p.b.Gid {
			checksJoin(t, p.a, p.b)
			continue
		}
		checksBothWays(t, p)
		if !likeBoxes(p.a, firstsAlone(p.a)) && !likeBoxes(p.b, firstsAlone(p.b)) {
			twice++
		}
	}
	if twice < 1000 {
		t.Errorf("%d have a Gid twice on both sides", twice)
	}
}

// TestBoxesMeetAgainAndAgain: on neither side a number is ever of two mails, nothing is lost, nothing comes back.
func TestBoxesMeetAgainAndAgain(t *testing.T) {
	r := rand.New(rand.NewSource(8888))
	meetings := 0
	for range 150 {
		p := twoBoxes{boxOf(1, nil, nil), boxOf(1, nil, nil)}
		owners := [2]map[int]int{{}, {}}
		for range 60 {
			p = goApart(r, p, 1+r.Intn(3))
			checksOwners(t, owners, p)
			if r.Intn(4) > 0 || !impl.FitsBox(p.a, p.b) {
				continue
			}
			meetings++
			checksRightBoxes(t, p)
			p = twoBoxes{impl.JoinBox(p.a, p.b), impl.JoinBox(p.b, p.a)}
			checksOwners(t, owners, p)
		}
	}
	if meetings < 1000 {
		t.Errorf("%d meetings", meetings)
	}
}

func checksOwners(t *testing.T, owners [2]map[int]int, p twoBoxes) {
	t.Helper()
	for i, side := range []impl.Box{p.a, p.b} {
		for _, m := range side.Mails {
			if owner, known := owners[i][m.Uid]; known && owner != m.Gid {
				t.Fatalf("Uid %d was of %d and is of %d", m.Uid, owner, m.Gid)
			}
			owners[i][m.Uid] = m.Gid
		}
	}
}

// TestJoinsAnswerAlike: the same, call for call, in whatever order a map is gone through.
func TestJoinsAnswerAlike(t *testing.T) {
	p := fullBoxes(3, 4, 5)
	p.a.Gone, p.b.Gone = numbersFrom(700, 30), numbersFrom(715, 30)
	want := copyBox(impl.JoinBox(p.a, p.b))
	for range 300 {
		if got := impl.JoinBox(p.a, p.b); !likeBoxes(got, want) || !likeMailLists(impl.JoinMails(p.a, p.b), want.Mails) {
			t.Fatalf("JoinBox = %#v; and %#v", want, got)
		}
	}
}

// memoryPairs: mails of both, of one side, with new numbers and with their own, and boxes that are not right.
func memoryPairs(t *testing.T) []twoBoxes {
	t.Helper()
	a := after(t, oneBox(t), put(70), put(80), take(20), flag(40, 7, 91, 1))
	b := after(t, oneBox(t), put(10), flag(60, 5, 92, 2), put(70), take(40))
	list := []twoBoxes{{a, b}, {a, a}, {a, boxOf(1, nil, nil)}, {boxOf(1, nil, nil), boxOf(1, nil, nil)}, fullBoxes(3, 4, 3), fullBoxes(5, 5, 5), {someBox(10, 40), someBox(7, 12)}}
	for i, w := range wrongBoxes() {
		if i%4 == 0 {
			other := copyBox(b)
			other.Gid = w.Gid
			list = append(list, twoBoxes{w, other}, twoBoxes{w, w})
		}
	}
	for _, p := range list[:7] {
		unlike := copyBox(p.b)
		unlike.Gid++
		list = append(list, twoBoxes{p.a, unlike})
	}
	for _, p := range slices.Clone(list) {
		list = append(list, p.turned())
	}
	return list
}

func roomyPair(p twoBoxes) twoBoxes {
	return twoBoxes{roomyBox(p.a), roomyBox(p.b)}
}

// joinsOf are all answers that have memory: a box of each.
func joinsOf(p twoBoxes) []impl.Box {
	return []impl.Box{impl.JoinBox(p.a, p.b), {Mails: impl.JoinMails(p.a, p.b)}, {Gone: impl.JoinGone(p.a.Gone, p.b.Gone)}}
}

func TestJoinsLeaveTheirArguments(t *testing.T) {
	for _, given := range memoryPairs(t) {
		p := roomyPair(given)
		wholeA, wholeB := wholeBox(p.a), wholeBox(p.b)
		joinsOf(p)
		impl.Holds(p.a, 70)
		impl.KeepsUid(p.a, p.b, 70)
		impl.FitsBox(p.a, p.b)
		if !likeBoxes(wholeBox(p.a), wholeA) || !likeBoxes(wholeBox(p.b), wholeB) {
			t.Fatalf("%#v was written into, or behind its end", given)
		}
	}
}

func TestJoinsNewMemory(t *testing.T) {
	for _, given := range memoryPairs(t) {
		for i := range joinsOf(given) {
			p := roomyPair(given)
			answer := joinsOf(p)[i]
			kept := copyBox(answer)
			spoilBox(p.a)
			spoilBox(p.b)
			if !likeBoxes(answer, kept) {
				t.Fatalf("%#v became %#v when an argument was changed", kept, answer)
			}
			p = roomyPair(given)
			wholeA, wholeB := wholeBox(p.a), wholeBox(p.b)
			spoilBox(joinsOf(p)[i])
			if !likeBoxes(wholeBox(p.a), wholeA) || !likeBoxes(wholeBox(p.b), wholeB) {
				t.Fatalf("%#v changed with answer %d", given, i)
			}
			first, second := joinsOf(p)[i], joinsOf(p)[i]
			kept = copyBox(second)
			spoilBox(first)
			if !likeBoxes(second, kept) {
				t.Fatalf("%#v: of two answers one changed with the other", given)
			}
		}
	}
}

func textsOfBox(b impl.Box) []string {
	list := []string{b.Name}
	for _, m := range b.Mails {
		list = append(list, m.Text)
	}
	return list
}

func TestJoinsShareNoTexts(t *testing.T) {
	for _, given := range memoryPairs(t) {
		p := roomyPair(given)
		for _, answer := range joinsOf(p) {
			for _, text := range textsOfBox(answer) {
				for _, other := range slices.Concat(textsOfBox(p.a), textsOfBox(p.b)) {
					if sharesMemory(text, other) {
						t.Fatalf("of %#v the text %q is shared", given, text)
					}
				}
			}
		}
	}
}

// TestListsOfOneJoinApart: also where lists of both arguments lie in one memory.
func TestListsOfOneJoinApart(t *testing.T) {
	one := flagsOf(3, stampOf(4, 1))
	for _, p := range []twoBoxes{fullBoxes(3, 3, 3), fullBoxes(0, 4, 4), {someBox(11, 3), someBox(5, 3)}} {
		for i := range p.a.Mails {
			p.a.Mails[i].Flags = one
		}
		for i := range p.b.Mails {
			p.b.Mails[i].Flags = one
		}
		p.a.Mails = append(p.a.Mails, p.a.Mails[0])
		unlike := p.b
		unlike.Gid++
		for _, answer := range append(joinsOf(p), joinsOf(twoBoxes{p.a, unlike})...) {
			for place := range answer.Mails {
				kept := copyBox(answer)
				spoil(answer.Mails[place].Flags)
				kept.Mails[place].Flags = slices.Clone(answer.Mails[place].Flags)
				if !likeBoxes(answer, kept) {
					t.Fatalf("flags of mail %d are shared: %#v", place, answer)
				}
			}
		}
	}
}
