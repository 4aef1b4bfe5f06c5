package tests

import (
	"fmt"
	"math"
	"math/rand"
	"runtime"
	"slices"
	"strconv"
	"strings"
	"sync"
	"testing"
	"time"

	"loop.example/g00324/impl"
)

// twoStores are what both servers have.
type twoStores struct {
	a, b impl.Store
}

func (p twoStores) turned() twoStores {
	return twoStores{p.b, p.a}
}

func otherNameByWords(name string, gid int) string {
	var out []byte
	for i := 0; i < len(name) && i < 6; i++ {
		out = append(out, name[i])
	}
	out = append(out, 'x')
	if gid <= 0 {
		return string(out)
	}
	figures := strconv.Itoa(gid)
	for i := range figures {
		if i+5 >= len(figures) {
			out = append(out, figures[i])
		}
	}
	return string(out)
}

func gidsOfBoxes(list []impl.Box) []int {
	var gids []int
	for _, b := range list {
		gids = append(gids, b.Gid)
	}
	return gids
}

// boxOfGid is the first of a list, and whether there is one.
func boxOfGid(list []impl.Box, gid int) (impl.Box, bool) {
	at := boxAtByWords(impl.Store{Boxes: list}, gid)
	if at < 0 {
		return impl.Box{}, false
	}
	return copyBox(list[at]), true
}

// boxOfTwo is what the box of a Gid comes to ahead of all names and of mails that other boxes have.
func boxOfTwo(a, b []impl.Box, gid int) impl.Box {
	here, inA := boxOfGid(a, gid)
	there, inB := boxOfGid(b, gid)
	if inA && inB {
		return joinBoxByWords(here, there)
	}
	if inA {
		return here
	}
	return there
}

func joinBoxesByWords(a, b []impl.Box, gone []int) []impl.Box {
	var list []impl.Box
	for _, gid := range goneByWords(gidsOfBoxes(a), gidsOfBoxes(b)) {
		if slices.Contains(gone, gid) {
			continue
		}
		one := boxOfTwo(a, b, gid)
		if boxNamedByWords(impl.Store{Boxes: list}, one.Name) >= 0 {
			one.Name = otherNameByWords(one.Name, gid)
		}
		list = append(list, one)
	}
	return list
}

func joinStoreByWords(a, b impl.Store) impl.Store {
	out := storeOf(a.By, slices.Max([]int{a.Time, b.Time}), nil, goneByWords(a.Gone, b.Gone))
	for _, one := range joinBoxesByWords(a.Boxes, b.Boxes, out.Gone) {
		mails := one.Mails
		one.Mails = nil
		for _, m := range mails {
			if !slices.ContainsFunc(out.Boxes, func(b impl.Box) bool { return placeByWords(b, m.Gid) >= 0 }) {
				one.Mails = append(one.Mails, m)
			}
		}
		out.Boxes = append(out.Boxes, one)
	}
	return out
}

func alikeByWords(a, b impl.Store) bool {
	a.By, a.Time = b.By, b.Time
	return likeStores(a, b)
}

func saidByWords(s impl.Store) string {
	said := ""
	for _, b := range s.Boxes {
		said += fmt.Sprintf("%s %d\n", b.Name, slices.Max([]int{0, b.Next}))
		for _, m := range b.Mails {
			n := 0
			for i, r := range m.Flags {
				if i < 3 && r.Val&1 == 1 {
					n += 1 << i
				}
			}
			text := fmt.Sprintf("%x", m.Text)
			if len(m.Text) > 20000 {
				text = ""
			}
			said += fmt.Sprintf(" %d %d %s\n", slices.Max([]int{0, m.Uid}), n, text)
		}
	}
	return said
}

func likeBoxLists(a, b []impl.Box) bool {
	return slices.EqualFunc(a, b, likeBoxes)
}

// gonesAround: nothing, all, each alone, what neither has, and lists that do not ascend.
func gonesAround(a, b []impl.Box) [][]int {
	gids := slices.Concat(gidsOfBoxes(a), gidsOfBoxes(b))
	lists := [][]int{nil, {}, gids, {4321}, {0, -1, math.MaxInt, math.MinInt}, append([]int{9998, 9998, 4}, gids...)}
	for i, gid := range gids {
		lists = append(lists, []int{gid}, []int{gid + 1, gid, gid, gid - 1}, gids[i:])
	}
	return lists
}

func checksBoxLists(t *testing.T, a, b []impl.Box, gone []int) []impl.Box {
	t.Helper()
	got, want := impl.JoinBoxes(a, b, gone), joinBoxesByWords(a, b, gone)
	if !likeBoxLists(got, want) {
		t.Fatalf("JoinBoxes(%#v, %#v, %v) = %#v; want %#v", a, b, gone, got, want)
	}
	return got
}

// checksStores holds all of the chapter against its words, of right stores and of others.
func checksStores(t *testing.T, a, b impl.Store) impl.Store {
	t.Helper()
	checksBoxLists(t, a.Boxes, b.Boxes, nil)
	checksBoxLists(t, a.Boxes, b.Boxes, goneByWords(a.Gone, b.Gone))
	joined, want := impl.JoinStore(a, b), joinStoreByWords(a, b)
	if !likeStores(joined, want) {
		t.Fatalf("JoinStore(%#v, %#v) = %#v; want %#v", a, b, joined, want)
	}
	if got, want := impl.FitsStore(a, b), storeOkByWords(a) && storeOkByWords(b) && storeOkByWords(want); got != want {
		t.Fatalf("FitsStore(%#v, %#v) = %v; want %v", a, b, got, want)
	}
	for _, other := range []impl.Store{b, joined} {
		if got, want := impl.Alike(a, other), alikeByWords(a, other); got != want {
			t.Fatalf("Alike(%#v, %#v) = %v; want %v", a, other, got, want)
		}
		if got, want := impl.SaidOf(other), saidByWords(other); got != want {
			t.Fatalf("SaidOf(%#v) = %q; want %q", other, got, want)
		}
	}
	return joined
}

// checksStoresBothWays is for any two stores, right or not: they come to one.
func checksStoresBothWays(t *testing.T, p twoStores) impl.Store {
	t.Helper()
	joined, turned := checksStores(t, p.a, p.b), checksStores(t, p.b, p.a)
	if !impl.Alike(joined, turned) || !alikeByWords(joined, turned) {
		t.Fatalf("JoinStore(%#v, %#v) = %#v; the other way round %#v", p.a, p.b, joined, turned)
	}
	if joined.By != p.a.By || turned.By != p.b.By || joined.Time != turned.Time || joined.Time != max(p.a.Time, p.b.Time) {
		t.Fatalf("of By %d and %d, Time %d and %d come By %d, Time %d, and By %d, Time %d", p.a.By, p.b.By, p.a.Time, p.b.Time, joined.By, joined.Time, turned.By, turned.Time)
	}
	return joined
}

// checksBoxesOfTwo: each box of either store is there once, unless it is Gone, and no other; its name is its own one as long as no earlier box has that.
func checksBoxesOfTwo(t *testing.T, p twoStores, joined impl.Store) {
	t.Helper()
	gids := gidsOfBoxes(joined.Boxes)
	want := slices.DeleteFunc(goneByWords(gidsOfBoxes(p.a.Boxes), gidsOfBoxes(p.b.Boxes)), func(gid int) bool {
		return slices.Contains(p.a.Gone, gid) || slices.Contains(p.b.Gone, gid)
	})
	if !slices.Equal(gids, want) {
		t.Fatalf("of %v and %v, without %v and %v, come %v", gidsOfBoxes(p.a.Boxes), gidsOfBoxes(p.b.Boxes), p.a.Gone, p.b.Gone, gids)
	}
	for place, b := range joined.Boxes {
		own := boxOfTwo(p.a.Boxes, p.b.Boxes, b.Gid)
		name := own.Name
		if slices.ContainsFunc(joined.Boxes[:place], func(other impl.Box) bool { return other.Name == name }) {
			name = impl.OtherName(name, b.Gid)
		}
		if b.Name != name || b.Named != own.Named || b.Next != own.Next || !slices.Equal(b.Gone, own.Gone) {
			t.Fatalf("box %d is %#v; by itself it is %#v", b.Gid, b, own)
		}
	}
}

// checksMailsOfTwo: each mail is in the first of the boxes that come to have it, with what it has there, and in no other.
func checksMailsOfTwo(t *testing.T, p twoStores, joined impl.Store) {
	t.Helper()
	homes := map[int]int{}
	for _, b := range joined.Boxes {
		for _, m := range boxOfTwo(p.a.Boxes, p.b.Boxes, b.Gid).Mails {
			home, known := homes[m.Gid]
			if !known {
				homes[m.Gid], home = b.Gid, b.Gid
			}
			at := placeByWords(b, m.Gid)
			if (at >= 0) != (home == b.Gid) || at >= 0 && !likeMails(b.Mails[at], m) {
				t.Fatalf("mail %d in box %d is at place %d; its box is %d", m.Gid, b.Gid, at, home)
			}
		}
	}
	if mails := mailsIn(&joined); len(mails) != len(homes) {
		t.Fatalf("%d mails; want %d", len(mails), len(homes))
	}
}

func namesUnlike(s impl.Store) bool {
	var names []string
	for _, b := range s.Boxes {
		names = append(names, b.Name)
	}
	slices.Sort(names)
	return len(slices.Compact(names)) == len(s.Boxes)
}

// checksRightStores is for two right stores: all that promise 9 asks of them.
func checksRightStores(t *testing.T, p twoStores) impl.Store {
	t.Helper()
	if !storeOkByWords(p.a) || !storeOkByWords(p.b) {
		t.Fatalf("%#v and %#v are not two right stores", p.a, p.b)
	}
	joined := checksStoresBothWays(t, p)
	checksBoxesOfTwo(t, p, joined)
	checksMailsOfTwo(t, p, joined)
	if impl.FitsStore(p.a, p.b) != impl.FitsStore(p.b, p.a) || impl.FitsStore(p.a, p.b) != impl.StoreOk(joined) {
		t.Fatalf("FitsStore of %#v and %#v is %v, and %v", p.a, p.b, impl.FitsStore(p.a, p.b), impl.FitsStore(p.b, p.a))
	}
	if namesUnlike(joined) {
		checksJoinedAgain(t, joined, impl.JoinStore(p.b, p.a))
	}
	return joined
}

// checksJoinedAgain is for what came to one, at both servers: it comes to it again.
func checksJoinedAgain(t *testing.T, here, there impl.Store) {
	t.Helper()
	if again := checksStores(t, here, here); !likeStores(again, here) {
		t.Fatalf("%#v joined with itself is %#v", here, again)
	}
	if again := checksStores(t, here, there); !likeStores(again, here) {
		t.Fatalf("%#v joined with %#v is %#v", here, there, again)
	}
	if fits := impl.FitsStore(here, here); fits != impl.StoreOk(here) {
		t.Fatalf("FitsStore of %#v with itself is %v", here, fits)
	}
}

func makes(gid int, name string) storeCall {
	return storeCall{"MakeBox", gid, 0, 0, name}
}

func renames(gid int, name string) storeCall {
	return storeCall{"RenameBox", gid, 0, 0, name}
}

func drops(gid int) storeCall {
	return storeCall{"DropBox", gid, 0, 0, ""}
}

// puts has the Gid as its text, so that SaidOf tells which mail it is.
func puts(box, gid int) storeCall {
	return storeCall{"PutMail", box, gid, 0, strconv.Itoa(gid)}
}

func marks(box, gid, n int) storeCall {
	return storeCall{"MarkMail", box, gid, n, ""}
}

func takes(box, gid int) storeCall {
	return storeCall{"DropMail", box, gid, 0, ""}
}

// behind is the store behind calls that are all done.
func behind(t *testing.T, s impl.Store, calls ...storeCall) impl.Store {
	t.Helper()
	for _, c := range calls {
		next, ok := c.byWords(s)
		if !ok {
			t.Fatalf("%#v is refused by %#v", c, s)
		}
		s = next
	}
	return s
}

// oneStore is at both servers, at Time 5: box 5 with the mails 40 and 20, box 6 with the mail 60.
func oneStore(t *testing.T, by int) impl.Store {
	t.Helper()
	s := behind(t, impl.StoreNew(1), makes(5, "inbox"), makes(6, "work"), puts(5, 40), puts(5, 20), puts(6, 60))
	s.By = by
	return s
}

func wentApart(t *testing.T, a, b []storeCall) twoStores {
	t.Helper()
	return twoStores{behind(t, oneStore(t, 1), a...), behind(t, oneStore(t, 2), b...)}
}

// brief: of each box Gid, Name, Next, Gid and Uid of each mail, what is Gone; and what is Gone of the store.
func brief(s impl.Store) string {
	told := ""
	for _, b := range s.Boxes {
		told += fmt.Sprintf("%d %s %d", b.Gid, b.Name, b.Next)
		for _, m := range b.Mails {
			told += fmt.Sprintf(" %d:%d", m.Gid, m.Uid)
		}
		for _, gid := range b.Gone {
			told += fmt.Sprintf(" -%d", gid)
		}
		told += "; "
	}
	return told + fmt.Sprint(s.Gone)
}

func TestOtherName(t *testing.T) {
	for _, c := range []struct {
		name string
		gid  int
		want string
	}{
		{"inbox", 6, "inboxx6"},
		{"", 0, "x"}, {"", -1, "x"}, {"", math.MinInt, "x"}, {"", 1, "x1"}, {"", 100001, "x00001"},
		{"a", 0, "ax"}, {"a", 7, "ax7"}, {"x", 1, "xx1"}, {"xxxxxxxx1", 1, "xxxxxxx1"},
		{"abcde", 5, "abcdex5"}, {"abcdef", 5, "abcdefx5"}, {"abcdefg", 5, "abcdefx5"}, {"abcdefgh", 5, "abcdefx5"}, {"abcdefghijkl", 5, "abcdefx5"}, {"abcdefghijklm", 5, "abcdefx5"},
		{"abcdef", 0, "abcdefx"}, {"abcdefg", 0, "abcdefx"}, {"abcdefg", -1, "abcdefx"}, {"abcdefg", -12345678, "abcdefx"}, {"abcdefg", math.MinInt, "abcdefx"},
		{"in", 1, "inx1"}, {"in", 9, "inx9"}, {"in", 10, "inx10"}, {"in", 12, "inx12"}, {"in", 123, "inx123"}, {"in", 1234, "inx1234"}, {"in", 9999, "inx9999"},
		{"in", 10000, "inx10000"}, {"in", 12345, "inx12345"}, {"in", 99999, "inx99999"}, {"in", 100000, "inx00000"}, {"in", 100001, "inx00001"},
		{"in", 123456, "inx23456"}, {"in", 999999, "inx99999"}, {"in", 1000000, "inx00000"}, {"in", 1234567, "inx34567"}, {"in", 1234567890, "inx67890"}, {"in", math.MaxInt, "inx75807"},
		{"In Box No. 5", 5, "In Boxx5"}, {"\x00\n\xff\x80  \x00", 30, "\x00\n\xff\x80  x30"}, {"äöüä", 3, "äöüx3"}, {"aäöü", 3, "aäö\xc3x3"},
		{strings.Repeat("ab", 30000), 77, "abababx77"},
	} {
		if got := impl.OtherName(c.name, c.gid); got != c.want || otherNameByWords(c.name, c.gid) != c.want {
			t.Errorf("OtherName(%q, %d) = %q; want %q", c.name, c.gid, got, c.want)
		}
	}
}

// TestOtherNamesAreRight: of a name and a Gid that are right comes a right name; of unlike Gids unlike ones.
func TestOtherNamesAreRight(t *testing.T) {
	for _, name := range rightNames() {
		given := map[string]int{}
		for gid := 1; gid <= impl.MaxGid; gid++ {
			other := impl.OtherName(name, gid)
			if before, twice := given[other]; twice || !impl.NameOk(other) || other != otherNameByWords(name, gid) {
				t.Fatalf("OtherName(%q, %d) = %q, as of %d", name, gid, other, before)
			}
			given[other] = gid
		}
	}
}

func TestOtherNameDrawn(t *testing.T) {
	r := rand.New(rand.NewSource(9))
	for range 5000 {
		name, gid := drawnText(r, r.Intn(15)), int(r.Uint64()>>r.Intn(64))
		if got, want := impl.OtherName(name, gid), otherNameByWords(name, gid); got != want {
			t.Fatalf("OtherName(%q, %d) = %q; want %q", name, gid, got, want)
		}
	}
}

// TestStoresThatWentApart: each with what it comes to written out.
func TestStoresThatWentApart(t *testing.T) {
	type calls = []storeCall
	const inbox, work = "5 inbox 3 40:1 20:2; ", "6 work 2 60:1; "
	for _, c := range []struct {
		name string
		a, b calls
		want string
		time int
	}{
		{"nothing was done", nil, nil, inbox + work + "[]", 5},
		{"one made a box", calls{makes(7, "new")}, nil, inbox + work + "7 new 1; []", 6},
		{"one made a box ahead of all", calls{makes(2, "new")}, nil, "2 new 1; " + inbox + work + "[]", 6},
		{"each made a box", calls{makes(8, "left")}, calls{makes(7, "right")}, inbox + work + "7 right 1; 8 left 1; []", 6},
		{"both made the same box", calls{makes(7, "new")}, calls{makes(7, "new")}, inbox + work + "7 new 1; []", 6},
		{"both made a box, with unlike names at one Time", calls{makes(7, "right")}, calls{makes(7, "left")}, inbox + work + "7 left 1; []", 6},
		{"both made a box, one later", calls{puts(6, 70), makes(7, "right")}, calls{makes(7, "left")}, inbox + "6 work 3 60:1 70:2; 7 right 1; []", 7},
		{"one name for two boxes", calls{makes(7, "new")}, calls{makes(8, "new")}, inbox + work + "7 new 1; 8 newx8 1; []", 6},
		{"one name for two boxes, the later one is ahead", calls{puts(6, 70), makes(7, "new")}, calls{makes(8, "new")}, inbox + "6 work 3 60:1 70:2; 7 new 1; 8 newx8 1; []", 7},
		{"one name of six signs for two", calls{makes(7, "abcdef")}, calls{makes(8, "abcdef")}, inbox + work + "7 abcdef 1; 8 abcdefx8 1; []", 6},
		{"one long name for two", calls{makes(7, "abcdefghijkl")}, calls{makes(9999, "abcdefghijkl")}, inbox + work + "7 abcdefghijkl 1; 9999 abcdefx9999 1; []", 6},
		{"names that begin alike", calls{makes(7, "abcdefgh")}, calls{makes(8, "abcdefgi")}, inbox + work + "7 abcdefgh 1; 8 abcdefgi 1; []", 6},
		{"two names for four boxes", calls{makes(7, "new"), makes(9, "more")}, calls{makes(8, "new"), drops(6), makes(4, "more")}, "4 more 1; " + inbox + "7 new 1; 8 newx8 1; 9 morex9 1; [6]", 7},
		{"an other name that an earlier box was given", calls{makes(7, "new")}, calls{makes(8, "new"), makes(9, "newx8")}, inbox + work + "7 new 1; 8 newx8 1; 9 newx8x9 1; []", 7},
		{"a name of six signs that an earlier box was given", calls{makes(7, "newsx"), drops(6), makes(9, "newsxx8")}, calls{makes(8, "newsx")}, inbox + "7 newsx 1; 8 newsxx8 1; 9 newsxxx9 1; [6]", 7},
		{"dropped on one", calls{drops(6)}, nil, inbox + "[6]", 5},
		{"dropped on one, used on the other", calls{drops(6)}, calls{puts(6, 70), renames(6, "much"), marks(6, 60, 7)}, inbox + "[6]", 8},
		{"dropped on both", calls{drops(5)}, calls{drops(5)}, work + "[5]", 5},
		{"each dropped another", calls{drops(6)}, calls{drops(5)}, "[5 6]", 5},
		{"made and dropped again", calls{makes(7, "new"), drops(7)}, nil, inbox + work + "[7]", 6},
		{"made on both, dropped on one", calls{makes(7, "new"), drops(7)}, calls{makes(7, "new"), puts(7, 70)}, inbox + work + "[7]", 7},
		{"a name that is free again", calls{drops(6), makes(7, "work")}, nil, inbox + "7 work 1; [6]", 6},
		{"a name that is free again on one", calls{drops(6), makes(7, "work")}, calls{makes(8, "work2"), renames(6, "rest")}, inbox + "7 work 1; 8 work2 1; [6]", 7},
		{"renamed on one", calls{renames(6, "play")}, nil, inbox + "6 play 2 60:1; []", 6},
		{"renamed on both, one later", calls{renames(6, "play"), renames(6, "rest")}, calls{renames(6, "zoo")}, inbox + "6 rest 2 60:1; []", 7},
		{"renamed on both at one Time", calls{renames(6, "zoo")}, calls{renames(6, "play")}, inbox + "6 play 2 60:1; []", 6},
		{"one name given to two boxes", calls{renames(5, "new")}, calls{renames(6, "new")}, "5 new 3 40:1 20:2; 6 newx6 2 60:1; []", 6},
		{"names changed about on one", calls{renames(5, "away"), renames(6, "inbox"), renames(5, "work")}, nil, "5 work 3 40:1 20:2; 6 inbox 2 60:1; []", 8},
		{"names changed about on both", calls{renames(5, "away"), renames(6, "inbox")}, calls{renames(6, "rest"), renames(5, "work"), puts(6, 70)}, "5 work 3 40:1 20:2; 6 inbox 3 60:1 70:2; []", 8},
		{"a name left on one, given back on the other", calls{renames(5, "old"), makes(7, "inbox")}, calls{renames(5, "x"), renames(5, "inbox")}, inbox + work + "7 inboxx7 1; []", 7},
		{"a box with its mails", calls{makes(7, "new"), puts(7, 80), puts(7, 70), takes(7, 80)}, nil, inbox + work + "7 new 3 70:2 -80; []", 8},
		{"one number for two mails", calls{puts(5, 70)}, calls{puts(5, 10)}, "5 inbox 6 40:1 20:2 10:4 70:5; " + work + "[]", 6},
		{"mails of two boxes", calls{puts(5, 70), puts(6, 80)}, calls{puts(5, 10)}, "5 inbox 6 40:1 20:2 10:4 70:5; 6 work 3 60:1 80:2; []", 7},
		{"taken out and marked", calls{takes(5, 20)}, calls{marks(5, 20, 7)}, "5 inbox 3 40:1 -20; " + work + "[]", 6},
		{"one mail in two boxes", calls{puts(5, 70)}, calls{puts(6, 70)}, "5 inbox 4 40:1 20:2 70:3; 6 work 3 60:1; []", 6},
		{"one mail in two boxes, with a new number", calls{puts(5, 70)}, calls{puts(5, 10), puts(6, 70)}, "5 inbox 6 40:1 20:2 10:4 70:5; 6 work 3 60:1; []", 7},
		{"one mail in two boxes, where the later one gives numbers", calls{puts(6, 80), puts(5, 70)}, calls{puts(6, 70)}, "5 inbox 4 40:1 20:2 70:3; 6 work 5 60:1 80:4; []", 7},
		{"one mail in two new boxes of one name", calls{makes(7, "new"), puts(7, 70)}, calls{makes(8, "new"), puts(8, 70)}, inbox + work + "7 new 2 70:1; 8 newx8 2; []", 7},
		{"one mail in two boxes, the earlier one is dropped", calls{puts(5, 70)}, calls{puts(6, 70), drops(5)}, "6 work 3 60:1 70:2; [5]", 6},
		{"one mail in two boxes, the later one is dropped", calls{puts(5, 70), drops(6)}, calls{puts(6, 70)}, "5 inbox 4 40:1 20:2 70:3; [6]", 6},
		{"one mail in two boxes, taken out of the earlier one", calls{puts(5, 70), takes(5, 70)}, calls{puts(6, 70)}, "5 inbox 4 40:1 20:2 -70; 6 work 3 60:1 70:2; []", 6},
		{"one mail in two boxes, taken out of the later one", calls{puts(5, 70)}, calls{puts(6, 70), takes(6, 70)}, "5 inbox 4 40:1 20:2 70:3; 6 work 3 60:1 -70; []", 6},
		{"a mail of a box that was dropped", calls{drops(5), puts(6, 40)}, nil, "6 work 3 60:1 40:2; [5]", 6},
		{"one went far", calls{puts(5, 70), puts(5, 71), puts(5, 72), makes(8, "new")}, nil, "5 inbox 6 40:1 20:2 70:3 71:4 72:5; " + work + "8 new 1; []", 9},
	} {
		p := wentApart(t, c.a, c.b)
		for _, p := range []twoStores{p, p.turned()} {
			got := checksRightStores(t, p)
			if brief(got) != c.want || got.Time != c.time || got.By != p.a.By || !impl.FitsStore(p.a, p.b) {
				t.Errorf("%s: %s, Time %d, By %d, fits %v; want %s, Time %d", c.name, brief(got), got.Time, got.By, impl.FitsStore(p.a, p.b), c.want, c.time)
			}
		}
	}
}

// TestNamesThatMeetAgain: a name that is given is not looked at again, so that one ahead may have it; such stores do not fit.
func TestNamesThatMeetAgain(t *testing.T) {
	type calls = []storeCall
	for _, c := range []struct {
		a, b calls
		want string
	}{
		{calls{makes(8, "new")}, calls{makes(7, "new"), renames(5, "newx8")}, "5 newx8 3 40:1 20:2; 6 work 2 60:1; 7 new 1; 8 newx8 1; []"},
		{calls{renames(5, "abcdefgh"), makes(8, "abcdefx9")}, calls{makes(9, "abcdefgh")}, "5 abcdefgh 3 40:1 20:2; 6 work 2 60:1; 8 abcdefx9 1; 9 abcdefx9 1; []"},
		{calls{drops(6), makes(7, "xxxxxxx9")}, calls{makes(9, "xxxxxxx9")}, "5 inbox 3 40:1 20:2; 7 xxxxxxx9 1; 9 xxxxxxx9 1; [6]"},
	} {
		p := wentApart(t, c.a, c.b)
		for _, p := range []twoStores{p, p.turned()} {
			got := checksRightStores(t, p)
			if brief(got) != c.want || impl.FitsStore(p.a, p.b) || impl.StoreOk(got) {
				t.Errorf("%s, fits %v; want %s", brief(got), impl.FitsStore(p.a, p.b), c.want)
			}
		}
	}
}

// namedBoxes have the Gids 1, 2, 3 ..
func namedBoxes(names ...string) []impl.Box {
	var list []impl.Box
	for i, name := range names {
		list = append(list, impl.Box{Gid: i + 1, Name: name, Named: stampOf(3, 1), Next: 1})
	}
	return list
}

func namesOf(list []impl.Box) []string {
	var names []string
	for _, b := range list {
		names = append(names, b.Name)
	}
	return names
}

// TestNamesBoxByBox: lists of one side alone, so that a name may be there as often as wanted.
func TestNamesBoxByBox(t *testing.T) {
	for _, c := range []struct{ names, want []string }{
		{[]string{"a", "b", "c"}, []string{"a", "b", "c"}},
		{[]string{"a", "a", "a"}, []string{"a", "ax2", "ax3"}},
		{[]string{"a", "b", "a", "b", "a"}, []string{"a", "b", "ax3", "bx4", "ax5"}},
		{[]string{"a", "a", "ax2"}, []string{"a", "ax2", "ax2x3"}},
		{[]string{"a", "ax3", "a"}, []string{"a", "ax3", "ax3"}},
		{[]string{"a", "ax3", "a", "ax3"}, []string{"a", "ax3", "ax3", "ax3x4"}},
		{[]string{"ax3", "a", "a", "a"}, []string{"ax3", "a", "ax3", "ax4"}},
		{[]string{"a", "a", "ax2", "ax2"}, []string{"a", "ax2", "ax2x3", "ax2x4"}},
		{[]string{"a", "a", "ax2", "ax2x3"}, []string{"a", "ax2", "ax2x3", "ax2x3x4"}},
		{[]string{"abcdefg", "abcdefg", "abcdefx2", "abcdefx3"}, []string{"abcdefg", "abcdefx2", "abcdefx3", "abcdefx4"}},
		{[]string{"", "", ""}, []string{"", "x2", "x3"}},
		{[]string{"x2", "x2", ""}, []string{"x2", "x2x2", ""}},
		{[]string{"In Box!", "In Box!", "in box!"}, []string{"In Box!", "In Boxx2", "in box!"}},
		{[]string{"xxxxxxx3", "xxxxxxx2", "xxxxxxx2"}, []string{"xxxxxxx3", "xxxxxxx2", "xxxxxxx3"}},
	} {
		list := namedBoxes(c.names...)
		half := len(list) / 2
		for _, two := range [][2][]impl.Box{{list, nil}, {list, list}, {list[:half], list[half:]}, {list[half:], list[:half+1]}} {
			for _, got := range [][]impl.Box{checksBoxLists(t, two[0], two[1], nil), checksBoxLists(t, two[1], two[0], nil)} {
				if !slices.Equal(namesOf(got), c.want) {
					t.Errorf("of %q come %q; want %q", c.names, namesOf(got), c.want)
				}
			}
		}
	}
	// A box that is Gone has no name any more.
	if got := checksBoxLists(t, namedBoxes("a", "a", "a"), nil, []int{1}); !slices.Equal(namesOf(got), []string{"a", "ax3"}) {
		t.Errorf("without the first: %q", namesOf(got))
	}
}

// TestOtherNamesOfWrongGids: a Gid below 1 has no figures, a long one five.
func TestOtherNamesOfWrongGids(t *testing.T) {
	list := namedBoxes("inbox", "inbox", "inbox", "inbox", "inbox")
	for i, gid := range []int{math.MinInt, -5, 0, 123456, math.MaxInt} {
		list[i].Gid = gid
	}
	if got := checksBoxLists(t, list, nil, nil); !slices.Equal(namesOf(got), []string{"inbox", "inboxx", "inboxx", "inboxx23456", "inboxx75807"}) {
		t.Errorf("%q", namesOf(got))
	}
}

// TestJoinedNamesMeet: the name that a box comes to counts, not the one that it has on a side.
func TestJoinedNamesMeet(t *testing.T) {
	a, b := namedBoxes("old", "new"), namedBoxes("new", "other")
	a[0].Named, b[0].Named, a[1].Named, b[1].Named = stampOf(4, 1), stampOf(5, 1), stampOf(9, 1), stampOf(7, 2)
	for _, got := range [][]impl.Box{checksBoxLists(t, a, b, nil), checksBoxLists(t, b, a, nil)} {
		if !slices.Equal(namesOf(got), []string{"new", "newx2"}) || got[1].Named != stampOf(9, 1) {
			t.Errorf("%#v", got)
		}
	}
	b[0].Named = stampOf(3, 2)
	for _, got := range [][]impl.Box{checksBoxLists(t, a, b, nil), checksBoxLists(t, b, a, nil)} {
		if !slices.Equal(namesOf(got), []string{"old", "new"}) {
			t.Errorf("%#v", got)
		}
	}
}

// TestJoinBoxesOfLists: none, alike, apart, one within the other, in turns; in each order of either.
func TestJoinBoxesOfLists(t *testing.T) {
	boxes := someStore(6, 0).Boxes
	pick := func(places ...int) []impl.Box {
		var list []impl.Box
		for _, place := range places {
			b := copyBox(boxes[place])
			list = append(list, b)
		}
		return list
	}
	for _, c := range []struct{ a, b, want []int }{
		{nil, nil, nil},
		{[]int{0}, nil, []int{0}},
		{[]int{0, 1, 2}, nil, []int{0, 1, 2}},
		{[]int{0, 1, 2}, []int{0, 1, 2}, []int{0, 1, 2}},
		{[]int{0, 1, 2}, []int{3, 4, 5}, []int{0, 1, 2, 3, 4, 5}},
		{[]int{0, 2, 4}, []int{1, 3, 5}, []int{0, 1, 2, 3, 4, 5}},
		{[]int{0, 5}, []int{1, 2, 3, 4}, []int{0, 1, 2, 3, 4, 5}},
		{[]int{0, 1, 2, 3, 4, 5}, []int{2, 3}, []int{0, 1, 2, 3, 4, 5}},
		{[]int{0, 1, 2, 3}, []int{3}, []int{0, 1, 2, 3}},
		{[]int{0, 1, 2, 3}, []int{0}, []int{0, 1, 2, 3}},
		{[]int{0, 1, 2}, []int{1, 2, 3}, []int{0, 1, 2, 3}},
		{[]int{0}, []int{5}, []int{0, 5}},
		{[]int{3, 1, 2}, nil, []int{1, 2, 3}},
		{[]int{3, 1, 2}, []int{2, 3, 1}, []int{1, 2, 3}},
		{[]int{5, 4}, []int{1, 0}, []int{0, 1, 4, 5}},
		{[]int{2, 2}, nil, []int{2}},
		{[]int{2, 2}, []int{2}, []int{2}},
		{[]int{2, 1, 2, 1}, []int{4, 0, 4}, []int{0, 1, 2, 4}},
	} {
		a, b := pick(c.a...), pick(c.b...)
		for _, gone := range gonesAround(a, b) {
			want := gidsOfBoxes(pick(c.want...))
			want = slices.DeleteFunc(want, func(gid int) bool { return slices.Contains(gone, gid) })
			for _, got := range [][]impl.Box{checksBoxLists(t, a, b, gone), checksBoxLists(t, b, a, gone)} {
				if !slices.Equal(gidsOfBoxes(got), want) {
					t.Errorf("of %v and %v, without %v, come %v", gidsOfBoxes(a), gidsOfBoxes(b), gone, gidsOfBoxes(got))
				}
			}
		}
	}
}

// TestBoxesOfOneSide: as they are, every field, right or not.
func TestBoxesOfOneSide(t *testing.T) {
	for _, one := range append(rightBoxes(), wrongBoxes()...) {
		other := withField(boxOfStore(0), func(b *impl.Box) { b.Gid = 4321 })
		for _, list := range [][]impl.Box{checksBoxLists(t, []impl.Box{one}, nil, nil), checksBoxLists(t, nil, []impl.Box{one}, nil), checksBoxLists(t, []impl.Box{one}, []impl.Box{other}, nil), checksBoxLists(t, []impl.Box{other}, []impl.Box{one}, nil)} {
			if got, there := boxOfGid(list, one.Gid); !there || !likeBoxes(got, one) {
				t.Fatalf("%#v came to %#v", one, got)
			}
		}
	}
}

// TestBoxesOfOneGidTwice: of a Gid that a list has more than once the first box counts, whichever list is first.
func TestBoxesOfOneGidTwice(t *testing.T) {
	box := func(gid int, name string, time int, mails ...int) impl.Box {
		b := impl.Box{Gid: gid, Name: name, Named: stampOf(time, 1), Next: 1}
		for _, m := range mails {
			b.Mails = append(b.Mails, someMail(m, b.Next))
			b.Next++
		}
		return b
	}
	first, second, third := box(7, "first", 3, 70), box(7, "second", 8, 71, 72), box(7, "third", 1)
	other, more := box(9, "other", 2, 90), box(9, "more", 2, 91)
	joined := func(a, b impl.Box) impl.Box { return joinBoxByWords(a, b) }
	for _, c := range []struct{ a, b, want []impl.Box }{
		{[]impl.Box{first, second}, nil, []impl.Box{first}},
		{[]impl.Box{second, first}, nil, []impl.Box{second}},
		{[]impl.Box{first, second, third}, nil, []impl.Box{first}},
		{[]impl.Box{first, other, second, more, third}, nil, []impl.Box{first, other}},
		{[]impl.Box{first, second}, []impl.Box{third}, []impl.Box{joined(first, third)}},
		{[]impl.Box{first, second}, []impl.Box{first}, []impl.Box{first}},
		{[]impl.Box{first, second}, []impl.Box{second}, []impl.Box{joined(first, second)}},
		{[]impl.Box{first, second}, []impl.Box{first, second}, []impl.Box{first}},
		{[]impl.Box{first, second}, []impl.Box{third, first}, []impl.Box{joined(first, third)}},
		{[]impl.Box{third, other, first}, []impl.Box{more, second, other}, []impl.Box{joined(third, second), joined(other, more)}},
	} {
		for _, got := range [][]impl.Box{checksBoxLists(t, c.a, c.b, nil), checksBoxLists(t, c.b, c.a, nil)} {
			if !likeBoxLists(got, c.want) {
				t.Errorf("%#v; want %#v", got, c.want)
			}
		}
		a, b := storeOf(1, 200, c.a, nil), storeOf(2, 200, c.b, nil)
		got := checksStoresBothWays(t, twoStores{a, b})
		if !likeBoxLists(got.Boxes, c.want) || impl.FitsStore(a, b) || impl.FitsStore(b, a) || !impl.StoreOk(got) {
			t.Errorf("%#v; want %#v, which is right though they are not", got.Boxes, c.want)
		}
	}
}

// TestMailsOfSeveralBoxes: stores that are not right, so that a mail may be in as many boxes as wanted, and in one twice.
func TestMailsOfSeveralBoxes(t *testing.T) {
	list := func(mails ...[]int) []impl.Box {
		boxes := namedBoxes("a", "b", "c", "d")[:len(mails)]
		for i, gids := range mails {
			for _, gid := range gids {
				boxes[i].Mails = append(boxes[i].Mails, someMail(gid, boxes[i].Next))
				boxes[i].Next++
			}
		}
		return boxes
	}
	for _, c := range []struct {
		a    []impl.Box
		want string
	}{
		{list([]int{7}, []int{7}), "1 a 2 7:1; 2 b 2; []"},
		{list([]int{7}, []int{7}, []int{7}), "1 a 2 7:1; 2 b 2; 3 c 2; []"},
		{list([]int{}, []int{7}, []int{7}), "1 a 1; 2 b 2 7:1; 3 c 2; []"},
		{list([]int{7, 8}, []int{9, 8, 10}, []int{10, 7, 11}), "1 a 3 7:1 8:2; 2 b 4 9:1 10:3; 3 c 4 11:3; []"},
		{list([]int{7, 8}, []int{8, 7}, []int{9}, []int{9, 7, 8}), "1 a 3 7:1 8:2; 2 b 3; 3 c 2 9:1; 4 d 4; []"},
		{list([]int{7, 7}, []int{8, 7, 7, 9}), "1 a 3 7:1 7:2; 2 b 5 8:1 9:4; []"},
		{list([]int{1, 2}, []int{2, 3}), "1 a 3 1:1 2:2; 2 b 3 3:2; []"},
		{list([]int{0, -1}, []int{-1, 0, 5}), "1 a 3 0:1 -1:2; 2 b 4 5:3; []"},
	} {
		a := storeOf(1, 200, c.a, nil)
		for _, p := range []twoStores{{a, storeOf(2, 100, nil, nil)}, {a, storeOf(2, 300, nil, []int{4321})}, {storeOf(2, 100, nil, nil), a}} {
			got := checksStoresBothWays(t, p)
			got.Gone = nil
			if brief(got) != c.want {
				t.Errorf("%s; want %s", brief(got), c.want)
			}
		}
		// A list of boxes alone is not a store: there each mail stays where it is.
		if got := checksBoxLists(t, c.a, nil, nil); !likeBoxLists(got, c.a) {
			t.Errorf("JoinBoxes took mails out: %#v", got)
		}
	}
	// Just mails count: neither the Gids of boxes nor what is Gone.
	boxes := list([]int{9}, []int{1, 7, 5})
	boxes[0].Gone = []int{7}
	if got := checksStoresBothWays(t, twoStores{storeOf(1, 200, boxes, []int{5}), storeOf(2, 200, nil, nil)}); brief(got) != "1 a 2 9:1 -7; 2 b 4 1:1 7:2 5:3; [5]" {
		t.Errorf("%s", brief(got))
	}
}

// TestOrderOfMailsAndBoxes: the box of the lesser Gid is the earlier one, wherever it stands in its list.
func TestOrderOfMailsAndBoxes(t *testing.T) {
	boxes := namedBoxes("same", "same", "same")
	for i := range boxes {
		boxes[i].Mails, boxes[i].Next = []impl.Mail{someMail(70, 4), someMail(80+i, 5)}, 6
	}
	for _, order := range orders(3) {
		a := storeOf(1, 200, nil, nil)
		for _, n := range order {
			a.Boxes = append(a.Boxes, copyBox(boxes[n]))
		}
		for _, b := range []impl.Store{storeOf(2, 7, nil, nil), a} {
			if got := checksStoresBothWays(t, twoStores{a, b}); brief(got) != "1 same 6 70:4 80:5; 2 samex2 6 81:5; 3 samex3 6 82:5; []" {
				t.Errorf("order %v: %s", order, brief(got))
			}
		}
	}
}

// TestFlagsOfBothStores: as chapter 8 has it, in each of several boxes.
func TestFlagsOfBothStores(t *testing.T) {
	p := wentApart(t, []storeCall{marks(5, 40, 1), marks(6, 60, 7), puts(5, 70)}, []storeCall{marks(5, 40, 2), marks(5, 20, 4), marks(6, 60, 0), marks(6, 60, 4)})
	const want = "inbox 4\n 1 3 3430\n 2 4 3230\n 3 0 3730\nwork 2\n 1 7 3630\n"
	for _, p := range []twoStores{p, p.turned()} {
		if got := checksRightStores(t, p); impl.SaidOf(got) != want {
			t.Errorf("%q; want %q", impl.SaidOf(got), want)
		}
	}
}

// TestByAndTimeOfBoth: By of the first and the greater Time, right or not.
func TestByAndTimeOfBoth(t *testing.T) {
	numbers := []int{math.MinInt, -1, 0, 1, 2, 3, 99999, 100000, 100001, math.MaxInt}
	for _, x := range numbers {
		for _, y := range numbers {
			a, b := oneStore(t, x), oneStore(t, y)
			a.Time, b.Time = y, x
			if got := checksStoresBothWays(t, twoStores{a, b}); got.By != x || got.Time != max(x, y) || !impl.Alike(a, b) {
				t.Errorf("By %d and %d, Time %d and %d: By %d, Time %d", x, y, y, x, got.By, got.Time)
			}
		}
	}
}

func TestRightStoresWithThemselves(t *testing.T) {
	for _, s := range rightStores() {
		other := s
		other.By = 3 - s.By
		for _, p := range []twoStores{{s, s}, {s, other}, {s, storeOf(2, 0, nil, nil)}, {s, storeOf(1, 0, nil, s.Gone)}} {
			if got := checksRightStores(t, p); !likeStores(got, s) || !impl.FitsStore(p.a, p.b) {
				t.Errorf("%#v with %#v is %#v", s, p.b, got)
			}
		}
	}
}

func TestRightStoresWithEachOther(t *testing.T) {
	list := rightStores()
	fits := 0
	for i, a := range list {
		for j := i % 4; j < len(list); j += 4 {
			checksRightStores(t, twoStores{a, list[j]})
			if impl.FitsStore(a, list[j]) {
				fits++
			}
		}
	}
	if fits < 60 {
		t.Errorf("%d fit", fits)
	}
}

// boxesApart have as many boxes of both, of a and of b, all with names of their own.
func boxesApart(both, a, b int) twoStores {
	all := someStore(both+a+b, 0).Boxes
	p := twoStores{storeOf(1, 200, nil, nil), storeOf(2, 300, nil, nil)}
	for i, one := range all {
		if i > 8 {
			// Its Gids would be past the end.
			one.Mails, one.Gone = nil, nil
		}
		if i < both+a {
			p.a.Boxes = append(p.a.Boxes, one)
		}
		if i < both || i >= both+a {
			p.b.Boxes = append(p.b.Boxes, copyBox(one))
		}
	}
	return p
}

func TestBoxesOfBothTogether(t *testing.T) {
	for both := range 6 {
		for a := range 6 - both {
			for b := range 6 - both {
				p := boxesApart(both, a, b)
				got := checksRightStores(t, p)
				if fits := impl.FitsStore(p.a, p.b); len(got.Boxes) != both+a+b || fits != (both+a+b <= 5) {
					t.Errorf("%d of both, %d and %d: %d boxes, fits %v", both, a, b, len(got.Boxes), fits)
				}
				if both+a+b != 6 || a == 0 {
					continue
				}
				// What is Gone in one makes room.
				p.b.Gone = []int{p.a.Boxes[both].Gid}
				if got := checksRightStores(t, p); len(got.Boxes) != 5 || !impl.FitsStore(p.a, p.b) {
					t.Errorf("%d of both, %d and %d, one Gone: %d boxes", both, a, b, len(got.Boxes))
				}
			}
		}
	}
}

func TestGoneBoxesOfBothTogether(t *testing.T) {
	for a := range 21 {
		for _, b := range []int{0, 1, 19 - a, 20 - a, 21 - a, 20} {
			if b < 0 || b > 20 {
				continue
			}
			for _, common := range []int{0, min(a, b), min(a, b) / 2} {
				p := twoStores{storeOf(1, 3, nil, numbersFrom(100, a)), storeOf(2, 4, nil, numbersFrom(100+a-common, b))}
				got := checksRightStores(t, p)
				if fits := impl.FitsStore(p.a, p.b); len(got.Gone) != a+b-common || fits != (a+b-common <= 20) {
					t.Errorf("%d and %d, %d of both: %d Gone, fits %v", a, b, common, len(got.Gone), fits)
				}
			}
		}
	}
}

// TestStoresWhoseBoxesDoNotFit: each limit of a box, met by what both come to, and passed by one.
func TestStoresWhoseBoxesDoNotFit(t *testing.T) {
	base := someStore(3, 2)
	for place := range base.Boxes {
		for _, c := range []struct {
			pair twoBoxes
			want bool
		}{
			{fullBoxes(2, 4, 4), true},
			{fullBoxes(2, 5, 4), false},
			{twoBoxes{boxOf(1, nil, numbersFrom(1, 30)), boxOf(1, nil, numbersFrom(31, 10))}, true},
			{twoBoxes{boxOf(1, nil, numbersFrom(1, 30)), boxOf(1, nil, numbersFrom(31, 11))}, false},
			{twoBoxes{boxOf(9999, []impl.Mail{someMail(70, 2)}, nil), boxOf(9999, nil, nil)}, true},
			{twoBoxes{boxOf(9999, []impl.Mail{someMail(70, 2)}, nil), boxOf(9999, []impl.Mail{someMail(71, 2)}, nil)}, false},
		} {
			p := twoStores{copyStore(base), copyStore(base)}
			for s, b := range map[*impl.Store]impl.Box{&p.a: c.pair.a, &p.b: c.pair.b} {
				b.Gid, b.Name, b.Named = s.Boxes[place].Gid, s.Boxes[place].Name, s.Boxes[place].Named
				s.Boxes[place] = b
			}
			checksRightStores(t, p)
			if fits := impl.FitsStore(p.a, p.b); fits != c.want {
				t.Errorf("box %d of %#v: fits %v", place, c.pair, fits)
			}
		}
	}
}

// TestMailsThatAreLeftOutMakeRoom: what an earlier box has does not count in a later one.
func TestMailsThatAreLeftOutMakeRoom(t *testing.T) {
	p := twoStores{someStore(2, 0), someStore(2, 0)}
	for _, s := range []*impl.Store{&p.a, &p.b} {
		s.Boxes[1].Mails, s.Boxes[1].Next = nil, 1
	}
	p.a.Boxes[0].Mails, p.a.Boxes[0].Next = mailsFrom(1, 1), 2
	p.b.Boxes[0].Mails, p.b.Boxes[0].Next = nil, 1
	gid := p.a.Boxes[0].Mails[0].Gid
	p.a.Boxes[1].Mails, p.a.Boxes[1].Next = []impl.Mail{someMail(600, 1), someMail(601, 2)}, 3
	p.b.Boxes[1].Mails, p.b.Boxes[1].Next = mailsFrom(1, 9), 10
	p.b.Boxes[1].Mails[4].Gid = gid
	for i := range p.b.Boxes[1].Mails {
		if i != 4 {
			p.b.Boxes[1].Mails[i].Gid = 500 + i
		}
	}
	got := checksRightStores(t, p)
	if len(got.Boxes[1].Mails) != 10 || impl.Holds(got.Boxes[1], gid) || !impl.FitsStore(p.a, p.b) {
		t.Errorf("%s, fits %v", brief(got), impl.FitsStore(p.a, p.b))
	}
	if impl.FitsBox(p.a.Boxes[1], p.b.Boxes[1]) {
		t.Errorf("the box by itself fits")
	}
}

// TestStoresThatAreNotRightJoined: what the words give of them, and they never fit.
func TestStoresThatAreNotRightJoined(t *testing.T) {
	wrong := wrongStores()
	for i, w := range wrong {
		for _, other := range []impl.Store{someStore(3, 2), storeOf(2, 200, nil, nil), storeOf(1, 100000, nil, []int{100, 8001}), w, wrong[(i*5+2)%len(wrong)]} {
			p := twoStores{w, other}
			checksStoresBothWays(t, p)
			if impl.FitsStore(p.a, p.b) || impl.FitsStore(p.b, p.a) {
				t.Fatalf("%#v fits %#v", w, other)
			}
		}
	}
}

// TestWrongStoresThatComeToRightOnes: one side is not right, for a cause that is gone in what both come to.
func TestWrongStoresThatComeToRightOnes(t *testing.T) {
	a := someStore(4, 3)
	a.Time = 500
	for name, change := range map[string]func(s *impl.Store){
		"By 0":                func(s *impl.Store) { s.By = 0 },
		"By 3":                func(s *impl.Store) { s.By = 3 },
		"Time below 0":        func(s *impl.Store) { s.Boxes, s.Time = nil, -1 },
		"a stamp above Time":  func(s *impl.Store) { s.Boxes[1].Named.Time = s.Time + 1 },
		"boxes turned":        func(s *impl.Store) { slices.Reverse(s.Boxes) },
		"a box twice":         func(s *impl.Store) { s.Boxes[1] = copyBox(s.Boxes[0]) },
		"one name for two":    func(s *impl.Store) { s.Boxes[2].Name, s.Boxes[2].Named = s.Boxes[1].Name, stampOf(100, 1) },
		"a box that is Gone":  func(s *impl.Store) { s.Gone = append([]int{s.Boxes[0].Gid}, s.Gone...) },
		"Gone turned":         func(s *impl.Store) { slices.Reverse(s.Gone) },
		"Gone twice":          func(s *impl.Store) { s.Gone = append(s.Gone, s.Gone[2]) },
		"a mail in two boxes": func(s *impl.Store) { s.Boxes[2].Mails = append(s.Boxes[2].Mails, withUid(s.Boxes[0].Mails[0], 20)) },
		"mails turned":        func(s *impl.Store) { slices.Reverse(s.Boxes[2].Mails) },
		"a mail that is Gone": func(s *impl.Store) { s.Boxes[2].Mails[0].Gid = s.Boxes[2].Gone[0] },
		"an earlier name":     func(s *impl.Store) { s.Boxes[2].Name, s.Boxes[2].Named = "", stampOf(1, 1) },
		"a text too long": func(s *impl.Store) {
			s.Gone = []int{s.Boxes[3].Gid}
			s.Boxes[3].Mails[0].Text = strings.Repeat("t", 61)
		},
	} {
		b := withPart(a, func(s *impl.Store) { s.By, s.Time = 2, 300; s.Boxes[2].Next = 40; change(s) })
		if storeOkByWords(b) || impl.StoreOk(b) {
			t.Fatalf("%s: %#v is right", name, b)
		}
		if got := checksStoresBothWays(t, twoStores{a, b}); !impl.StoreOk(got) || impl.FitsStore(a, b) || impl.FitsStore(b, a) {
			t.Errorf("%s: fits %v and %v, and comes to %#v", name, impl.FitsStore(a, b), impl.FitsStore(b, a), got)
		}
	}
}

// TestAlike: By and Time are no matter; each other field by itself is.
func TestAlike(t *testing.T) {
	s := someStore(3, 3)
	s.Boxes[2].Mails = nil
	for _, by := range []int{-1, 0, 1, 2, 3, math.MaxInt} {
		for _, time := range []int{math.MinInt, 0, 200, 201, 100001} {
			other := copyStore(s)
			other.By, other.Time = by, time
			if !impl.Alike(s, other) || !impl.Alike(other, s) {
				t.Errorf("By %d and Time %d are looked at", by, time)
			}
		}
	}
	unlike := []func(s *impl.Store){
		func(s *impl.Store) { s.Gone = nil },
		func(s *impl.Store) { s.Gone = s.Gone[:2] },
		func(s *impl.Store) { s.Gone = append(s.Gone, 9999) },
		func(s *impl.Store) { s.Gone[1]++ },
		func(s *impl.Store) { slices.Reverse(s.Gone) },
		func(s *impl.Store) { s.Boxes = nil },
		func(s *impl.Store) { s.Boxes = s.Boxes[:2] },
		func(s *impl.Store) { s.Boxes = s.Boxes[1:] },
		func(s *impl.Store) { s.Boxes = append(s.Boxes, impl.Box{}) },
		func(s *impl.Store) { slices.Reverse(s.Boxes) },
	}
	for i := range s.Boxes {
		unlike = append(unlike,
			func(s *impl.Store) { s.Boxes[i].Gid++ },
			func(s *impl.Store) { s.Boxes[i].Name += "x" },
			func(s *impl.Store) { s.Boxes[i].Name = strings.ToUpper(s.Boxes[i].Name) },
			func(s *impl.Store) { s.Boxes[i].Named.Time++ },
			func(s *impl.Store) { s.Boxes[i].Named.By++ },
			func(s *impl.Store) { s.Boxes[i].Next++ },
			func(s *impl.Store) { s.Boxes[i].Gone = nil },
			func(s *impl.Store) { s.Boxes[i].Gone[1]-- },
			func(s *impl.Store) { s.Boxes[i].Gone = append(s.Boxes[i].Gone, 9999) },
			func(s *impl.Store) { s.Boxes[i].Mails = append(s.Boxes[i].Mails, impl.Mail{}) },
		)
	}
	for i := range mailsIn(&s) {
		unlike = append(unlike,
			func(s *impl.Store) { mailsIn(s)[i].Gid++ },
			func(s *impl.Store) { mailsIn(s)[i].Uid-- },
			func(s *impl.Store) { mailsIn(s)[i].Text += "\x00" },
			func(s *impl.Store) { mailsIn(s)[i].Flags = nil },
			func(s *impl.Store) { mailsIn(s)[i].Flags = mailsIn(s)[i].Flags[:2] },
			func(s *impl.Store) { mailsIn(s)[i].Flags = append(mailsIn(s)[i].Flags, impl.Reg{}) },
		)
		for k := range 3 {
			unlike = append(unlike,
				func(s *impl.Store) { mailsIn(s)[i].Flags[k].Val ^= 1 },
				func(s *impl.Store) { mailsIn(s)[i].Flags[k].Stamp.Time++ },
				func(s *impl.Store) { mailsIn(s)[i].Flags[k].Stamp.By-- },
			)
		}
	}
	for i, change := range unlike {
		other := withPart(s, change)
		if impl.Alike(s, other) || impl.Alike(other, s) || !impl.Alike(other, copyStore(other)) {
			t.Errorf("change %d: Alike(%#v, %#v)", i, s, other)
		}
	}
	if !impl.Alike(impl.Store{}, storeOf(2, 9, []impl.Box{}, []int{})) {
		t.Error("an empty list and none are not alike")
	}
	for _, s := range append(rightStores(), wrongStores()...) {
		if !impl.Alike(s, s) || !impl.Alike(s, copyStore(s)) {
			t.Errorf("%#v is not like itself", s)
		}
	}
}

// TestAlikeOfEmptyLists: none and an empty one, in a box and in a mail.
func TestAlikeOfEmptyLists(t *testing.T) {
	none := storeOf(1, 3, []impl.Box{{Gid: 1, Mails: []impl.Mail{{Gid: 2}}}, {Gid: 3}}, nil)
	empty := storeOf(1, 3, []impl.Box{{Gid: 1, Mails: []impl.Mail{{Gid: 2, Flags: []impl.Reg{}}}, Gone: []int{}}, {Gid: 3, Mails: []impl.Mail{}}}, []int{})
	if !impl.Alike(none, empty) || !impl.Alike(empty, none) {
		t.Error("an empty list and none are not alike")
	}
}

func TestSaidOf(t *testing.T) {
	box := func(name string, next int, mails ...impl.Mail) impl.Box {
		return impl.Box{Gid: 9, Name: name, Named: stampOf(8, 2), Next: next, Mails: mails, Gone: []int{3}}
	}
	mail := func(uid int, text string, vals ...int) impl.Mail {
		m := impl.Mail{Gid: 77, Uid: uid, Text: text}
		for _, val := range vals {
			m.Flags = append(m.Flags, regOf(val, 5, 1))
		}
		return m
	}
	long, longest := strings.Repeat("t", 20001), strings.Repeat("t", 20000)
	for _, c := range []struct {
		boxes []impl.Box
		want  string
	}{
		{nil, ""},
		{[]impl.Box{}, ""},
		{[]impl.Box{box("inbox", 1)}, "inbox 1\n"},
		{[]impl.Box{box("", 0)}, " 0\n"},
		{[]impl.Box{{}}, " 0\n"},
		{[]impl.Box{box("inbox", 10000), box("work", 3)}, "inbox 10000\nwork 3\n"},
		{[]impl.Box{box("inbox", 2, mail(1, "hi", 0, 0, 0))}, "inbox 2\n 1 0 6869\n"},
		{[]impl.Box{box("inbox", 2, mail(1, "", 1, 0, 0))}, "inbox 2\n 1 1 \n"},
		{[]impl.Box{box("inbox", 2, impl.Mail{})}, "inbox 2\n 0 0 \n"},
		{[]impl.Box{box("", -1, mail(-1, "", 0, 0, 0))}, " 0\n 0 0 \n"},
		{[]impl.Box{box("a", -7, mail(math.MinInt, "\x00\x7f\x80\xff", 0, 1, 0)), box("b", math.MinInt)}, "a 0\n 0 2 007f80ff\nb 0\n"},
		{[]impl.Box{box("a", math.MaxInt, mail(math.MaxInt, "z", 0, 0, 1))}, "a 9223372036854775807\n 9223372036854775807 4 7a\n"},
		{[]impl.Box{box("a", 20, mail(3, "c", 1, 1, 1), mail(12, "a", 1, 0, 1), mail(7, "b", 0, 1, 1))}, "a 20\n 3 7 63\n 12 5 61\n 7 6 62\n"},
		{[]impl.Box{box("a", 2, mail(1, "1")), box("b", 3, mail(1, "2", 1), mail(2, "3", 1, 1)), box("c", 1)}, "a 2\n 1 0 31\nb 3\n 1 1 32\n 2 3 33\nc 1\n"},
		{[]impl.Box{box("a", 2, mail(1, "1", 0, 0, 0, 1)), box("a", 2, mail(1, "1", -1, 2, -3, 5)), box("a", 2, mail(1, "1", 3, 4, -6))}, "a 2\n 1 0 31\na 2\n 1 5 31\na 2\n 1 1 31\n"},
		{[]impl.Box{box("In \n\xff", 2, mail(1, " \n", 0, 0, 0))}, "In \n\xff 2\n 1 0 200a\n"},
		{[]impl.Box{box("a", 2, mail(1, longest, 0, 0, 0))}, "a 2\n 1 0 " + strings.Repeat("74", 20000) + "\n"},
		{[]impl.Box{box("a", 3, mail(1, long, 1, 0, 0), mail(2, "n", 0, 0, 0))}, "a 3\n 1 1 \n 2 0 6e\n"},
		{[]impl.Box{box(longest+long, 3)}, longest + long + " 3\n"},
	} {
		for _, s := range []impl.Store{storeOf(1, 9, c.boxes, nil), storeOf(-5, -9, c.boxes, []int{9, 77, -1})} {
			if got := impl.SaidOf(s); got != c.want || saidByWords(s) != c.want {
				t.Errorf("SaidOf(%#v) = %q; want %q", c.boxes, got, c.want)
			}
		}
	}
}

func TestSaidOfStores(t *testing.T) {
	for _, s := range append(rightStores(), wrongStores()...) {
		if got, want := impl.SaidOf(s), saidByWords(s); got != want {
			t.Fatalf("SaidOf(%#v) = %q; want %q", s, got, want)
		}
	}
	if got := impl.SaidOf(oneStore(t, 2)); got != "inbox 3\n 1 0 3430\n 2 0 3230\nwork 2\n 1 0 3630\n" {
		t.Errorf("%q", got)
	}
}

func boxNames() []string {
	return []string{"inbox", "inbox", "inboxx5", "abcdefgh", "abcdefgh", "abcdefx7", "abcdefx8"}
}

// drawnApart is of few Gids and names, so that both sides often take the same ones.
func drawnApart(r *rand.Rand, p twoStores, steps int) twoStores {
	names := boxNames()
	for range steps {
		side := &p.a
		if r.Intn(2) == 0 {
			side = &p.b
		}
		box := 1 + r.Intn(8)
		if len(side.Boxes) > 0 && r.Intn(3) > 0 {
			box = side.Boxes[r.Intn(len(side.Boxes))].Gid
		}
		name := []string{"MakeBox", "RenameBox", "DropBox", "PutMail", "PutMail", "PutMail", "MarkMail", "DropMail", "MakeBox", "MakeBox"}[r.Intn(10)]
		c := storeCall{name, box, 11 + r.Intn(25), r.Intn(8), names[r.Intn(len(names))]}
		if name == "MakeBox" {
			c.box = 1 + r.Intn(12)
		}
		if name == "DropBox" && r.Intn(3) > 0 {
			continue
		}
		*side, _ = c.byWords(*side)
	}
	return p
}

func TestDrawnStoresThatWentApart(t *testing.T) {
	r := rand.New(rand.NewSource(99))
	fits, named, moved := 0, 0, 0
	for range 2500 {
		base := drawnApart(r, twoStores{impl.StoreNew(1), impl.StoreNew(1)}, r.Intn(16)).a
		other := copyStore(base)
		other.By = 2
		p := drawnApart(r, twoStores{base, other}, r.Intn(40))
		got := checksRightStores(t, p)
		if impl.FitsStore(p.a, p.b) {
			fits++
		}
		for _, b := range got.Boxes {
			own := boxOfTwo(p.a.Boxes, p.b.Boxes, b.Gid)
			if own.Name != b.Name {
				named++
			}
			if len(own.Mails) != len(b.Mails) {
				moved++
			}
		}
	}
	if fits < 800 || fits > 2400 || named < 300 || moved < 100 {
		t.Errorf("%d of 2500 fit, %d boxes have other names, %d have fewer mails", fits, named, moved)
	}
}

// drawnBoxes are of small numbers, so that many of two are alike; few lists are right.
func drawnBoxes(r *rand.Rand) []impl.Box {
	var list []impl.Box
	for range r.Intn(6) {
		b := drawnBox(r)
		b.Gid = r.Intn(7) - 1
		b.Name = []string{"a", "a", "ax3", "ax4", "", "abcdefgh"}[r.Intn(6)]
		list = append(list, b)
	}
	return list
}

func drawnGone(r *rand.Rand) []int {
	var list []int
	for range r.Intn(4) {
		list = append(list, r.Intn(9)-2)
	}
	return list
}

func TestDrawnStoresOfAnyKind(t *testing.T) {
	r := rand.New(rand.NewSource(999))
	twice := 0
	for range 8000 {
		p := twoStores{storeOf(r.Intn(4), r.Intn(9)-1, drawnBoxes(r), drawnGone(r)), storeOf(r.Intn(4), r.Intn(9)-1, drawnBoxes(r), drawnGone(r))}
		joined := checksStoresBothWays(t, p)
		checksBoxLists(t, p.a.Boxes, p.b.Boxes, drawnGone(r))
		gids := gidsOfBoxes(p.a.Boxes)
		if !slices.IsSorted(gidsOfBoxes(joined.Boxes)) {
			t.Fatalf("%v do not ascend", gidsOfBoxes(joined.Boxes))
		}
		if len(goneByWords(gids, nil)) != len(gids) {
			twice++
		}
	}
	if twice < 1000 {
		t.Errorf("%d have a Gid twice", twice)
	}
}

// TestStoresMeetAgainAndAgain: both come to the same each time; no box that was dropped comes back, and no number of a box is ever of two mails.
func TestStoresMeetAgainAndAgain(t *testing.T) {
	r := rand.New(rand.NewSource(9999))
	meetings := 0
	for range 120 {
		p := twoStores{impl.StoreNew(1), impl.StoreNew(2)}
		owners := [2]map[[2]int]int{{}, {}}
		for range 60 {
			before := p
			p = drawnApart(r, p, 1+r.Intn(4))
			checksNumbersOfStores(t, owners, p)
			if r.Intn(3) > 0 || !impl.FitsStore(p.a, p.b) {
				continue
			}
			meetings++
			joined := checksRightStores(t, p)
			for _, gid := range slices.Concat(before.a.Gone, before.b.Gone, p.a.Gone, p.b.Gone) {
				if boxAtByWords(joined, gid) >= 0 || !slices.Contains(joined.Gone, gid) {
					t.Fatalf("box %d came back in %#v", gid, joined)
				}
			}
			p = twoStores{impl.JoinStore(p.a, p.b), impl.JoinStore(p.b, p.a)}
			checksNumbersOfStores(t, owners, p)
			if !impl.Alike(p.a, p.b) || p.a.By != 1 || p.b.By != 2 || !impl.StoreOk(p.a) || !impl.StoreOk(p.b) {
				t.Fatalf("%#v and %#v came of a meeting", p.a, p.b)
			}
		}
	}
	if meetings < 600 {
		t.Errorf("%d meetings", meetings)
	}
}

func checksNumbersOfStores(t *testing.T, owners [2]map[[2]int]int, p twoStores) {
	t.Helper()
	for i, side := range []impl.Store{p.a, p.b} {
		for _, b := range side.Boxes {
			for _, m := range b.Mails {
				number := [2]int{b.Gid, m.Uid}
				if owner, known := owners[i][number]; known && owner != m.Gid {
					t.Fatalf("Uid %d of box %d was of %d and is of %d", m.Uid, b.Gid, owner, m.Gid)
				}
				owners[i][number] = m.Gid
			}
		}
	}
}

// TestLongListsOfBoxes: far past every limit; each is there once, in order.
func TestLongListsOfBoxes(t *testing.T) {
	var a, b []impl.Box
	for i := range 4000 {
		a = append(a, impl.Box{Gid: 8000 - 2*i, Name: "even", Next: i})
		b = append(b, impl.Box{Gid: 3*i + 1, Name: "third", Next: i}, impl.Box{Gid: 3*i + 1, Name: "again", Next: -1})
	}
	got := impl.JoinBoxes(a, b, []int{7, 10, 12})
	places := 0
	for gid := 1; gid <= 12000; gid++ {
		even, third := gid%2 == 0 && gid <= 8000, gid%3 == 1
		if !even && !third || slices.Contains([]int{7, 10, 12}, gid) {
			continue
		}
		next := (gid - 1) / 3
		if even && !third {
			next = (8000 - gid) / 2
		} else if even {
			next = max(next, (8000-gid)/2)
		}
		if places >= len(got) || got[places].Gid != gid || got[places].Next != next {
			t.Fatalf("place %d: want the box of Gid %d, Next %d", places, gid, next)
		}
		places++
	}
	if places != len(got) {
		t.Errorf("%d boxes; want %d", len(got), places)
	}
}

// TestStoreJoinsAnswerAlike: the same, call for call, also when many are under way.
func TestStoreJoinsAnswerAlike(t *testing.T) {
	p := roomyStores(wentApart(t, []storeCall{makes(7, "new"), puts(7, 70), renames(6, "away")}, []storeCall{makes(8, "new"), puts(8, 70), puts(5, 80)}))
	want := joinStoreByWords(p.a, p.b)
	var group sync.WaitGroup
	for range 8 {
		group.Go(func() {
			for range 200 {
				if got := impl.JoinStore(p.a, p.b); !likeStores(got, want) || !impl.FitsStore(p.a, p.b) || !likeBoxLists(impl.JoinBoxes(p.b.Boxes, p.a.Boxes, nil), joinBoxesByWords(p.a.Boxes, p.b.Boxes, nil)) {
					t.Errorf("JoinStore = %#v; want %#v", got, want)
					return
				}
			}
		})
	}
	group.Wait()
}

// TestNobodyIsLeft: whoever sent something has ended, whichever side has more, and where all is Gone.
func TestNobodyIsLeft(t *testing.T) {
	before := runtime.NumGoroutine()
	s := someStore(5, 20)
	for range 200 {
		for _, p := range []twoStores{{s, s}, {s, impl.Store{}}, {impl.Store{}, s}, {impl.Store{}, impl.Store{}}, boxesApart(1, 2, 2), boxesApart(0, 3, 4)} {
			impl.JoinStore(p.a, p.b)
			impl.FitsStore(p.a, p.b)
			for _, gone := range [][]int{nil, gidsOfBoxes(p.a.Boxes), gidsOfBoxes(p.b.Boxes), {100}, {500}} {
				impl.JoinBoxes(p.a.Boxes, p.b.Boxes, gone)
			}
		}
	}
	for wait := 0; runtime.NumGoroutine() > before && wait < 100; wait++ {
		time.Sleep(10 * time.Millisecond)
	}
	if left := runtime.NumGoroutine() - before; left > 0 {
		t.Errorf("%d are left", left)
	}
}

func roomyStores(p twoStores) twoStores {
	return twoStores{roomyStore(p.a), roomyStore(p.b)}
}

// memoryTwos: boxes of both, of one side, with names of their own and with other ones, and stores that are not right.
func memoryTwos(t *testing.T) []twoStores {
	t.Helper()
	apart := wentApart(t, []storeCall{makes(7, "new"), puts(7, 70), puts(5, 71), takes(5, 20)}, []storeCall{makes(8, "new"), puts(8, 70), puts(5, 80), makes(9, "work2"), drops(6)})
	full := boxesApart(2, 2, 1)
	full.a.Gone, full.b.Gone = numbersFrom(8001, 9), numbersFrom(8005, 12)
	list := []twoStores{apart, full, {apart.a, apart.a}, {full.b, full.b}, {apart.a, impl.StoreNew(2)}, {impl.StoreNew(1), impl.StoreNew(2)}, boxesApart(0, 3, 3), {someStore(4, 3), someStore(2, 20)}}
	for i, w := range wrongStores() {
		if i%9 == 0 {
			list = append(list, twoStores{w, apart.a}, twoStores{w, w}, twoStores{w, someStore(4, 3)})
		}
	}
	for _, p := range slices.Clone(list) {
		list = append(list, p.turned())
	}
	return list
}

// storeJoinsOf are all answers that have lists: a store of each.
func storeJoinsOf(p twoStores) []impl.Store {
	return []impl.Store{impl.JoinStore(p.a, p.b), {Boxes: impl.JoinBoxes(p.a.Boxes, p.b.Boxes, p.a.Gone)}, {Boxes: impl.JoinBoxes(p.a.Boxes, p.b.Boxes, nil)}}
}

func TestStoreJoinsLeaveTheirArguments(t *testing.T) {
	for _, given := range memoryTwos(t) {
		p := roomyStores(given)
		wholeA, wholeB := wholeStore(p.a), wholeStore(p.b)
		storeJoinsOf(p)
		impl.FitsStore(p.a, p.b)
		impl.Alike(p.a, p.b)
		impl.SaidOf(p.a)
		if !likeStores(wholeStore(p.a), wholeA) || !likeStores(wholeStore(p.b), wholeB) {
			t.Fatalf("%#v was written into, or behind its end", given)
		}
	}
}

func TestStoreJoinsNewMemory(t *testing.T) {
	for _, given := range memoryTwos(t) {
		for i := range storeJoinsOf(given) {
			p := roomyStores(given)
			answer := storeJoinsOf(p)[i]
			kept := copyStore(answer)
			spoilStore(p.a)
			spoilStore(p.b)
			if !likeStores(answer, kept) {
				t.Fatalf("%#v became %#v when an argument was changed", kept, answer)
			}
			p = roomyStores(given)
			wholeA, wholeB := wholeStore(p.a), wholeStore(p.b)
			spoilStore(storeJoinsOf(p)[i])
			if !likeStores(wholeStore(p.a), wholeA) || !likeStores(wholeStore(p.b), wholeB) {
				t.Fatalf("%#v changed with answer %d", given, i)
			}
			first, second := storeJoinsOf(p)[i], storeJoinsOf(p)[i]
			kept = copyStore(second)
			spoilStore(first)
			if !likeStores(second, kept) {
				t.Fatalf("%#v: of two answers one changed with the other", given)
			}
		}
	}
}

func TestStoreJoinsShareNoTexts(t *testing.T) {
	for _, given := range memoryTwos(t) {
		p := roomyStores(given)
		theirs := slices.Concat(textsOfStore(p.a), textsOfStore(p.b))
		ours := []string{impl.SaidOf(p.a), impl.SaidOf(p.b)}
		for _, answer := range storeJoinsOf(p) {
			ours = append(ours, textsOfStore(answer)...)
		}
		for _, name := range theirs {
			ours = append(ours, impl.OtherName(name, 0), impl.OtherName(name, 5))
		}
		for _, text := range ours {
			if slices.ContainsFunc(theirs, func(other string) bool { return sharesMemory(text, other) }) {
				t.Fatalf("of %#v the text %q is shared", given, text)
			}
		}
	}
}

// apartFromEachOther turns each list of a store by itself, and no other may change with it.
func apartFromEachOther(t *testing.T, answer impl.Store) {
	t.Helper()
	for i := range mailsIn(&answer) {
		kept := copyStore(answer)
		spoil(mailsIn(&answer)[i].Flags)
		mailsIn(&kept)[i].Flags = mailsIn(&answer)[i].Flags
		if !likeStores(answer, kept) {
			t.Fatalf("flags of mail %d are shared: %#v", i, answer)
		}
	}
	for i := range answer.Boxes {
		kept := copyStore(answer)
		spoilNumbers(answer.Boxes[i].Gone)
		kept.Boxes[i].Gone = answer.Boxes[i].Gone
		if !likeStores(answer, kept) {
			t.Fatalf("Gone of box %d is shared: %#v", i, answer)
		}
	}
	for i := range answer.Boxes {
		kept := copyStore(answer)
		mails := answer.Boxes[i].Mails
		for j := range mails[:cap(mails)] {
			mails[:cap(mails)][j] = impl.Mail{Gid: -7}
		}
		kept.Boxes[i].Mails = mails
		if !likeStores(answer, kept) {
			t.Fatalf("mails of box %d are shared: %#v", i, answer)
		}
	}
	kept := copyStore(answer)
	spoilNumbers(answer.Gone)
	kept.Gone = answer.Gone
	if !likeStores(answer, kept) {
		t.Fatalf("Gone is shared: %#v", answer)
	}
}

// TestListsOfOneStoreJoinApart: also where lists of both arguments lie in one memory.
func TestListsOfOneStoreJoinApart(t *testing.T) {
	numbers, flags := []int{8001, 8002}, flagsOf(3, stampOf(4, 1))
	for _, p := range []twoStores{boxesApart(2, 2, 1), boxesApart(0, 3, 3), boxesApart(4, 0, 0), {someStore(6, 0), someStore(3, 0)}} {
		for _, s := range []*impl.Store{&p.a, &p.b} {
			s.Gone = numbers
			for i := range s.Boxes {
				s.Boxes[i].Gone = numbers
			}
			for _, m := range mailsIn(s) {
				m.Flags = flags
			}
		}
		for i := range p.a.Boxes[1:] {
			p.a.Boxes[i].Mails = p.a.Boxes[0].Mails
		}
		for _, p := range []twoStores{p, p.turned(), {p.a, p.a}} {
			for _, answer := range storeJoinsOf(p) {
				apartFromEachOther(t, answer)
			}
		}
	}
}
