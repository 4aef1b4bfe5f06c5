package tests

import (
	"cmp"
	"math"
	"math/rand"
	"slices"
	"strings"
	"testing"

	"loop.example/g00324/impl"
)

func storeOf(by, time int, boxes []impl.Box, gone []int) impl.Store {
	return impl.Store{By: by, Time: time, Boxes: boxes, Gone: gone}
}

// boxOfStore has a Gid, a Name, a stamp and numbers of mails of its own, so that one that took another's would be seen.
func boxOfStore(place int) impl.Box {
	b := impl.Box{Gid: 100 * (place + 1), Name: "box" + string(rune('a'+place)), Named: stampOf(10+place, 1+place%2), Next: 1}
	for i := range 2 + place%3 {
		b.Mails = append(b.Mails, someMail(1000*(place+1)+(i*7)%13, b.Next+place))
		b.Next += 2 + place
	}
	b.Gone = []int{1000*(place+1) + 500, 1000*(place+1) + 503}
	return b
}

func someStore(boxes, gone int) impl.Store {
	s := storeOf(1, 200, nil, nil)
	for place := range boxes {
		s.Boxes = append(s.Boxes, boxOfStore(place))
	}
	for i := range gone {
		s.Gone = append(s.Gone, 8001+11*i)
	}
	return s
}

func likeStores(a, b impl.Store) bool {
	return a.By == b.By && a.Time == b.Time && slices.EqualFunc(a.Boxes, b.Boxes, likeBoxes) && slices.Equal(a.Gone, b.Gone)
}

func copyStore(s impl.Store) impl.Store {
	boxes := s.Boxes
	s.Boxes, s.Gone = nil, slices.Clone(s.Gone)
	for _, b := range boxes {
		s.Boxes = append(s.Boxes, copyBox(b))
	}
	return s
}

// withPart has one thing another way.
func withPart(s impl.Store, change func(s *impl.Store)) impl.Store {
	out := copyStore(s)
	change(&out)
	return out
}

// stampsIn are pointers, so that each stamp of a store can be turned by itself.
func stampsIn(s *impl.Store) []*impl.Stamp {
	var list []*impl.Stamp
	for i := range s.Boxes {
		b := &s.Boxes[i]
		list = append(list, &b.Named)
		for j := range b.Mails {
			for k := range b.Mails[j].Flags {
				list = append(list, &b.Mails[j].Flags[k].Stamp)
			}
		}
	}
	return list
}

func mailsIn(s *impl.Store) []*impl.Mail {
	var list []*impl.Mail
	for i := range s.Boxes {
		for j := range s.Boxes[i].Mails {
			list = append(list, &s.Boxes[i].Mails[j])
		}
	}
	return list
}

// storeOkByWords holds each with each, and asks for nothing of the program.
func storeOkByWords(s impl.Store) bool {
	if s.By != 1 && s.By != 2 || s.Time < 0 || s.Time > 100000 || len(s.Boxes) > 5 || len(s.Gone) > 20 {
		return false
	}
	for i, b := range s.Boxes {
		if !boxOkByWords(b) || slices.Contains(s.Gone, b.Gid) {
			return false
		}
		for _, other := range s.Boxes[:i] {
			if other.Gid >= b.Gid || other.Name == b.Name {
				return false
			}
		}
	}
	for i, gid := range s.Gone {
		if gid < 1 || gid > 9999 || i > 0 && s.Gone[i-1] >= gid {
			return false
		}
	}
	for _, stamp := range stampsIn(&s) {
		if stamp.Time > s.Time {
			return false
		}
	}
	mails := mailsIn(&s)
	for i, m := range mails {
		for _, other := range mails[:i] {
			if other.Gid == m.Gid {
				return false
			}
		}
	}
	return true
}

func boxNamedByWords(s impl.Store, name string) int {
	for i, b := range s.Boxes {
		if b.Name == name {
			return i
		}
	}
	return -1
}

func boxAtByWords(s impl.Store, gid int) int {
	for i, b := range s.Boxes {
		if b.Gid == gid {
			return i
		}
	}
	return -1
}

func knownByWords(s impl.Store) []int {
	list := slices.Clone(s.Gone)
	for _, b := range s.Boxes {
		list = append(list, b.Gid)
		list = append(list, b.Gone...)
	}
	for _, m := range mailsIn(&s) {
		list = append(list, m.Gid)
	}
	return list
}

// storeCall is one of the six that answer a store; box is the Gid of the box, text a Name or a mail's text.
type storeCall struct {
	name string
	box  int
	gid  int
	n    int
	text string
}

func (c storeCall) done(s impl.Store) (impl.Store, bool) {
	switch c.name {
	case "MakeBox":
		return impl.MakeBox(s, c.box, c.text)
	case "RenameBox":
		return impl.RenameBox(s, c.box, c.text)
	case "DropBox":
		return impl.DropBox(s, c.box)
	case "PutMail":
		return impl.PutMail(s, c.box, c.gid, c.n, c.text)
	case "MarkMail":
		return impl.MarkMail(s, c.box, c.gid, c.n)
	}
	return impl.DropMail(s, c.box, c.gid)
}

func (c storeCall) givesStamp() bool {
	return c.name != "DropBox" && c.name != "DropMail"
}

func (c storeCall) byWords(s impl.Store) (impl.Store, bool) {
	if !storeOkByWords(s) {
		return s, false
	}
	out := copyStore(s)
	if c.givesStamp() {
		out.Time++
	}
	if !c.changes(s, &out) || !storeOkByWords(out) {
		return s, false
	}
	return out, true
}

// changes is what the words make of a right store beside its Time.
func (c storeCall) changes(s impl.Store, out *impl.Store) bool {
	at, stamp, known := boxAtByWords(s, c.box), stampOf(s.Time+1, s.By), knownByWords(s)
	if c.name == "MakeBox" {
		out.Boxes = append(out.Boxes, impl.Box{Gid: c.box, Name: c.text, Named: stamp, Next: 1})
		slices.SortFunc(out.Boxes, func(a, b impl.Box) int { return cmp.Compare(a.Gid, b.Gid) })
		return !slices.Contains(known, c.box) && boxNamedByWords(s, c.text) < 0
	}
	if at < 0 {
		return false
	}
	ok := false
	switch c.name {
	case "RenameBox":
		out.Boxes[at].Name, out.Boxes[at].Named = c.text, stamp
		ok = boxNamedByWords(s, c.text) < 0
	case "DropBox":
		out.Boxes = slices.Delete(out.Boxes, at, at+1)
		out.Gone = append(out.Gone, c.box)
		slices.Sort(out.Gone)
		ok = len(s.Gone) < 20
	case "PutMail":
		out.Boxes[at], ok = addByWords(s.Boxes[at], c.gid, c.n, c.text, stamp)
		ok = ok && !slices.Contains(known, c.gid)
	case "MarkMail":
		out.Boxes[at], ok = flagByWords(s.Boxes[at], c.gid, c.n, stamp)
	case "DropMail":
		out.Boxes[at], ok = takeByWords(s.Boxes[at], c.gid)
	}
	return ok
}

func sixCalls(box, gid, n int, text string) []storeCall {
	var list []storeCall
	for _, name := range []string{"MakeBox", "RenameBox", "DropBox", "PutMail", "MarkMail", "DropMail"} {
		list = append(list, storeCall{name, box, gid, n, text})
	}
	return list
}

func checksStoreCall(t *testing.T, s impl.Store, c storeCall) (impl.Store, bool) {
	t.Helper()
	got, ok := c.done(s)
	want, wantOk := c.byWords(s)
	if ok != wantOk || !likeStores(got, want) {
		t.Fatalf("%#v of %#v = %#v, %#v; want %#v, %#v", c, s, got, ok, want, wantOk)
	}
	return got, ok
}

func refusesStoreCall(t *testing.T, s impl.Store, c storeCall) {
	t.Helper()
	kept := copyStore(s)
	if got, ok := c.done(s); ok || !likeStores(got, kept) {
		t.Fatalf("%#v of %#v = %#v, %#v", c, s, got, ok)
	}
}

// doesStoreCall wants just what change makes of the store, and nothing else of it turned.
func doesStoreCall(t *testing.T, s impl.Store, c storeCall, change func(s *impl.Store)) impl.Store {
	t.Helper()
	want := withPart(s, change)
	got, ok := c.done(s)
	if !ok || !likeStores(got, want) || !impl.StoreOk(got) {
		t.Fatalf("%#v of %#v = %#v, %v; want %#v", c, s, got, ok, want)
	}
	return got
}

// rightStores: stores of every size, and each thing with all that it may be.
func rightStores() []impl.Store {
	list := []impl.Store{storeOf(1, 0, nil, nil), storeOf(2, 0, []impl.Box{}, []int{}), storeOf(1, 100000, nil, []int{1, 9999}), storeOf(2, 1, nil, numbersFrom(9980, 20))}
	for boxes := range impl.MaxBoxes + 1 {
		for _, gone := range []int{0, 1, 19, 20} {
			list = append(list, someStore(boxes, gone))
		}
	}
	s := someStore(4, 3)
	add := func(change func(s *impl.Store)) { list = append(list, withPart(s, change)) }
	add(func(s *impl.Store) { s.By = 2 })
	for _, time := range []int{73, 99998, 99999, 100000} {
		add(func(s *impl.Store) { s.Time = time })
	}
	for _, gone := range [][]int{{1}, {9999}, {1, 2, 99, 101, 9999}, numbersFrom(1, 20)} {
		add(func(s *impl.Store) { s.Gone = gone })
	}
	// A Gid that a mail and a box have, or had, is of one mail still.
	add(func(s *impl.Store) { s.Boxes[0].Mails[0].Gid = s.Boxes[0].Gid })
	add(func(s *impl.Store) { s.Boxes[3].Mails[1].Gid = s.Boxes[1].Gid })
	add(func(s *impl.Store) { s.Boxes[1].Mails[0].Gid = s.Boxes[0].Gone[0] })
	add(func(s *impl.Store) { s.Boxes[2].Mails[0].Gid = s.Gone[1] })
	add(func(s *impl.Store) { s.Boxes[2].Gone = slices.Clone(s.Boxes[0].Gone) })
	add(func(s *impl.Store) { s.Boxes[0].Gid, s.Boxes[3].Gid = 1, 9999 })
	add(func(s *impl.Store) { s.Boxes[0].Gid, s.Boxes[1].Gid, s.Boxes[2].Gid, s.Boxes[3].Gid = 1, 2, 3, 4 })
	add(func(s *impl.Store) {
		s.Boxes[0].Name, s.Boxes[1].Name, s.Boxes[2].Name, s.Boxes[3].Name = "a", "aa", "aaaaaaaaaaaa", "aaaaaaaaaaab"
	})
	add(func(s *impl.Store) { s.Boxes[1].Next = 10000 })
	for i, b := range rightBoxes() {
		if i%4 == 0 {
			list = append(list, storeOf(1+i/4%2, 100000, []impl.Box{b}, nil))
		}
	}
	return list
}

// wrongStores: each is no store for one cause alone.
func wrongStores() []impl.Store {
	s := someStore(4, 3)
	var list []impl.Store
	add := func(change func(s *impl.Store)) { list = append(list, withPart(s, change)) }
	for _, by := range []int{0, 3, -1, 4, math.MaxInt, math.MinInt} {
		add(func(s *impl.Store) { s.By = by })
		list = append(list, storeOf(by, 0, nil, nil))
	}
	for _, time := range []int{-1, 100001, math.MaxInt, math.MinInt} {
		add(func(s *impl.Store) { s.Time = time })
		list = append(list, storeOf(1, time, nil, nil))
	}
	for _, gid := range wrongIds() {
		for _, gone := range [][]int{{gid}, {gid, 7}, {7, gid}} {
			add(func(s *impl.Store) { s.Gone = gone })
		}
	}
	for _, gone := range [][]int{{7, 7}, {8, 7}, {7, 8, 8}, {7, 7, 8}, {7, 9, 8}, {9, 7, 8}, numbersFrom(1, 21), numbersFrom(9979, 21), numbersFrom(1, 40)} {
		add(func(s *impl.Store) { s.Gone = gone })
		list = append(list, storeOf(1, 0, nil, gone))
	}
	list = append(list, someStore(6, 0), someStore(6, 3), someStore(7, 0), someStore(4, 21), someStore(5, 21), impl.Store{})
	for i := range s.Boxes {
		add(func(s *impl.Store) { s.Gone = slices.Sorted(slices.Values(append(s.Gone, s.Boxes[i].Gid))) })
		for j := range i {
			add(func(s *impl.Store) { s.Boxes[i], s.Boxes[j] = s.Boxes[j], s.Boxes[i] })
			add(func(s *impl.Store) { s.Boxes[i].Name = s.Boxes[j].Name })
		}
	}
	for i := range s.Boxes[1:] {
		add(func(s *impl.Store) { s.Boxes[i].Gid = s.Boxes[i+1].Gid })
	}
	for i := range stampsIn(&s) {
		add(func(s *impl.Store) { stampsIn(s)[i].Time = s.Time + 1 })
	}
	for i := range mailsIn(&s) {
		for j := range i {
			add(func(s *impl.Store) { mailsIn(s)[i].Gid = mailsIn(s)[j].Gid })
		}
	}
	for _, b := range wrongBoxes() {
		list = append(list, storeOf(1, 100000, []impl.Box{b}, nil))
	}
	for _, place := range []int{1, 3} {
		add(func(s *impl.Store) { s.Boxes[place].Next = 1 })
		add(func(s *impl.Store) { s.Boxes[place].Name = "" })
		add(func(s *impl.Store) { s.Boxes[place].Named.By = 3 })
		add(func(s *impl.Store) { s.Boxes[place].Gone = []int{3, 3} })
	}
	return list
}

func TestStoreLimits(t *testing.T) {
	if impl.MaxBoxes != 5 || impl.MaxGoneBoxes != 20 {
		t.Errorf("MaxBoxes = %d, MaxGoneBoxes = %d", impl.MaxBoxes, impl.MaxGoneBoxes)
	}
}

func TestStoreNew(t *testing.T) {
	for _, by := range []int{1, 2, 0, 3, -1, math.MaxInt, math.MinInt} {
		s := impl.StoreNew(by)
		if s.By != by || s.Time != 0 || len(s.Boxes) != 0 || len(s.Gone) != 0 {
			t.Errorf("StoreNew(%d) = %#v", by, s)
		}
		if got, want := impl.StoreOk(s), by == 1 || by == 2; got != want {
			t.Errorf("StoreOk(StoreNew(%d)) = %v", by, got)
		}
	}
}

func TestStoreOk(t *testing.T) {
	for _, s := range rightStores() {
		if !storeOkByWords(s) || !impl.StoreOk(s) {
			t.Errorf("StoreOk(%#v) = %v", s, impl.StoreOk(s))
		}
	}
	for _, s := range wrongStores() {
		if storeOkByWords(s) || impl.StoreOk(s) {
			t.Errorf("StoreOk(%#v) = %v", s, impl.StoreOk(s))
		}
	}
}

func TestStoreOkSizes(t *testing.T) {
	for boxes := range 8 {
		for gone := range 24 {
			if got, want := impl.StoreOk(someStore(boxes, gone)), boxes <= 5 && gone <= 20; got != want {
				t.Errorf("StoreOk of %d boxes, %d gone = %v", boxes, gone, got)
			}
		}
	}
}

func TestStoreOkTime(t *testing.T) {
	for _, time := range []int{math.MinInt, -1, 0, 1, 99999, 100000, 100001, math.MaxInt} {
		for by := range 4 {
			want := time >= 0 && time <= 100000 && (by == 1 || by == 2)
			if got := impl.StoreOk(storeOf(by, time, nil, []int{3})); got != want {
				t.Errorf("StoreOk of By %d and Time %d = %v", by, time, got)
			}
		}
	}
}

// TestStoreOkStamps: each stamp of a store by itself, around the store's Time.
func TestStoreOkStamps(t *testing.T) {
	for _, storeTime := range []int{0, 1, 200, 99999, 100000} {
		s := someStore(5, 2)
		s.Time = storeTime
		for _, stamp := range stampsIn(&s) {
			*stamp = impl.Stamp{}
		}
		for i := range stampsIn(&s) {
			for by := range 3 {
				for _, c := range []struct {
					time int
					want bool
				}{{0, true}, {storeTime, true}, {storeTime + 1, false}, {storeTime + 2, false}, {math.MaxInt, false}} {
					changed := withPart(s, func(s *impl.Store) { *stampsIn(s)[i] = stampOf(c.time, by) })
					if got := impl.StoreOk(changed); got != c.want {
						t.Fatalf("StoreOk of Time %d with %v as stamp %d = %v", storeTime, stampOf(c.time, by), i, got)
					}
				}
			}
		}
	}
}

// TestStoreOkEveryOrder: of the Gids of boxes and of Gone one order alone is right; of Names every one.
func TestStoreOkEveryOrder(t *testing.T) {
	for _, order := range orders(5) {
		gids, names, gone := someStore(5, 0), someStore(5, 0), someStore(5, 0)
		for place, n := range order {
			gids.Boxes[place].Gid = 100 * (n + 1)
			names.Boxes[place].Name = "box" + string(rune('a'+n))
			gone.Gone = append(gone.Gone, 10+n)
		}
		ascending := slices.IsSorted(order)
		if impl.StoreOk(gids) != ascending || !impl.StoreOk(names) || impl.StoreOk(gone) != ascending {
			t.Errorf("order %v: Gids %v, Names %v, Gone %v", order, impl.StoreOk(gids), impl.StoreOk(names), impl.StoreOk(gone))
		}
	}
}

// TestStoreOkLikeOnes: two alike, wherever they stand.
func TestStoreOkLikeOnes(t *testing.T) {
	s := someStore(5, 20)
	for i := range s.Boxes {
		for j := range i {
			for what, change := range map[string]func(s *impl.Store){
				"one Gid":  func(s *impl.Store) { s.Boxes[i].Gid = s.Boxes[j].Gid },
				"one Name": func(s *impl.Store) { s.Boxes[i].Name = s.Boxes[j].Name },
			} {
				if impl.StoreOk(withPart(s, change)) {
					t.Errorf("boxes %d and %d of %s are right", j, i, what)
				}
			}
		}
		for place := range s.Gone {
			gone := withPart(s, func(s *impl.Store) {
				s.Gone[place] = s.Boxes[i].Gid
				slices.Sort(s.Gone)
			})
			if impl.StoreOk(gone) {
				t.Errorf("box %d that is Gone is right", i)
			}
		}
	}
	for i := range mailsIn(&s) {
		for j := range i {
			if impl.StoreOk(withPart(s, func(s *impl.Store) { mailsIn(s)[i].Gid = mailsIn(s)[j].Gid })) {
				t.Errorf("mails %d and %d of one Gid are right", j, i)
			}
		}
	}
}

func TestStoreOkGids(t *testing.T) {
	for _, gid := range append(wrongIds(), rightIds()...) {
		want := gid >= 1 && gid <= 9999
		box := withField(boxOfStore(0), func(b *impl.Box) { b.Gid = gid })
		mail := withField(boxOfStore(0), func(b *impl.Box) { b.Mails[0].Gid = gid })
		for _, s := range []impl.Store{storeOf(1, 200, []impl.Box{box}, nil), storeOf(1, 200, []impl.Box{mail}, nil), storeOf(1, 200, nil, []int{gid})} {
			if got := impl.StoreOk(s); got != want {
				t.Errorf("StoreOk of Gid %d, %#v = %v", gid, s, got)
			}
		}
	}
}

func TestBoxNamedAndBoxAt(t *testing.T) {
	for _, s := range append(rightStores(), wrongStores()...) {
		names := append(rightNames(), wrongNames()...)
		gids := slices.Concat(wrongIds(), rightIds(), s.Gone)
		for _, b := range s.Boxes {
			names = append(names, b.Name, b.Name+"x", b.Name[:max(0, len(b.Name)-1)])
			gids = append(gids, b.Gid-1, b.Gid, b.Gid+1)
		}
		for _, name := range names {
			if got, want := impl.BoxNamed(s, name), boxNamedByWords(s, name); got != want {
				t.Fatalf("BoxNamed(%#v, %q) = %d; want %d", s, name, got, want)
			}
		}
		for _, gid := range gids {
			if got, want := impl.BoxAt(s, gid), boxAtByWords(s, gid); got != want {
				t.Fatalf("BoxAt(%#v, %d) = %d; want %d", s, gid, got, want)
			}
		}
	}
}

func TestFirstOfLikeBoxes(t *testing.T) {
	s := someStore(4, 2)
	for place, b := range s.Boxes {
		if impl.BoxNamed(s, b.Name) != place || impl.BoxAt(s, b.Gid) != place {
			t.Errorf("box %d stands at %d by its Name, at %d by its Gid", place, impl.BoxNamed(s, b.Name), impl.BoxAt(s, b.Gid))
		}
	}
	for i := range s.Boxes {
		for j := range i {
			like := withPart(s, func(s *impl.Store) { s.Boxes[i].Gid, s.Boxes[i].Name = s.Boxes[j].Gid, s.Boxes[j].Name })
			if impl.BoxNamed(like, s.Boxes[j].Name) != j || impl.BoxAt(like, s.Boxes[j].Gid) != j {
				t.Errorf("of the like boxes %d and %d the first is not taken", j, i)
			}
			if impl.BoxNamed(like, s.Boxes[i].Name) != -1 || impl.BoxAt(like, s.Boxes[i].Gid) != -1 {
				t.Errorf("what box %d had is found still", i)
			}
		}
	}
	// Boxes that are not right have places as well.
	odd := storeOf(9, -4, []impl.Box{{}, {Gid: -4, Name: "In Box"}, {}}, nil)
	if impl.BoxAt(odd, 0) != 0 || impl.BoxAt(odd, -4) != 1 || impl.BoxNamed(odd, "") != 0 || impl.BoxNamed(odd, "In Box") != 1 {
		t.Error("boxes that are not right are not found")
	}
	if impl.BoxAt(impl.Store{}, 0) != -1 || impl.BoxNamed(impl.Store{}, "") != -1 {
		t.Error("a store of nothing has a box")
	}
}

func TestKnows(t *testing.T) {
	s := someStore(3, 2)
	for place, b := range s.Boxes {
		for _, gid := range slices.Concat([]int{b.Gid}, b.Gone) {
			if !impl.Knows(s, gid) {
				t.Errorf("Knows of %d, which is, or is Gone from, box %d, = false", gid, place)
			}
		}
		for _, m := range b.Mails {
			if !impl.Knows(s, m.Gid) {
				t.Errorf("Knows of mail %d of box %d = false", m.Gid, place)
			}
			// A Uid is no Gid.
			if impl.Knows(s, m.Uid) || impl.Knows(s, b.Next) {
				t.Errorf("Knows of a Uid of box %d = true", place)
			}
		}
	}
	for _, gid := range s.Gone {
		if !impl.Knows(s, gid) {
			t.Errorf("Knows of the box %d, which is Gone, = false", gid)
		}
	}
	for _, gid := range slices.Concat(wrongIds(), []int{1, 99, 101, 999, 1001, 1499, 1501, 8000, 8002, 9999}) {
		if impl.Knows(s, gid) {
			t.Errorf("Knows of %d, which nothing has, = true", gid)
		}
	}
}

func TestKnowsByWords(t *testing.T) {
	for _, s := range append(rightStores(), wrongStores()...) {
		known := knownByWords(s)
		for _, gid := range slices.Concat(numbersFrom(-2, 130), wrongIds(), rightIds(), known) {
			if got, want := impl.Knows(s, gid), slices.Contains(known, gid); got != want {
				t.Fatalf("Knows(%#v, %d) = %v", s, gid, got)
			}
		}
	}
}

func TestNextStamp(t *testing.T) {
	for _, time := range []int{math.MinInt, -2, -1, 0, 1, 7, 99999, 100000, 100001, math.MaxInt - 1} {
		for _, by := range []int{math.MinInt, -1, 0, 1, 2, 3, math.MaxInt} {
			s := someStore(2, 1)
			s.By, s.Time = by, time
			if got := impl.NextStamp(s); got != stampOf(time+1, by) {
				t.Errorf("NextStamp of Time %d, By %d = %v", time, by, got)
			}
		}
	}
	// It answers there, too; what, no sentence says.
	impl.NextStamp(storeOf(1, math.MaxInt, nil, nil))
}

func TestMakeBoxIntoAnEmptyStore(t *testing.T) {
	for _, by := range []int{1, 2} {
		for _, gid := range rightIds() {
			for _, name := range rightNames() {
				got, ok := impl.MakeBox(impl.StoreNew(by), gid, name)
				want := storeOf(by, 1, []impl.Box{{Gid: gid, Name: name, Named: stampOf(1, by), Next: 1}}, nil)
				if !ok || !likeStores(got, want) || !impl.StoreOk(got) {
					t.Errorf("MakeBox(%d, %q) into nothing = %#v, %v", gid, name, got, ok)
				}
			}
		}
	}
}

// TestMakeBoxAmongOthers: below, between and above; each time all others stay as they are, every field.
func TestMakeBoxAmongOthers(t *testing.T) {
	for boxes := 1; boxes <= 4; boxes++ {
		s := someStore(boxes, 3)
		for place := range boxes + 1 {
			for _, gid := range []int{100*place + 1, 100*place + 50, 100*place + 99} {
				made := impl.Box{Gid: gid, Name: "new", Named: stampOf(201, 1), Next: 1}
				got := doesStoreCall(t, s, storeCall{"MakeBox", gid, 0, 0, "new"}, func(s *impl.Store) {
					s.Boxes = slices.Insert(s.Boxes, place, made)
					s.Time = 201
				})
				if got.Boxes[place].Named != impl.NextStamp(s) || impl.BoxNamed(got, "new") != place || impl.BoxAt(got, gid) != place || !impl.Knows(got, gid) {
					t.Errorf("MakeBox of %d among %d boxes = %#v", gid, boxes, got)
				}
			}
		}
	}
}

// TestMakeBoxEveryOrder: whatever the order of their coming, they stand by their Gids.
func TestMakeBoxEveryOrder(t *testing.T) {
	for _, order := range orders(5) {
		s := impl.StoreNew(2)
		for i, n := range order {
			next, ok := impl.MakeBox(s, 10*(n+1), "b"+string(rune('0'+n)))
			if at := impl.BoxAt(next, 10*(n+1)); !ok || next.Time != i+1 || at < 0 || next.Boxes[at].Named != stampOf(i+1, 2) {
				t.Fatalf("MakeBox(%#v) = %#v, %v", s, next, ok)
			}
			s = next
		}
		for place, b := range s.Boxes {
			if b.Gid != 10*(place+1) || b.Name != "b"+string(rune('0'+place)) || b.Next != 1 {
				t.Fatalf("order %v makes %#v", order, s)
			}
		}
	}
}

func TestMakeBoxFull(t *testing.T) {
	for boxes := range 8 {
		s := someStore(boxes, 20)
		if _, ok := checksStoreCall(t, s, storeCall{"MakeBox", 50, 0, 0, "new"}); ok != (boxes <= 4) {
			t.Errorf("MakeBox into a store of %d boxes = %v", boxes, ok)
		}
	}
	refusesStoreCall(t, someStore(4, 21), storeCall{"MakeBox", 50, 0, 0, "new"})
}

// TestMakeBoxThatIsKnown: in each of the ways in which a store knows a Gid.
func TestMakeBoxThatIsKnown(t *testing.T) {
	for _, s := range rightStores() {
		for _, gid := range knownByWords(s) {
			refusesStoreCall(t, s, storeCall{"MakeBox", gid, 0, 0, "new"})
		}
	}
}

func TestMakeBoxOfWrongWords(t *testing.T) {
	for _, s := range []impl.Store{impl.StoreNew(1), someStore(1, 0), someStore(4, 3)} {
		for _, gid := range wrongIds() {
			refusesStoreCall(t, s, storeCall{"MakeBox", gid, 0, 0, "new"})
		}
		for _, name := range wrongNames() {
			refusesStoreCall(t, s, storeCall{"MakeBox", 50, 0, 0, name})
		}
		for _, b := range s.Boxes {
			refusesStoreCall(t, s, storeCall{"MakeBox", 50, 0, 0, b.Name})
			for _, name := range []string{b.Name + "x", b.Name[1:], b.Name[:3]} {
				if _, ok := checksStoreCall(t, s, storeCall{"MakeBox", 50, 0, 0, name}); !ok {
					t.Errorf("MakeBox of %q beside %q is refused", name, b.Name)
				}
			}
		}
	}
}

// TestRenameBox: the first, those between and the last one; all others stay as they are, every field.
func TestRenameBox(t *testing.T) {
	for _, by := range []int{1, 2} {
		s := someStore(5, 20)
		s.By = by
		for place, b := range s.Boxes {
			for _, name := range rightNames() {
				got := doesStoreCall(t, s, storeCall{"RenameBox", b.Gid, 0, 0, name}, func(s *impl.Store) {
					s.Boxes[place].Name, s.Boxes[place].Named = name, stampOf(201, by)
					s.Time = 201
				})
				if impl.BoxNamed(got, name) != place || impl.BoxNamed(got, b.Name) != -1 {
					t.Errorf("RenameBox of %d to %q = %#v", b.Gid, name, got)
				}
			}
		}
	}
}

// TestRenameBoxToNamesThatAreThere: of another one, and its own.
func TestRenameBoxToNamesThatAreThere(t *testing.T) {
	for boxes := 1; boxes <= 5; boxes++ {
		s := someStore(boxes, 3)
		for _, b := range s.Boxes {
			for _, other := range s.Boxes {
				refusesStoreCall(t, s, storeCall{"RenameBox", b.Gid, 0, 0, other.Name})
			}
			for _, name := range wrongNames() {
				refusesStoreCall(t, s, storeCall{"RenameBox", b.Gid, 0, 0, name})
			}
		}
	}
}

// TestNamesThatAreFreeAgain: a Name is there as long as a box has it, no longer.
func TestNamesThatAreFreeAgain(t *testing.T) {
	s := someStore(3, 0)
	old := s.Boxes[1].Name
	renamed, ok := impl.RenameBox(s, s.Boxes[1].Gid, "new")
	if !ok {
		t.Fatal("RenameBox to a new Name is refused")
	}
	dropped, ok := impl.DropBox(s, s.Boxes[1].Gid)
	if !ok {
		t.Fatal("DropBox is refused")
	}
	for _, s := range []impl.Store{renamed, dropped} {
		for _, c := range []storeCall{{"MakeBox", 50, 0, 0, old}, {"RenameBox", s.Boxes[0].Gid, 0, 0, old}} {
			if _, ok := checksStoreCall(t, s, c); !ok {
				t.Errorf("%#v of %#v is refused", c, s)
			}
		}
	}
	refusesStoreCall(t, renamed, storeCall{"MakeBox", 50, 0, 0, "new"})
	refusesStoreCall(t, dropped, storeCall{"MakeBox", s.Boxes[1].Gid, 0, 0, old})
	if back, ok := impl.RenameBox(renamed, s.Boxes[1].Gid, old); !ok || back.Time != 202 || back.Boxes[1].Named != stampOf(202, 1) {
		t.Errorf("RenameBox to the old Name = %#v, %v", back, ok)
	}
}

func TestDropBox(t *testing.T) {
	for boxes := 1; boxes <= 5; boxes++ {
		for _, gone := range []int{0, 1, 19} {
			s := someStore(boxes, gone)
			for place, b := range s.Boxes {
				got := doesStoreCall(t, s, storeCall{"DropBox", b.Gid, 0, 0, ""}, func(s *impl.Store) {
					s.Boxes = slices.Delete(s.Boxes, place, place+1)
					s.Gone = slices.Insert(s.Gone, 0, b.Gid)
				})
				if impl.BoxAt(got, b.Gid) != -1 || impl.BoxNamed(got, b.Name) != -1 || !impl.Knows(got, b.Gid) {
					t.Errorf("DropBox of %d = %#v", b.Gid, got)
				}
				for _, c := range sixCalls(b.Gid, b.Mails[0].Gid, 1, "new") {
					refusesStoreCall(t, got, c)
				}
			}
		}
	}
}

// TestDropBoxGoneInOrder: ahead of all, between, and behind all.
func TestDropBoxGoneInOrder(t *testing.T) {
	for _, gid := range []int{1, 2, 9, 11, 19, 21, 29, 31, 9998, 9999} {
		s := storeOf(1, 200, []impl.Box{withField(boxOfStore(0), func(b *impl.Box) { b.Gid = gid })}, []int{10, 20, 30})
		got, ok := impl.DropBox(s, gid)
		want := append([]int{10, 20, 30}, gid)
		slices.Sort(want)
		if !ok || !slices.Equal(got.Gone, want) || len(got.Boxes) != 0 || got.Time != 200 {
			t.Errorf("DropBox of %d = %#v, %v", gid, got, ok)
		}
	}
}

func TestDropBoxFull(t *testing.T) {
	for gone := range 24 {
		for _, boxes := range []int{1, 5, 6} {
			s := someStore(boxes, gone)
			for _, b := range s.Boxes {
				if _, ok := checksStoreCall(t, s, storeCall{"DropBox", b.Gid, 0, 0, ""}); ok != (gone <= 19 && boxes <= 5) {
					t.Errorf("DropBox of a store of %d boxes, %d gone = %v", boxes, gone, ok)
				}
			}
		}
	}
	// A store that drops no box any more does all else.
	s := someStore(3, 20)
	for _, c := range sixCalls(s.Boxes[1].Gid, s.Boxes[1].Mails[0].Gid, 7, "new") {
		if c.name == "MakeBox" {
			c.box = 50
		} else if c.name == "PutMail" {
			c.gid = 50
		}
		if _, ok := checksStoreCall(t, s, c); ok != (c.name != "DropBox") {
			t.Errorf("%#v with a full Gone = %v", c, ok)
		}
	}
}

// TestMailsOfDroppedBoxes: they are not there, and not Gone either: the store knows them no more.
func TestMailsOfDroppedBoxes(t *testing.T) {
	s := someStore(3, 0)
	got, ok := impl.DropBox(s, s.Boxes[1].Gid)
	if !ok {
		t.Fatal("DropBox is refused")
	}
	for _, m := range s.Boxes[1].Mails {
		if impl.Knows(got, m.Gid) {
			t.Errorf("Knows of mail %d of a box that is dropped = true", m.Gid)
		}
		if _, ok := checksStoreCall(t, got, storeCall{"PutMail", s.Boxes[2].Gid, m.Gid, 0, "hi"}); !ok {
			t.Errorf("PutMail of mail %d of a box that is dropped is refused", m.Gid)
		}
	}
}

// TestPutMail: into the first box, those between and the last one; all others stay as they are, every field.
func TestPutMail(t *testing.T) {
	for _, by := range []int{1, 2} {
		s := someStore(5, 20)
		s.By = by
		for place, b := range s.Boxes {
			for flags := range 8 {
				got := doesStoreCall(t, s, storeCall{"PutMail", b.Gid, 77, flags, "hi"}, func(s *impl.Store) {
					s.Boxes[place].Mails = append(s.Boxes[place].Mails, mailOf(77, b.Next, flagsOf(flags, stampOf(201, by)), "hi"))
					s.Boxes[place].Next = b.Next + 1
					s.Time = 201
				})
				if !impl.Knows(got, 77) || impl.MailAt(got.Boxes[place], 77) != len(b.Mails) {
					t.Errorf("PutMail into box %d = %#v", b.Gid, got)
				}
			}
		}
	}
}

func TestPutMailOfEachArgument(t *testing.T) {
	s := someStore(3, 2)
	for _, b := range s.Boxes {
		for _, gid := range rightIds() {
			if _, ok := checksStoreCall(t, s, storeCall{"PutMail", b.Gid, gid, 0, "hi"}); ok != (gid != 100 && gid != 200 && gid != 300) {
				t.Errorf("PutMail of %d = %v", gid, ok)
			}
		}
		for _, gid := range append(wrongIds(), knownByWords(s)...) {
			refusesStoreCall(t, s, storeCall{"PutMail", b.Gid, gid, 0, "hi"})
		}
		for _, n := range wrongFlagNumbers() {
			refusesStoreCall(t, s, storeCall{"PutMail", b.Gid, 77, n, "hi"})
		}
		for _, text := range rightTexts() {
			if _, ok := checksStoreCall(t, s, storeCall{"PutMail", b.Gid, 77, 0, text}); !ok {
				t.Errorf("PutMail of %q is refused", text)
			}
		}
		for _, text := range longTexts() {
			refusesStoreCall(t, s, storeCall{"PutMail", b.Gid, 77, 0, text})
		}
	}
}

func TestPutMailThatIsKnown(t *testing.T) {
	for _, s := range rightStores() {
		for _, gid := range knownByWords(s) {
			for _, b := range s.Boxes {
				refusesStoreCall(t, s, storeCall{"PutMail", b.Gid, gid, 0, "hi"})
			}
		}
	}
}

// TestPutMailIntoFullBoxes: full of mails, or of numbers; the others take mails still.
func TestPutMailIntoFullBoxes(t *testing.T) {
	for place := range 3 {
		for _, c := range []struct {
			mails int
			next  int
			want  bool
		}{{8, 11, true}, {9, 11, true}, {10, 11, false}, {0, 9999, true}, {0, 10000, false}, {9, 9999, true}, {9, 10000, false}} {
			s := someStore(3, 2)
			s.Boxes[place].Mails, s.Boxes[place].Next = mailsFrom(1, c.mails), c.next
			for i, b := range s.Boxes {
				if _, ok := checksStoreCall(t, s, storeCall{"PutMail", b.Gid, 77, 0, "hi"}); ok != (c.want || i != place) {
					t.Errorf("PutMail into box %d, with box %d of %d mails and Next %d = %v", i, place, c.mails, c.next, ok)
				}
			}
		}
	}
}

// TestMarkMail: each mail of each box; all others stay as they are, every field, and so does a flag that is as it was.
func TestMarkMail(t *testing.T) {
	for _, by := range []int{1, 2} {
		s := someStore(5, 20)
		s.By = by
		for place, b := range s.Boxes {
			for i, m := range b.Mails {
				for n := range 8 {
					got := doesStoreCall(t, s, storeCall{"MarkMail", b.Gid, m.Gid, n, ""}, func(s *impl.Store) {
						for k, bit := range bitsOf(n) {
							if m.Flags[k].Val != bit {
								s.Boxes[place].Mails[i].Flags[k] = impl.Reg{Val: bit, Stamp: stampOf(201, by)}
							}
						}
						s.Time = 201
					})
					if impl.FlagsOf(got.Boxes[place].Mails[i].Flags) != n {
						t.Errorf("MarkMail of %d with %d = %#v", m.Gid, n, got)
					}
				}
				for _, n := range wrongFlagNumbers() {
					refusesStoreCall(t, s, storeCall{"MarkMail", b.Gid, m.Gid, n, ""})
				}
			}
		}
	}
}

// TestMarkMailWithLikeStamps: the stamp that is given is later than any that is there, whoever gave these.
func TestMarkMailWithLikeStamps(t *testing.T) {
	for by := range 3 {
		s := someStore(2, 0)
		for _, stamp := range stampsIn(&s) {
			*stamp = stampOf(s.Time, by)
		}
		for _, b := range s.Boxes {
			for _, m := range b.Mails {
				n := 7 - impl.FlagsOf(m.Flags)
				got, ok := checksStoreCall(t, s, storeCall{"MarkMail", b.Gid, m.Gid, n, ""})
				if at := impl.BoxAt(got, b.Gid); !ok || impl.FlagsOf(got.Boxes[at].Mails[impl.MailAt(b, m.Gid)].Flags) != n {
					t.Errorf("MarkMail of %d with %d = %#v, %v", m.Gid, n, got, ok)
				}
			}
		}
	}
}

func TestDropMail(t *testing.T) {
	s := someStore(5, 20)
	for place, b := range s.Boxes {
		for i, m := range b.Mails {
			got := doesStoreCall(t, s, storeCall{"DropMail", b.Gid, m.Gid, 0, ""}, func(s *impl.Store) {
				s.Boxes[place].Mails = slices.Delete(s.Boxes[place].Mails, i, i+1)
				s.Boxes[place].Gone = slices.Insert(s.Boxes[place].Gone, 0, m.Gid)
			})
			if !impl.Knows(got, m.Gid) || impl.MailAt(got.Boxes[place], m.Gid) != -1 {
				t.Errorf("DropMail of %d = %#v", m.Gid, got)
			}
			for _, other := range s.Boxes {
				for _, c := range sixCalls(other.Gid, m.Gid, 1, "hi")[3:] {
					refusesStoreCall(t, got, c)
				}
			}
		}
	}
}

func TestDropMailFull(t *testing.T) {
	for place := range 3 {
		for _, gone := range []int{0, 38, 39, 40} {
			s := someStore(3, 2)
			s.Boxes[place].Gone = numbersFrom(5000, gone)
			for i, b := range s.Boxes {
				if _, ok := checksStoreCall(t, s, storeCall{"DropMail", b.Gid, b.Mails[0].Gid, 0, ""}); ok != (gone <= 39 || i != place) {
					t.Errorf("DropMail of box %d, with %d gone from box %d = %v", i, gone, place, ok)
				}
			}
		}
	}
}

// TestBoxesThatAreNotThere: nothing has the Gid, or something else has it than a box.
func TestBoxesThatAreNotThere(t *testing.T) {
	for _, s := range rightStores() {
		gid := 77
		if len(s.Boxes) > 0 && len(s.Boxes[0].Mails) > 0 {
			gid = s.Boxes[0].Mails[0].Gid
		}
		for _, box := range slices.Concat(wrongIds(), knownByWords(s), []int{4321}) {
			if boxAtByWords(s, box) >= 0 {
				continue
			}
			for _, c := range append(sixCalls(box, gid, 1, "new")[1:], storeCall{"PutMail", box, 4444, 0, "hi"}) {
				refusesStoreCall(t, s, c)
			}
		}
	}
}

// TestStoreMailsThatAreNotThere: nowhere, Gone, or in another box.
func TestStoreMailsThatAreNotThere(t *testing.T) {
	for _, s := range rightStores() {
		for _, b := range s.Boxes {
			for _, gid := range slices.Concat(wrongIds(), knownByWords(s), []int{4321}) {
				if placeByWords(b, gid) >= 0 {
					continue
				}
				refusesStoreCall(t, s, storeCall{"MarkMail", b.Gid, gid, 1, ""})
				refusesStoreCall(t, s, storeCall{"DropMail", b.Gid, gid, 0, ""})
			}
		}
	}
}

// TestCallsWhereTimeEnds: what gives a stamp is refused where there is none left; what gives none goes on.
func TestCallsWhereTimeEnds(t *testing.T) {
	for _, time := range []int{-1, 0, 1, 99998, 99999, 100000, 100001} {
		s := someStore(3, 2)
		s.Time = time
		for _, stamp := range stampsIn(&s) {
			*stamp = impl.Stamp{}
		}
		right := time >= 0 && time <= 100000
		for _, b := range s.Boxes {
			calls := []storeCall{{"MakeBox", 50, 0, 0, "new"}, {"RenameBox", b.Gid, 0, 0, "new"}, {"DropBox", b.Gid, 0, 0, ""},
				{"PutMail", b.Gid, 77, 0, "hi"}, {"MarkMail", b.Gid, b.Mails[0].Gid, 7 - impl.FlagsOf(b.Mails[0].Flags), ""},
				{"MarkMail", b.Gid, b.Mails[0].Gid, impl.FlagsOf(b.Mails[0].Flags), ""}, {"DropMail", b.Gid, b.Mails[0].Gid, 0, ""}}
			for _, c := range calls {
				got, ok := checksStoreCall(t, s, c)
				wantOk, wantTime := right, time
				if c.givesStamp() {
					wantOk = right && time <= 99999
				}
				if wantOk && c.givesStamp() {
					wantTime = time + 1
				}
				if ok != wantOk || got.Time != wantTime {
					t.Errorf("%#v at Time %d = Time %d, %v", c, time, got.Time, ok)
				}
			}
		}
	}
}

// TestMarkMailThatChangesNothing: a stamp is given all the same.
func TestMarkMailThatChangesNothing(t *testing.T) {
	s := someStore(3, 2)
	for _, b := range s.Boxes {
		for _, m := range b.Mails {
			doesStoreCall(t, s, storeCall{"MarkMail", b.Gid, m.Gid, impl.FlagsOf(m.Flags), ""}, func(s *impl.Store) { s.Time = 201 })
		}
	}
}

// TestStoresThatAreNotRight: as they are, every field, whatever is asked of them.
func TestStoresThatAreNotRight(t *testing.T) {
	for _, s := range wrongStores() {
		for _, c := range storeMemoryCalls(s) {
			refusesStoreCall(t, s, c)
		}
	}
}

// drawnStore is right about every second time.
func drawnStore(r *rand.Rand) impl.Store {
	s := someStore(r.Intn(7), []int{0, 1, 5, 19, 20, 21}[r.Intn(6)])
	s.By = 1 + r.Intn(2)
	if len(s.Boxes) == 0 {
		return s
	}
	b := &s.Boxes[r.Intn(len(s.Boxes))]
	stamps, mails := stampsIn(&s), mailsIn(&s)
	switch r.Intn(12) {
	case 0:
		b.Gid = 50 + r.Intn(700)
	case 1:
		b.Name = "box" + string(rune('a'+r.Intn(9)))
	case 2:
		s.Gone = append(s.Gone, 8000+r.Intn(300))
	case 3:
		s.Gone = slices.Insert(s.Gone, 0, 100*r.Intn(9))
	case 4:
		stamps[r.Intn(len(stamps))].Time = 198 + r.Intn(5)
	case 5:
		mails[r.Intn(len(mails))].Gid = mails[r.Intn(len(mails))].Gid
	case 6:
		s.Time = []int{0, 60, 70, 99999, 100000, 100001}[r.Intn(6)]
	}
	return s
}

func drawnCall(r *rand.Rand, s impl.Store) storeCall {
	known := append(knownByWords(s), 1+r.Intn(9999))
	box, gid := known[r.Intn(len(known))], known[r.Intn(len(known))]
	if len(s.Boxes) > 0 && r.Intn(4) > 0 {
		b := s.Boxes[r.Intn(len(s.Boxes))]
		box = b.Gid
		if len(b.Mails) > 0 && r.Intn(2) == 0 {
			gid = b.Mails[r.Intn(len(b.Mails))].Gid
		}
	}
	c := sixCalls(box, gid, r.Intn(8), "box"+string(rune('a'+r.Intn(9))))[r.Intn(6)]
	if c.name == "MakeBox" && r.Intn(2) == 0 {
		c.box = 1 + r.Intn(9999)
	}
	if c.name == "PutMail" && r.Intn(2) == 0 {
		c.gid = 1 + r.Intn(9999)
		c.text = drawnText(r, r.Intn(62))
	}
	return c
}

func TestDrawnStores(t *testing.T) {
	r := rand.New(rand.NewSource(7))
	right, done := 0, map[string]int{}
	for range 4000 {
		s := drawnStore(r)
		if storeOkByWords(s) {
			right++
		}
		if impl.StoreOk(s) != storeOkByWords(s) {
			t.Fatalf("StoreOk(%#v) = %v", s, impl.StoreOk(s))
		}
		for range 8 {
			c := drawnCall(r, s)
			if _, ok := checksStoreCall(t, s, c); ok {
				done[c.name]++
			}
		}
	}
	if right < 1000 || right > 3500 || len(done) != 6 {
		t.Errorf("%d of 4000 drawn stores are right; done: %v", right, done)
	}
}

// TestLivesOfStores: through a long life a store stays right, its Time never falls, and what was Gone is never there.
func TestLivesOfStores(t *testing.T) {
	r := rand.New(rand.NewSource(77))
	for life := range 60 {
		s := impl.StoreNew(1 + life%2)
		gone, done := map[int]bool{}, 0
		for range 400 {
			c := drawnCall(r, s)
			next, ok := checksStoreCall(t, s, c)
			switch {
			case ok && c.givesStamp() && next.Time != s.Time+1, !(ok && c.givesStamp()) && next.Time != s.Time:
				t.Fatalf("%#v: Time %d came to %d", c, s.Time, next.Time)
			case !impl.StoreOk(next):
				t.Fatalf("%#v of %#v = %#v, which is not right", c, s, next)
			case ok && c.name == "DropBox":
				gone[c.box] = true
			}
			if ok {
				done++
			}
			for _, b := range next.Boxes {
				if gone[b.Gid] {
					t.Fatalf("box %d came back", b.Gid)
				}
			}
			s = next
		}
		if done < 30 {
			t.Errorf("life %d: %d calls were done", life, done)
		}
	}
}

// roomyStore has marks behind each of its lists that nobody may touch.
func roomyStore(s impl.Store) impl.Store {
	boxes := make([]impl.Box, len(s.Boxes), len(s.Boxes)+4)
	for i, b := range s.Boxes {
		boxes[i] = roomyBox(b)
	}
	for i := len(s.Boxes); i < cap(boxes); i++ {
		boxes[:cap(boxes)][i] = roomyBox(boxOfStore(6))
	}
	s.Boxes, s.Gone = boxes, roomyNumbers(s.Gone)
	return s
}

// wholeStore has what stands behind the ends as well.
func wholeStore(s impl.Store) impl.Store {
	boxes := s.Boxes[:cap(s.Boxes)]
	s.Boxes, s.Gone = nil, slices.Clone(s.Gone[:cap(s.Gone)])
	for _, b := range boxes {
		s.Boxes = append(s.Boxes, wholeBox(b))
	}
	return s
}

func spoilStore(s impl.Store) {
	boxes := s.Boxes[:cap(s.Boxes)]
	for i := range boxes {
		spoilBox(boxes[i])
		boxes[i] = impl.Box{Gid: -9, Name: "spoilt"}
	}
	spoilNumbers(s.Gone)
}

// storeMemoryCalls: some that are done on most right stores, some that are refused.
func storeMemoryCalls(s impl.Store) []storeCall {
	name := strings.Repeat("new", 2)
	list := append(sixCalls(50, 77, 5, name), storeCall{"MakeBox", 9998, 0, 0, name})
	for i, b := range s.Boxes[:min(2, len(s.Boxes))] {
		list = append(list, sixCalls(b.Gid, 77, 5, name)...)
		list = append(list, storeCall{"RenameBox", b.Gid, 0, 0, b.Name}, storeCall{"MakeBox", 50, 0, 0, b.Name})
		if len(b.Mails) > 0 {
			list = append(list, sixCalls(b.Gid, b.Mails[i%len(b.Mails)].Gid, 5, name)[3:]...)
			list = append(list, storeCall{"MarkMail", b.Gid, b.Mails[0].Gid, 8, ""})
		}
	}
	return list
}

// memoryStores are some of each kind: all of them would take long.
func memoryStores() []impl.Store {
	var list []impl.Store
	for i, s := range append(rightStores(), wrongStores()...) {
		if i%3 == 0 || i < 30 {
			list = append(list, s)
		}
	}
	return list
}

func TestStoresLeaveTheirArguments(t *testing.T) {
	for _, given := range append(rightStores(), wrongStores()...) {
		s := roomyStore(given)
		whole := wholeStore(s)
		impl.StoreOk(s)
		impl.BoxNamed(s, "new")
		impl.BoxAt(s, 50)
		impl.Knows(s, 50)
		impl.NextStamp(s)
		for _, c := range storeMemoryCalls(given) {
			c.done(s)
		}
		if !likeStores(wholeStore(s), whole) {
			t.Fatalf("%#v was written into, or behind its end", given)
		}
	}
}

// TestStoresNewMemory: what is answered stays as it is when the argument is changed behind the call, and the other way round.
func TestStoresNewMemory(t *testing.T) {
	for _, given := range memoryStores() {
		for _, c := range storeMemoryCalls(given) {
			s := roomyStore(given)
			answer, _ := c.done(s)
			kept := copyStore(answer)
			spoilStore(s)
			if !likeStores(answer, kept) {
				t.Fatalf("%#v: %#v became %#v when the argument was changed", c, kept, answer)
			}
			s = roomyStore(given)
			whole := wholeStore(s)
			answer, _ = c.done(s)
			spoilStore(answer)
			if !likeStores(wholeStore(s), whole) {
				t.Fatalf("%#v: %#v changed with the answer", c, given)
			}
		}
	}
}

func textsOfStore(s impl.Store) []string {
	var list []string
	for _, b := range s.Boxes {
		list = append(list, b.Name)
	}
	for _, m := range mailsIn(&s) {
		list = append(list, m.Text)
	}
	return list
}

func TestStoresShareNoTexts(t *testing.T) {
	for _, given := range memoryStores() {
		for _, c := range storeMemoryCalls(given) {
			s := roomyStore(given)
			answer, _ := c.done(s)
			theirs := append(textsOfStore(s), c.text)
			for _, text := range textsOfStore(answer) {
				if slices.ContainsFunc(theirs, func(other string) bool { return sharesMemory(text, other) }) {
					t.Fatalf("%#v of %#v shares the text %q", c, given, text)
				}
			}
		}
	}
}

// TestListsOfOneStoreApart: no list of an answer lies within another one, also where the argument's lists do.
func TestListsOfOneStoreApart(t *testing.T) {
	for _, size := range []int{2, 4, 5, 6} {
		given := someStore(size, 0)
		numbers, flags := []int{8001, 8002}, flagsOf(3, stampOf(4, 1))
		given.Gone = numbers
		for i := range given.Boxes {
			given.Boxes[i].Gone = numbers
		}
		for _, m := range mailsIn(&given) {
			m.Flags = flags
		}
		for _, c := range storeMemoryCalls(given) {
			answer, _ := c.done(given)
			for i := range mailsIn(&answer) {
				kept := copyStore(answer)
				spoil(mailsIn(&answer)[i].Flags)
				mailsIn(&kept)[i].Flags = slices.Clone(mailsIn(&answer)[i].Flags)
				if !likeStores(answer, kept) {
					t.Fatalf("%#v: flags of mail %d are shared: %#v", c, i, answer)
				}
			}
			for place := range answer.Boxes {
				kept := copyStore(answer)
				spoilNumbers(answer.Boxes[place].Gone)
				kept.Boxes[place].Gone = answer.Boxes[place].Gone
				if !likeStores(answer, kept) {
					t.Fatalf("%#v: Gone of box %d is shared: %#v", c, place, answer)
				}
			}
			kept := copyStore(answer)
			spoilNumbers(answer.Gone)
			kept.Gone = answer.Gone
			if !likeStores(answer, kept) {
				t.Fatalf("%#v: Gone is shared: %#v", c, answer)
			}
		}
	}
}

// TestStoreAnswersApart: two answers of one call share nothing either.
func TestStoreAnswersApart(t *testing.T) {
	for _, given := range memoryStores() {
		for _, c := range storeMemoryCalls(given) {
			first, _ := c.done(given)
			second, _ := c.done(given)
			kept := copyStore(second)
			spoilStore(first)
			if !likeStores(second, kept) {
				t.Fatalf("%#v of %#v: of two answers one changed with the other", c, given)
			}
		}
	}
}
