package tests

import (
	"fmt"
	"math"
	"math/rand"
	"slices"
	"strings"
	"sync"
	"testing"

	"loop.example/g00324/impl"
)

// It has just these fields, in this order: else this would not build.
var _ = struct {
	Epoch  int
	Link   impl.Link
	Total  int
	Pieces []string
	Done   bool
	Failed bool
}(impl.Sync{})

// syncOf is neither Done nor Failed, and of its link's Epoch.
func syncOf(l impl.Link, total int, pieces ...string) impl.Sync {
	return impl.Sync{Epoch: l.Epoch, Link: l, Total: total, Pieces: pieces}
}

// freshSync has heard nothing yet, and has nothing to say.
func freshSync() impl.Sync {
	return syncOf(impl.LinkNew(1), 0)
}

func likeSyncs(a, b impl.Sync) bool {
	return a.Epoch == b.Epoch && likeLinks(a.Link, b.Link) && a.Total == b.Total && slices.Equal(a.Pieces, b.Pieces) && a.Done == b.Done && a.Failed == b.Failed
}

func copySync(y impl.Sync) impl.Sync {
	y.Link, y.Pieces = copyLink(y.Link), slices.Clone(y.Pieces)
	return y
}

func withSync(y impl.Sync, change func(y *impl.Sync)) impl.Sync {
	out := copySync(y)
	change(&out)
	return out
}

// inEveryEnd is one in each of the ways in which it can have ended, or not.
func inEveryEnd(y impl.Sync) []impl.Sync {
	var list []impl.Sync
	for end := range 4 {
		list = append(list, withSync(y, func(y *impl.Sync) { y.Done, y.Failed = end&1 > 0, end&2 > 0 }))
	}
	return list
}

func cutByWords(text string) []string {
	var list []string
	for at := 0; at < len(text); at += 120 {
		list = append(list, text[at:min(at+120, len(text))])
	}
	return list
}

// wayToSay are what goes to the other side of a store with this text.
func wayToSay(text string) []string {
	pieces := cutByWords(text)
	list := []string{"T" + varOf(uint64(len(pieces)))}
	for _, one := range pieces {
		list = append(list, "P"+one)
	}
	return list
}

func beginByWords(s impl.Store, epoch int) (impl.Sync, bool) {
	if !storeOkByWords(s) {
		return impl.Sync{}, false
	}
	way := wayToSay(storeByWords(s))
	if len(way) > 60 {
		return impl.Sync{}, false
	}
	return impl.Sync{Epoch: epoch, Link: linkOf(epoch, 1, 1, way...)}, true
}

func wholeByWords(y impl.Sync) bool {
	return y.Total >= 1 && len(y.Pieces) == y.Total
}

func syncHearsByWords(y impl.Sync, p impl.Packet) (impl.Sync, string) {
	out := copySync(y)
	link, text, came := hearsByWords(y.Link, p)
	out.Link = link
	if !came {
		return out, ""
	}
	switch {
	case text != "" && text[0] == 'P':
		out.Pieces = append(out.Pieces, text[1:])
	case text != "" && text[0] == 'T':
		numbers, _ := numbersThere(text[1:], 1)
		if len(numbers) == 0 || numbers[0] < 1 {
			out.Failed = true
		} else {
			out.Total = numbers[0]
		}
	default:
		out.Failed = true
	}
	all := ""
	if wholeByWords(out) && !wholeByWords(y) {
		for _, one := range out.Pieces {
			all += one
		}
	}
	return out, all
}

func endsByWords(y impl.Sync, ok bool) impl.Sync {
	return withSync(y, func(y *impl.Sync) { y.Done, y.Failed = y.Done || ok, y.Failed || !ok })
}

func checksPieces(t *testing.T, text string) []string {
	t.Helper()
	got := impl.PiecesOf(text)
	if want := cutByWords(text); !slices.Equal(got, want) {
		t.Fatalf("PiecesOf(%q) = %q; want %q", text, got, want)
	}
	return got
}

func checksBegin(t *testing.T, s impl.Store, epoch int) (impl.Sync, bool) {
	t.Helper()
	got, ok := impl.SyncBegin(s, epoch)
	if want, wantOk := beginByWords(s, epoch); ok != wantOk || !likeSyncs(got, want) {
		t.Fatalf("SyncBegin(%+v, %d) = %+v, %v; want %+v, %v", s, epoch, got, ok, want, wantOk)
	}
	return got, ok
}

func begins(t *testing.T, s impl.Store, epoch int) impl.Sync {
	t.Helper()
	y, ok := checksBegin(t, s, epoch)
	if !ok {
		t.Fatalf("%+v does not begin", s)
	}
	return y
}

func checksSyncHears(t *testing.T, y impl.Sync, p impl.Packet) (impl.Sync, string) {
	t.Helper()
	got, text := impl.SyncHears(y, p)
	if want, wantText := syncHearsByWords(y, p); text != wantText || !likeSyncs(got, want) {
		t.Fatalf("SyncHears(%+v, %+v) = %+v, %q; want %+v, %q", y, p, got, text, want, wantText)
	}
	return got, text
}

func checksEnds(t *testing.T, y impl.Sync, ok bool) impl.Sync {
	t.Helper()
	got := impl.SyncEnds(y, ok)
	if want := endsByWords(y, ok); !likeSyncs(got, want) {
		t.Fatalf("SyncEnds(%+v, %v) = %+v; want %+v", y, ok, got, want)
	}
	return got
}

func checksOver(t *testing.T, y impl.Sync) bool {
	t.Helper()
	got := impl.SyncOver(y)
	if want := y.Done && len(y.Link.Way) < 1; got != want {
		t.Fatalf("SyncOver(%+v) = %v", y, got)
	}
	return got
}

// hearsText has this text come to one.
func hearsText(t *testing.T, y impl.Sync, text string) (impl.Sync, string) {
	t.Helper()
	return checksSyncHears(t, y, packetOf(y.Link.Epoch, y.Link.Want, 0, text))
}

// sizedStore has a StoreText of so many bytes.
func sizedStore(t *testing.T, by, size int) impl.Store {
	t.Helper()
	s := storeOf(by, 1, []impl.Box{{Gid: 5, Name: "a", Named: stampOf(1, by), Next: 11}}, nil)
	left := size - len(storeByWords(s))
	for i := 0; left > 0 && i < 10; i++ {
		// Each mail is 12 bytes, and its text; what is left is never so little that the next one has no room.
		length := min(60, max(0, left-12))
		if rest := left - 12 - length; rest > 0 && rest < 12 {
			length -= 12 - rest
		}
		s.Boxes[0].Mails = append(s.Boxes[0].Mails, mailOf(20+i, 1+i, flagsOf(i%8, stampOf(1, by)), strings.Repeat(string(rune('a'+i)), length)))
		left -= 12 + length
	}
	if got := len(storeByWords(s)); got != size || !storeOkByWords(s) {
		t.Fatalf("it has %d bytes, not %d: %+v", got, size, s)
	}
	return s
}

// syncStores have texts of one piece and of many, and such as end where a piece does.
func syncStores(t *testing.T) []impl.Store {
	t.Helper()
	list := []impl.Store{impl.StoreNew(1), impl.StoreNew(2), smallStore(), fullestStore(), someStore(5, 20)}
	for i, size := range []int{28, 119, 120, 121, 239, 240, 241, 360, 361, 479, 480, 481, 600, 720} {
		list = append(list, sizedStore(t, 1+i%2, size))
	}
	return list
}

func TestPiecesOf(t *testing.T) {
	if impl.PieceSize != 120 {
		t.Fatalf("PieceSize is %d", impl.PieceSize)
	}
	for _, c := range []struct {
		size   int
		pieces int
		last   int
	}{{0, 0, 0}, {1, 1, 1}, {119, 1, 119}, {120, 1, 120}, {121, 2, 1}, {239, 2, 119}, {240, 2, 120}, {241, 3, 1}, {360, 3, 120}, {361, 4, 1}, {4565, 39, 5}, {7080, 59, 120}, {7081, 60, 1}, {20000, 167, 80}, {20001, 167, 81}, {120000, 1000, 120}} {
		text := drawnText(rand.New(rand.NewSource(int64(c.size))), c.size)
		list := checksPieces(t, text)
		if len(list) != c.pieces || strings.Join(list, "") != text {
			t.Fatalf("%d bytes: %d pieces, %q", c.size, len(list), list)
		}
		for i, one := range list {
			if want := 120; i == len(list)-1 && len(one) != c.last || i < len(list)-1 && len(one) != want {
				t.Errorf("%d bytes: piece %d has %d", c.size, i, len(one))
			}
		}
	}
	for size := range 700 {
		checksPieces(t, strings.Repeat(everyByte(), 3)[:size])
	}
	text, ok := impl.StoreText(fullestStore())
	if list := checksPieces(t, text); !ok || len(list) != 39 || len(list[38]) != 5 {
		t.Errorf("the longest: %v, %d pieces", ok, len(list))
	}
	if list := checksPieces(t, "héllo\x00\xff"); !slices.Equal(list, []string{"h\xc3\xa9llo\x00\xff"}) {
		t.Errorf("%q", list)
	}
	// A piece ends within what would be one rune.
	if list := checksPieces(t, strings.Repeat("a", 119)+"é"); !slices.Equal(list, []string{strings.Repeat("a", 119) + "\xc3", "\xa9"}) {
		t.Errorf("%q", list)
	}
}

func TestSyncBeginWritten(t *testing.T) {
	empty := sealByWords("\x01\x00\x00\x00")
	if y, ok := impl.SyncBegin(impl.StoreNew(1), 7); !ok || !likeSyncs(y, impl.Sync{Epoch: 7, Link: linkOf(7, 1, 1, "T\x01", "P"+empty)}) {
		t.Errorf("of the emptiest: %+v, %v", y, ok)
	}
	for _, c := range []struct {
		size   int
		pieces int
	}{{28, 1}, {119, 1}, {120, 1}, {121, 2}, {239, 2}, {240, 2}, {241, 3}, {480, 4}, {481, 5}} {
		s := sizedStore(t, 2, c.size)
		text, _ := impl.StoreText(s)
		y := begins(t, s, 3)
		way := y.Link.Way
		if len(text) != c.size || len(way) != 1+c.pieces || way[0] != "T"+string([]byte{byte(c.pieces)}) {
			t.Fatalf("%d bytes: %q", c.size, way)
		}
		all := ""
		for i, one := range way[1:] {
			if one[0] != 'P' || i < c.pieces-1 && len(one) != 121 {
				t.Errorf("%d bytes: %q", c.size, way)
			}
			all += one[1:]
		}
		if all != text || y.Epoch != 3 || y.Link.Epoch != 3 || y.Link.Next != 1 || y.Link.Want != 1 || y.Total != 0 || len(y.Pieces) > 0 || y.Done || y.Failed {
			t.Errorf("%d bytes: %+v", c.size, y)
		}
	}
	// No store that is right comes near to a full Way.
	if y := begins(t, fullestStore(), 1); len(y.Link.Way) != 40 || y.Link.Way[0] != "T\x27" || len(y.Link.Way[39]) != 6 {
		t.Errorf("of the fullest: %q", y.Link.Way)
	}
}

func TestSyncBegin(t *testing.T) {
	for i, s := range append(append(syncStores(t), rightStores()...), madeStores(t)...) {
		begins(t, s, i)
	}
	for i, epoch := range linkEdges() {
		s := syncStores(t)[i%5]
		if y := begins(t, s, epoch); y.Epoch != epoch || y.Link.Epoch != epoch || impl.SyncOver(y) {
			t.Errorf("Epoch %d: %+v", epoch, y)
		}
	}
	r := rand.New(rand.NewSource(1801))
	began := 0
	for range 800 {
		if _, ok := checksBegin(t, drawnStore(r), r.Intn(4)); ok {
			began++
		}
	}
	if began < 200 || began > 790 {
		t.Errorf("%d began", began)
	}
}

func TestSyncBeginRefuses(t *testing.T) {
	full := fullestStore()
	huge := withPart(full, func(s *impl.Store) {
		for place := range s.Boxes {
			s.Boxes[place].Mails[0].Text = strings.Repeat("m", 7000)
		}
	})
	manyPieces := withPart(full, func(s *impl.Store) { s.Boxes[0].Mails[0].Text = strings.Repeat("m", 3000) })
	for _, s := range append(wrongStores(), impl.Store{}, impl.StoreNew(0), impl.StoreNew(3), impl.StoreNew(math.MinInt), huge, manyPieces) {
		if y, ok := checksBegin(t, s, 1); ok || !likeSyncs(y, impl.Sync{}) {
			t.Fatalf("SyncBegin(%+v) = %+v, %v", s, y, ok)
		}
	}
}

// syncStep is what one of two hears of what the other one said, now or before, how it is then, and what it tells.
type syncStep struct {
	at    int
	hears impl.Packet
	now   impl.Sync
	told  string
}

func syncTalk(a1, a2, b1 string) []syncStep {
	t2, t1, p1, p2, q1 := "T\x02", "T\x01", "P"+a1, "P"+a2, "P"+b1
	return []syncStep{
		{1, packetOf(9, 1, 1, t2), syncOf(linkOf(9, 1, 2, t1, q1), 2), ""},
		{1, packetOf(9, 1, 1, t2), syncOf(linkOf(9, 1, 2, t1, q1), 2), ""},
		// What was said first comes ahead of what is said now, whose Ack alone counts then.
		{0, packetOf(9, 1, 1, t1), syncOf(linkOf(9, 1, 2, t2, p1, p2), 1), ""},
		{0, packetOf(9, 1, 2, t1), syncOf(linkOf(9, 2, 2, p1, p2), 1), ""},
		{1, packetOf(9, 2, 2, p1), syncOf(linkOf(9, 2, 3, q1), 2, a1), ""},
		// It is whole, and this is told, while there is more that is to go.
		{0, packetOf(9, 2, 3, q1), syncOf(linkOf(9, 3, 3, p2), 1, b1), b1},
		{0, packetOf(9, 2, 3, q1), syncOf(linkOf(9, 3, 3, p2), 1, b1), ""},
		{1, packetOf(9, 1, 1, t2), syncOf(linkOf(9, 2, 3, q1), 2, a1), ""},
		{1, packetOf(9, 2, 2, p1), syncOf(linkOf(9, 2, 3, q1), 2, a1), ""},
		{1, packetOf(9, 3, 3, p2), syncOf(linkOf(9, 3, 4), 2, a1, a2), a1 + a2},
		{1, packetOf(9, 3, 3, p2), syncOf(linkOf(9, 3, 4), 2, a1, a2), ""},
		{0, packetOf(9, 1, 2, t1), syncOf(linkOf(9, 3, 3, p2), 1, b1), ""},
		{0, packetOf(9, 0, 4, ""), syncOf(linkOf(9, 4, 3), 1, b1), ""},
		{0, packetOf(9, 0, 4, ""), syncOf(linkOf(9, 4, 3), 1, b1), ""},
		{1, packetOf(9, 0, 3, ""), syncOf(linkOf(9, 3, 4), 2, a1, a2), ""},
	}
}

func TestSyncTalk(t *testing.T) {
	a, b := sizedStore(t, 1, 161), sizedStore(t, 2, 120)
	text, other := storeByWords(a), storeByWords(b)
	both := []impl.Sync{begins(t, a, 9), begins(t, b, 9)}
	said := [][]impl.Packet{{impl.LinkSays(both[0].Link)}, {impl.LinkSays(both[1].Link)}}
	told := []string{"", ""}
	for i, step := range syncTalk(text[:120], text[120:], other) {
		if !slices.Contains(said[1-step.at], step.hears) {
			t.Fatalf("%d: %+v was never said", i, step.hears)
		}
		now, all := checksSyncHears(t, both[step.at], step.hears)
		if all != step.told || !likeSyncs(now, step.now) {
			t.Fatalf("%d: %+v, %q; want %+v", i, now, all, step)
		}
		both[step.at] = now
		told[step.at] += all
		said[step.at] = append(said[step.at], impl.LinkSays(now.Link))
	}
	if told[1] != text || told[0] != other {
		t.Errorf("%q", told)
	}
	if checksOver(t, both[0]) || !checksOver(t, checksEnds(t, both[0], true)) || checksOver(t, checksEnds(t, both[1], false)) {
		t.Errorf("%+v", both)
	}
}

// twoSyncs are two with the texts of their stores, what each one told, and all that each one said.
type twoSyncs struct {
	syncs [2]impl.Sync
	texts [2]string
	told  [2][]string
	said  [2][]impl.Packet
}

func twoSyncsOf(t *testing.T, epoch int, a, b impl.Store) twoSyncs {
	t.Helper()
	w := twoSyncs{syncs: [2]impl.Sync{begins(t, a, epoch), begins(t, b, epoch)}, texts: [2]string{storeByWords(a), storeByWords(b)}}
	return w.says(0).says(1)
}

// says writes into nothing that w has.
func (w twoSyncs) says(at int) twoSyncs {
	if p := impl.LinkSays(w.syncs[at].Link); !slices.Contains(w.said[at], p) {
		w.said[at] = append(slices.Clone(w.said[at]), p)
	}
	return w
}

func (w twoSyncs) hears(t *testing.T, at int, p impl.Packet) twoSyncs {
	t.Helper()
	now, all := checksSyncHears(t, w.syncs[at], p)
	if all != "" {
		w.told[at] = append(slices.Clone(w.told[at]), all)
		now = checksEnds(t, now, true)
	}
	w.syncs[at] = now
	w.brings(t)
	return w.says(at)
}

// brings: nothing but the other one's text is told, once, and it is told when its last piece came.
func (w twoSyncs) brings(t *testing.T) {
	t.Helper()
	for at, y := range w.syncs {
		other := w.texts[1-at]
		came := strings.Join(y.Pieces, "")
		if y.Failed || !strings.HasPrefix(other, came) || y.Done != (came == other) {
			t.Fatalf("%+v hears %q", y, other)
		}
		if len(w.told[at]) > 1 || len(w.told[at]) == 1 && w.told[at][0] != other || y.Done != (len(w.told[at]) == 1) {
			t.Fatalf("%+v told %q", y, w.told[at])
		}
		if checksOver(t, y) && strings.Join(w.syncs[1-at].Pieces, "") != w.texts[at] {
			t.Fatalf("%+v is over, and the other one has %+v", y, w.syncs[1-at])
		}
	}
}

// calm carries what both say, with nothing lost, until it is over.
func (w twoSyncs) calm(t *testing.T) {
	t.Helper()
	for range 2*(len(w.syncs[0].Link.Way)+len(w.syncs[1].Link.Way)) + 4 {
		for at := range 2 {
			w = w.hears(t, at, impl.LinkSays(w.syncs[1-at].Link))
		}
	}
	for at, y := range w.syncs {
		if !slices.Equal(w.told[at], []string{w.texts[1-at]}) || !impl.SyncOver(y) {
			t.Fatalf("%q told, %+v", w.told[at], y)
		}
	}
}

func (w twoSyncs) key() string {
	key := ""
	for at, y := range w.syncs {
		key += fmt.Sprint(y.Link.Next, y.Link.Want, len(y.Link.Way), y.Total, len(y.Pieces), y.Done, y.Failed, len(w.told[at]))
		for _, p := range w.said[at] {
			key += fmt.Sprint(" ", p.Seq, p.Ack)
		}
		key += "\n"
	}
	return key
}

// TestSyncsInEveryOrder goes every way that two can take, whatever was said is lost, is carried once or often, or comes late.
func TestSyncsInEveryOrder(t *testing.T) {
	one, full, two, three := impl.StoreNew(1), sizedStore(t, 2, 120), sizedStore(t, 2, 121), sizedStore(t, 1, 241)
	for _, stores := range [][2]impl.Store{{one, impl.StoreNew(2)}, {one, full}, {one, two}, {full, one}, {three, full}, {two, three}} {
		seen := map[string]int{}
		open := []twoSyncs{twoSyncsOf(t, 1, stores[0], stores[1])}
		for len(open) > 0 {
			w := open[len(open)-1]
			open = open[:len(open)-1]
			key := w.key()
			if seen[key] > 0 {
				continue
			}
			seen[key] = 1
			w.calm(t)
			for at := range 2 {
				for _, p := range w.said[1-at] {
					open = append(open, w.hears(t, at, p))
				}
			}
		}
		if len(seen) < 12 {
			t.Errorf("%d", len(seen))
		}
	}
}

// carried is what becomes of a text that goes between two: some are cut or turned.
func carried(r *rand.Rand, text string) string {
	switch r.Intn(10) {
	case 0:
		return text[:r.Intn(len(text))]
	case 1:
		turned := []byte(text)
		turned[r.Intn(len(turned))] ^= byte(1 + r.Intn(255))
		return string(turned)
	}
	return text
}

// TestSyncsInBytes: what both say goes as bytes, of which some are lost, turned, cut, carried twice or late, or are of another sync; then both stores come to the same.
func TestSyncsInBytes(t *testing.T) {
	r := rand.New(rand.NewSource(1802))
	for i := range 40 {
		p := drawnApart(r, twoStores{oneStore(t, 1), oneStore(t, 2)}, r.Intn(40))
		if i%8 == 0 {
			p = twoStores{someStore(r.Intn(6), r.Intn(20)), fullestStore()}
		}
		epoch := []int{0, 1, 300, impl.MaxNumber - 1}[r.Intn(4)]
		w := twoSyncsOf(t, epoch, p.a, p.b)
		other := begins(t, sizedStore(t, 1, 300), epoch+1)
		for range 60 {
			at := r.Intn(2)
			said := impl.LinkSays(w.syncs[1-at].Link)
			switch r.Intn(8) {
			case 0:
				continue
			case 1:
				said = w.said[1-at][r.Intn(len(w.said[1-at]))]
			case 2:
				said = impl.LinkSays(other.Link)
			}
			text, ok := impl.PacketText(said)
			if !ok {
				t.Fatalf("%+v is no packet", said)
			}
			if heard, whole := impl.ReadPacket(carried(r, text)); whole {
				w = w.hears(t, at, heard)
			}
		}
		w.calm(t)
		theirs, ok := impl.ReadStore(w.texts[1])
		ours, right := impl.ReadStore(w.texts[0])
		if !ok || !right || !impl.Alike(impl.JoinStore(p.a, theirs), impl.JoinStore(p.b, ours)) {
			t.Fatalf("%+v and %+v do not come to the same", p.a, p.b)
		}
	}
}

func TestSyncsOfAllStores(t *testing.T) {
	list := syncStores(t)
	for i, s := range list {
		w := twoSyncsOf(t, i, s, list[len(list)-1-i])
		w.calm(t)
		w.hears(t, 0, w.said[1][0]).calm(t)
	}
}

// TestSyncHearsTotals: what comes with `T` first.
func TestSyncHearsTotals(t *testing.T) {
	for _, c := range []struct {
		text   string
		total  int
		failed bool
	}{
		{"T\x01", 1, false}, {"T\x02", 2, false}, {"T\x27", 39, false}, {"T\x3c", 60, false}, {"T\x7f", 127, false}, {"T\x80\x01", 128, false}, {"T\xac\x02", 300, false}, {"T\x80\x94\xeb\xdc\x03", 1000000000, false},
		{"T", 0, true}, {"T\x00", 0, true}, {"T\x00\x01", 0, true}, {"T\x80", 0, true}, {"T\x80\x00", 0, true}, {"T\x81\x00", 0, true}, {"T\x85\x80\x00", 0, true}, {"T\x80\x80\x80", 0, true}, {"T\x81\x94\xeb\xdc\x03", 0, true}, {"T\xff\xff\xff\xff\xff\xff\xff\xff\xff\x01", 0, true}, {"T\xff\xff\xff\xff\xff\xff\xff\xff\x7f", 0, true},
		// What is behind the number tells nothing.
		{"T\x05x", 5, false}, {"T\x01\x02", 1, false}, {"T\x01\x80", 1, false}, {"T\x80\x01T", 128, false}, {"T11", 49, false}, {"TT", 84, false}, {"TP", 80, false},
		{"T 1", 32, false}, {"T\x01" + strings.Repeat("\x00", 398), 1, false}, {"T\x00" + strings.Repeat("\x01", 398), 0, true},
	} {
		y, all := hearsText(t, freshSync(), c.text)
		if all != "" || !likeSyncs(y, impl.Sync{Epoch: 1, Link: linkOf(1, 1, 2), Total: c.total, Failed: c.failed}) {
			t.Errorf("%q: %+v, %q", c.text, y, all)
		}
		// A second one counts as the first did; one that tells none changes no Total.
		y, all = hearsText(t, syncOf(linkOf(1, 4, 3, "x"), 7, "a", "b"), c.text)
		want := c.total
		if c.failed {
			want = 7
		}
		told := ""
		if c.total == 2 {
			told = "ab"
		}
		if all != told || !likeSyncs(y, impl.Sync{Epoch: 1, Link: linkOf(1, 4, 4, "x"), Total: want, Pieces: []string{"a", "b"}, Failed: c.failed}) {
			t.Errorf("%q: %+v, %q", c.text, y, all)
		}
	}
	for _, n := range append(numbersOfWords(), 1, 2, 39, 59, 60, 61, 20000) {
		for _, tail := range []string{"", "x", "\x00"} {
			y, all := hearsText(t, freshSync(), "T"+varOf(uint64(n))+tail)
			if right := n > 0 && n <= impl.MaxNumber; all != "" || y.Failed == right || right && y.Total != n {
				t.Errorf("%d: %+v, %q", n, y, all)
			}
			if n <= 0 || n > impl.MaxNumber {
				continue
			}
			for _, longer := range longerForms(n) {
				if y, all = hearsText(t, freshSync(), "T"+longer+tail); all != "" || !y.Failed || y.Total != 0 {
					t.Errorf("%q: %+v, %q", longer, y, all)
				}
			}
		}
	}
	for _, n := range wrongNumbers() {
		if y, _ := hearsText(t, freshSync(), "T"+varOf(uint64(n))); !y.Failed || y.Total != 0 {
			t.Errorf("%d: %+v", n, y)
		}
	}
}

// hearing is what one hears in turn, and what it tells at each; how it is at last.
type hearing struct {
	name   string
	texts  []string
	told   []string
	total  int
	pieces []string
	failed bool
}

func hearings() []hearing {
	long := strings.Repeat("m", 399)
	return []hearing{
		{"one piece of one", []string{"T\x01", "Pab"}, []string{"", "ab"}, 1, []string{"ab"}, false},
		{"two of two", []string{"T\x02", "Pab", "Pc"}, []string{"", "", "abc"}, 2, []string{"ab", "c"}, false},
		{"no piece yet", []string{"T\x02"}, []string{""}, 2, nil, false},
		{"one of two", []string{"T\x02", "Pab"}, []string{"", ""}, 2, []string{"ab"}, false},
		{"a piece ahead of a Total of one", []string{"Pab", "T\x01"}, []string{"", "ab"}, 1, []string{"ab"}, false},
		{"a piece ahead of a Total of two", []string{"Pab", "T\x02", "Pc"}, []string{"", "", "abc"}, 2, []string{"ab", "c"}, false},
		{"the Total comes last", []string{"Pab", "Pc", "T\x02"}, []string{"", "", "abc"}, 2, []string{"ab", "c"}, false},
		{"more pieces than the Total that comes last", []string{"Pab", "Pc", "T\x01"}, []string{"", "", ""}, 1, []string{"ab", "c"}, false},
		{"pieces without a Total", []string{"Pab", "Pc", "Pd"}, []string{"", "", ""}, 0, []string{"ab", "c", "d"}, false},
		{"a piece more than the Total", []string{"T\x01", "Pab", "Pc", "Pd"}, []string{"", "ab", "", ""}, 1, []string{"ab", "c", "d"}, false},
		{"pieces of nothing", []string{"T\x02", "P", "P"}, []string{"", "", ""}, 2, []string{"", ""}, false},
		{"a piece of nothing, and one", []string{"T\x02", "P", "Pab"}, []string{"", "", "ab"}, 2, []string{"", "ab"}, false},
		{"one, and a piece of nothing", []string{"T\x02", "Pab", "P"}, []string{"", "", "ab"}, 2, []string{"ab", ""}, false},
		{"pieces alike", []string{"T\x03", "Pab", "Pab", "Pab"}, []string{"", "", "", "ababab"}, 3, []string{"ab", "ab", "ab"}, false},
		{"pieces that begin as texts do", []string{"T\x03", "PP", "PT\x01", "P\x00"}, []string{"", "", "", "PT\x01\x00"}, 3, []string{"P", "T\x01", "\x00"}, false},
		{"pieces of other sizes", []string{"T\x02", "P" + long, "P" + long[:121]}, []string{"", "", long + long[:121]}, 2, []string{long, long[:121]}, false},
		{"the same Total again, ahead", []string{"T\x02", "T\x02", "Pab", "Pc"}, []string{"", "", "", "abc"}, 2, []string{"ab", "c"}, false},
		{"the same Total again, behind", []string{"T\x01", "Pab", "T\x01", "T\x01x"}, []string{"", "ab", "", ""}, 1, []string{"ab"}, false},
		{"another Total, ahead", []string{"T\x02", "T\x01", "Pab", "Pc"}, []string{"", "", "ab", ""}, 1, []string{"ab", "c"}, false},
		{"another Total between, of as many", []string{"T\x03", "Pab", "Pc", "T\x02"}, []string{"", "", "", "abc"}, 2, []string{"ab", "c"}, false},
		{"another Total between, of fewer", []string{"T\x03", "Pab", "Pc", "T\x01"}, []string{"", "", "", ""}, 1, []string{"ab", "c"}, false},
		{"something else", []string{"x"}, []string{""}, 0, nil, true},
		{"nothing", []string{""}, []string{""}, 0, nil, true},
		{"small ones", []string{"t\x01", "pab"}, []string{"", ""}, 0, nil, true},
		{"a blank ahead", []string{" T\x01", " Pab"}, []string{"", ""}, 0, nil, true},
		{"no Total, then one", []string{"T", "T\x01", "Pab"}, []string{"", "", "ab"}, 1, []string{"ab"}, true},
		{"a Total of 0 ahead of pieces", []string{"T\x00", "Pab"}, []string{"", ""}, 0, []string{"ab"}, true},
		{"a Total of 0 between", []string{"T\x02", "Pab", "T\x00", "Pc"}, []string{"", "", "", "abc"}, 2, []string{"ab", "c"}, true},
		{"something else between", []string{"T\x02", "Pab", "x", "Pc"}, []string{"", "", "", "abc"}, 2, []string{"ab", "c"}, true},
		{"something else behind", []string{"T\x01", "Pab", "x", "", "T"}, []string{"", "ab", "", "", ""}, 1, []string{"ab"}, true},
	}
}

func TestSyncHearings(t *testing.T) {
	for _, h := range hearings() {
		for _, begun := range inEveryEnd(syncOf(linkOf(4, 6, 1, "way"), 0)) {
			y := begun
			for i, text := range h.texts {
				now, all := hearsText(t, y, text)
				if all != h.told[i] {
					t.Errorf("%s: %q tells %q", h.name, text, all)
				}
				y = now
			}
			want := impl.Sync{Epoch: 4, Link: linkOf(4, 6, 1+len(h.texts), "way"), Total: h.total, Pieces: h.pieces, Done: begun.Done, Failed: begun.Failed || h.failed}
			if !likeSyncs(y, want) {
				t.Errorf("%s: %+v; want %+v", h.name, y, want)
			}
		}
	}
}

func TestSyncHearsEveryFirstByte(t *testing.T) {
	for _, first := range []byte(everyByte()) {
		for _, rest := range []string{"", "\x02", "\x02x", "\x00"} {
			for _, given := range []impl.Sync{freshSync(), syncOf(impl.LinkNew(1), 2, "a"), syncOf(impl.LinkNew(1), 1, "a")} {
				y, all := hearsText(t, given, string([]byte{first})+rest)
				if first == 'T' || first == 'P' {
					continue
				}
				want := withSync(given, func(y *impl.Sync) { y.Link.Want, y.Failed = 2, true })
				if all != "" || !likeSyncs(y, want) {
					t.Errorf("%d, %q: %+v, %q", first, rest, y, all)
				}
			}
		}
	}
}

// someSyncs are at every place of a sync: nothing came yet, a part of it, all, and more than all.
func someSyncs() []impl.Sync {
	var list []impl.Sync
	for _, l := range []impl.Link{linkOf(1, 1, 1), linkOf(1, 2, 3, "Pa", "Pb"), linkOf(1, 7, 4, wayOf(60)...)} {
		for _, y := range []impl.Sync{syncOf(l, 0), syncOf(l, 2), syncOf(l, 0, "ab"), syncOf(l, 2, "ab"), syncOf(l, 1, "ab"), syncOf(l, 2, "ab", "c"), syncOf(l, 1, "ab", "c")} {
			list = append(list, inEveryEnd(y)...)
		}
	}
	return list
}

// TestSyncHearsWhatBringsNothing: of another Epoch nothing counts, of a Seq that is not wanted the Ack alone.
func TestSyncHearsWhatBringsNothing(t *testing.T) {
	for _, given := range someSyncs() {
		l := given.Link
		for _, text := range []string{"T\x01", "T\x02", "T", "Pd", "P", "x", ""} {
			for _, p := range []impl.Packet{packetOf(2, l.Want, l.Next+1, text), packetOf(0, l.Want, 0, text), packetOf(-1, l.Want, 0, text), packetOf(impl.MaxNumber, l.Want, l.Next+1, text),
				packetOf(1, l.Want+1, 1, text), packetOf(1, l.Want-1, 1, text), packetOf(1, 0, 1, text), packetOf(1, -l.Want, 1, text), packetOf(1, math.MaxInt, 0, text), packetOf(1, math.MinInt, l.Next, text)} {
				y, all := checksSyncHears(t, given, p)
				if all != "" || !likeSyncs(y, given) {
					t.Fatalf("SyncHears(%+v, %+v) = %+v, %q", given, p, y, all)
				}
			}
			for _, seq := range []int{0, l.Want + 1, l.Want - 1} {
				y, all := checksSyncHears(t, given, packetOf(1, seq, l.Next+1, text))
				want := copySync(given)
				if len(l.Way) > 0 {
					want.Link = linkOf(1, l.Next+1, l.Want, l.Way[1:]...)
				}
				if all != "" || !likeSyncs(y, want) {
					t.Fatalf("%+v hears an Ack with Seq %d: %+v, %q", given, seq, y, all)
				}
			}
		}
	}
}

// TestSyncHearsByItsLinksEpoch: the Sync's own Epoch says nothing of what comes.
func TestSyncHearsByItsLinksEpoch(t *testing.T) {
	y := impl.Sync{Epoch: 5, Link: impl.LinkNew(6), Total: 1}
	if now, all := checksSyncHears(t, y, packetOf(5, 1, 1, "Pab")); all != "" || !likeSyncs(now, y) {
		t.Errorf("%+v, %q", now, all)
	}
	want := impl.Sync{Epoch: 5, Link: linkOf(6, 1, 2), Total: 1, Pieces: []string{"ab"}}
	if now, all := checksSyncHears(t, y, packetOf(6, 1, 1, "Pab")); all != "ab" || !likeSyncs(now, want) {
		t.Errorf("%+v, %q", now, all)
	}
}

// TestSyncTellsOnce: nothing that comes behind the whole tells it again.
func TestSyncTellsOnce(t *testing.T) {
	texts := []string{"T\x02", "T\x02x", "T", "T\x00", "x", "", "T\x02"}
	for _, whole := range inEveryEnd(syncOf(linkOf(1, 1, 4, "a", "b", "c"), 2, "ab", "c")) {
		y := whole
		for i, text := range texts {
			for _, p := range []impl.Packet{packetOf(1, 0, 0, ""), packetOf(1, 0, 2+i, ""), packetOf(1, y.Link.Want-1, 0, text), packetOf(2, y.Link.Want, 0, text)} {
				now, all := checksSyncHears(t, y, p)
				if all != "" {
					t.Fatalf("%+v tells %q at %+v", y, all, p)
				}
				y = now
			}
			for _, ended := range []impl.Sync{checksEnds(t, y, true), checksEnds(t, y, false)} {
				if _, all := hearsText(t, ended, text); all != "" {
					t.Fatalf("%+v tells %q at %q", ended, all, text)
				}
			}
			now, all := hearsText(t, y, text)
			if all != "" || now.Total != 2 || len(now.Pieces) != 2 {
				t.Fatalf("%+v tells %q at %q: %+v", y, all, text, now)
			}
			y = now
		}
		for _, text := range []string{"P", "Pd", "T\x01", "T\x05", "x"} {
			now, all := hearsText(t, y, text)
			if all != "" {
				t.Fatalf("%+v tells %q at %q", y, all, text)
			}
			y = now
		}
	}
}

func TestSyncEnds(t *testing.T) {
	for _, c := range []struct{ done, failed, ok, nowDone, nowFailed bool }{
		{false, false, true, true, false}, {false, false, false, false, true},
		{true, false, true, true, false}, {true, false, false, true, true},
		{false, true, true, true, true}, {false, true, false, false, true},
		{true, true, true, true, true}, {true, true, false, true, true},
	} {
		for _, y := range []impl.Sync{{}, syncOf(linkOf(3, 2, 4, "a", "b"), 5, "c", "d"), {Epoch: -1, Link: linkOf(math.MinInt, math.MaxInt, -7, ""), Total: -4}} {
			y.Done, y.Failed = c.done, c.failed
			want := copySync(y)
			want.Done, want.Failed = c.nowDone, c.nowFailed
			if got := impl.SyncEnds(y, c.ok); !likeSyncs(got, want) {
				t.Errorf("SyncEnds(%+v, %v) = %+v", y, c.ok, got)
			}
		}
	}
	for _, y := range someSyncs() {
		checksEnds(t, y, true)
		checksEnds(t, y, false)
	}
}

func TestSyncOver(t *testing.T) {
	for _, way := range [][]string{nil, {}, {"a"}, {""}, {"a", "b"}, wayOf(60), wayOf(100)} {
		for _, failed := range []bool{false, true} {
			for _, y := range []impl.Sync{syncOf(linkOf(1, 1, 1, way...), 0), syncOf(linkOf(0, -1, 0, way...), 2, "a", "b"), syncOf(linkOf(7, 4, 2, way...), -3, "a"), syncOf(linkOf(7, 4, 2, way...), 3)} {
				y.Failed = failed
				if checksOver(t, y) {
					t.Errorf("%+v is over", y)
				}
				y.Done = true
				if checksOver(t, y) != (len(way) == 0) {
					t.Errorf("%+v", y)
				}
			}
		}
	}
	if impl.SyncOver(impl.Sync{}) || !impl.SyncOver(impl.Sync{Done: true}) || !impl.SyncOver(impl.Sync{Done: true, Failed: true}) || impl.SyncOver(impl.Sync{Failed: true}) {
		t.Error("over")
	}
	for _, s := range syncStores(t) {
		y := begins(t, s, 1)
		if checksOver(t, y) || checksOver(t, impl.SyncEnds(y, true)) {
			t.Errorf("%+v", y)
		}
	}
}

// totalEdges are Totals that are right, and others.
func totalEdges() []int {
	return []int{0, 1, 2, 3, 40, 60, 61, -1, -2, impl.MaxNumber, impl.MaxNumber + 1, math.MaxInt, math.MaxInt - 1, math.MinInt, math.MinInt + 1}
}

func TestSyncsThatAreNotRight(t *testing.T) {
	places := []int{0, 1, -1, 60, impl.MaxNumber + 1, math.MaxInt, math.MinInt}
	for _, total := range totalEdges() {
		for size, pieces := range [][]string{nil, {""}, {"a", "a"}, wayOf(3), wayOf(60), wayOf(61)} {
			for i, next := range places {
				want := places[(i+size)%len(places)]
				for _, way := range edgeWays()[:9] {
					y := impl.Sync{Epoch: want, Link: linkOf(next, next, want, way...), Total: total, Pieces: pieces, Done: size%2 > 0, Failed: i%2 > 0}
					for _, text := range []string{"T\x01", "T\x02", "T\x03", "T", "T\x00", "Pz", "P", "x", ""} {
						for _, seq := range []int{want, want + 1, 0} {
							checksSyncHears(t, y, packetOf(next, seq, next+1, text))
						}
						checksSyncHears(t, y, packetOf(next+1, want, next+1, text))
					}
					checksOver(t, checksEnds(t, y, true))
					checksOver(t, checksEnds(t, y, false))
				}
			}
		}
	}
	zero := impl.Sync{}
	if now, all := checksSyncHears(t, zero, impl.Packet{}); all != "" || !likeSyncs(now, zero) {
		t.Errorf("%+v, %q", now, all)
	}
	// A Total below 1 is none, though there are as many pieces.
	if now, all := checksSyncHears(t, impl.Sync{Link: linkOf(0, 0, 1), Total: -1}, packetOf(0, 1, 0, "Pa")); all != "" || now.Total != -1 || len(now.Pieces) != 1 {
		t.Errorf("%+v, %q", now, all)
	}
}

func TestSyncHearsLongTexts(t *testing.T) {
	long := strings.Repeat(everyByte(), 400)
	y := syncOf(impl.LinkNew(1), 2, long)
	now, all := hearsText(t, y, "P"+long)
	if all != long+long || len(now.Pieces) != 2 || now.Pieces[1] != long {
		t.Errorf("%d bytes, %d pieces", len(all), len(now.Pieces))
	}
	many := syncOf(impl.LinkNew(1), 20000)
	for range 19999 {
		many.Pieces = append(many.Pieces, "a")
	}
	if _, all = impl.SyncHears(many, packetOf(1, 1, 0, "Pb")); all != strings.Repeat("a", 19999)+"b" {
		t.Errorf("%d bytes", len(all))
	}
}

func drawnHeard(r *rand.Rand) string {
	switch r.Intn(8) {
	case 0, 1:
		return "T" + varOf(uint64(r.Intn(6)))
	case 2:
		return "T" + drawnText(r, r.Intn(4))
	case 3:
		return drawnText(r, r.Intn(4))
	case 4:
		return "P"
	}
	return "P" + drawnText(r, r.Intn(130))
}

func TestDrawnSyncs(t *testing.T) {
	r := rand.New(rand.NewSource(1803))
	told := 0
	for range 3000 {
		y := syncOf(linkOf(1, 1, 1, wayOf(r.Intn(4))...), r.Intn(4))
		for range 12 {
			p := packetOf(1, y.Link.Want, y.Link.Next+r.Intn(2), drawnHeard(r))
			if r.Intn(8) == 0 {
				p.Seq += r.Intn(3) - 1
			}
			now, all := checksSyncHears(t, y, p)
			if all != "" {
				told++
			}
			y = now
			if r.Intn(12) == 0 {
				y = checksEnds(t, y, r.Intn(2) == 0)
			}
			checksOver(t, y)
		}
	}
	if told < 1000 {
		t.Errorf("%d told", told)
	}
}

// roomySync has room behind its lists, in which something stands.
func roomySync(y impl.Sync) impl.Sync {
	y.Link = roomyLink(y.Link)
	y.Pieces = roomyLink(linkOf(0, 0, 0, y.Pieces...)).Way
	return y
}

// wholeSync has what stands behind the ends as well.
func wholeSync(y impl.Sync) impl.Sync {
	y.Link = wholeLink(y.Link)
	y.Pieces = slices.Clone(y.Pieces[:cap(y.Pieces)])
	return y
}

func spoilSync(y impl.Sync) {
	spoilLink(y.Link)
	spoilLink(linkOf(0, 0, 0, y.Pieces...))
}

func memorySyncs() []impl.Sync {
	var list []impl.Sync
	for _, way := range [][]string{nil, {}, {"a"}, {"ab", "cd"}, wayOf(60)} {
		for _, pieces := range [][]string{nil, {}, {"ab"}, {"a", "cd"}, {"", "ab", "c"}} {
			for total := range 4 {
				list = append(list, syncOf(linkOf(1, 1, 1, way...), total, pieces...))
			}
		}
	}
	return list
}

func memoryHeard() []impl.Packet {
	return []impl.Packet{packetOf(1, 1, 2, "Pof it"), packetOf(1, 1, 1, "P"), packetOf(1, 1, 2, "T\x01"), packetOf(1, 1, 1, "T\x02"), packetOf(1, 1, 1, "T\x03"), packetOf(1, 1, 1, "T"), packetOf(1, 1, 1, "else"), packetOf(1, 0, 2, ""), packetOf(1, 5, 2, "Pof it"), packetOf(2, 1, 2, "Pof it"), {}}
}

// syncsAnswered are all that is answered of one, and the texts that are told beside them.
func syncsAnswered(y impl.Sync, packets []impl.Packet) ([]impl.Sync, []string) {
	list := []impl.Sync{impl.SyncEnds(y, true), impl.SyncEnds(y, false)}
	var told []string
	for _, p := range packets {
		now, all := impl.SyncHears(y, p)
		list, told = append(list, now), append(told, all)
	}
	impl.SyncOver(y)
	return list, told
}

func TestSyncsLeaveTheirArguments(t *testing.T) {
	for _, given := range memorySyncs() {
		y := roomySync(given)
		whole := wholeSync(y)
		syncsAnswered(y, memoryHeard())
		if !likeSyncs(wholeSync(y), whole) {
			t.Fatalf("%+v was written into, or behind its end", given)
		}
	}
	for _, given := range append(memoryStores(), syncStores(t)...) {
		s := roomyStore(given)
		whole := wholeStore(s)
		impl.SyncBegin(s, 1)
		if !likeStores(wholeStore(s), whole) {
			t.Fatalf("%+v was written into, or behind its end", given)
		}
	}
}

// TestSyncsNewMemory: what is answered stays as it is when an argument is changed behind the call, and the other way round.
func TestSyncsNewMemory(t *testing.T) {
	for _, given := range memorySyncs() {
		y := roomySync(given)
		answers, _ := syncsAnswered(y, memoryHeard())
		var kept []impl.Sync
		for _, answer := range answers {
			kept = append(kept, copySync(answer))
		}
		spoilSync(y)
		y = roomySync(given)
		whole := wholeSync(y)
		again, _ := syncsAnswered(y, memoryHeard())
		for i, answer := range answers {
			if !likeSyncs(answer, kept[i]) {
				t.Fatalf("answer %d of %+v became %+v when the argument was changed", i, given, answer)
			}
			spoilSync(answer)
		}
		for i, answer := range again {
			if !likeSyncs(answer, kept[i]) {
				t.Fatalf("answer %d of %+v changed with another one", i, given)
			}
			spoilSync(answer)
		}
		if !likeSyncs(wholeSync(y), whole) {
			t.Fatalf("%+v changed with its answers", given)
		}
	}
}

func TestSyncBeginsNewMemory(t *testing.T) {
	for _, given := range syncStores(t) {
		s := roomyStore(given)
		one, _ := impl.SyncBegin(s, 1)
		kept := copySync(one)
		spoilStore(s)
		s = roomyStore(given)
		other, _ := impl.SyncBegin(s, 1)
		if !likeSyncs(one, kept) || !likeSyncs(other, kept) {
			t.Fatalf("of %+v: %+v, %+v", given, one, other)
		}
		whole := wholeStore(s)
		spoilSync(one)
		if !likeSyncs(other, kept) || !likeStores(wholeStore(s), whole) {
			t.Fatalf("of %+v: %+v changed with another one", given, other)
		}
		noneShared(t, append(slices.Clone(kept.Link.Way), other.Link.Way...), textsOfStore(s))
	}
}

// noneShared: no two of our own texts share memory, nor does one of them with one that was given.
func noneShared(t *testing.T, own, given []string) {
	t.Helper()
	for i, one := range own {
		if slices.ContainsFunc(given, func(other string) bool { return sharesMemory(one, other) }) {
			t.Fatalf("the text %q of an argument is in an answer", one)
		}
		if slices.ContainsFunc(own[i+1:], func(other string) bool { return sharesMemory(one, other) }) {
			t.Fatalf("the text %q is twice in what is answered", one)
		}
	}
}

func TestSyncsShareNoTexts(t *testing.T) {
	for _, given := range memorySyncs() {
		y := roomySync(given)
		theirs := append(slices.Clone(y.Link.Way), y.Pieces...)
		packets := memoryHeard()
		for i := range packets {
			packets[i].Text = strings.Clone(packets[i].Text)
			theirs = append(theirs, packets[i].Text)
		}
		answers, own := syncsAnswered(y, packets)
		for _, answer := range answers {
			own = append(append(own, answer.Link.Way...), answer.Pieces...)
		}
		noneShared(t, own, theirs)
	}
}

func TestPiecesNewMemory(t *testing.T) {
	for _, size := range []int{0, 1, 2, 119, 120, 121, 240, 241, 1000} {
		text := drawnText(rand.New(rand.NewSource(int64(size))), size)
		one, other := impl.PiecesOf(text), impl.PiecesOf(text)
		noneShared(t, append(slices.Clone(one), other...), []string{text})
		kept := slices.Clone(other)
		spoilLink(linkOf(0, 0, 0, one...))
		if !slices.Equal(other, kept) {
			t.Errorf("%d bytes: %q changed with another one", size, other)
		}
	}
}

// TestSyncsAgain: what one did leaves nothing for another, also when many are under way.
func TestSyncsAgain(t *testing.T) {
	stores := syncStores(t)
	var group sync.WaitGroup
	for worker := range 8 {
		group.Go(func() {
			r := rand.New(rand.NewSource(int64(1810 + worker)))
			for range 40 {
				s := stores[r.Intn(len(stores))]
				y, ok := impl.SyncBegin(s, worker)
				if want, _ := beginByWords(s, worker); !ok || !likeSyncs(y, want) {
					t.Errorf("SyncBegin(%+v, %d) = %+v, %v", s, worker, y, ok)
				}
				if text := storeByWords(s); !slices.Equal(impl.PiecesOf(text), cutByWords(text)) {
					t.Errorf("PiecesOf(%q)", text)
				}
				for range 10 {
					p := packetOf(worker, y.Link.Want-r.Intn(2), y.Link.Next+r.Intn(2), drawnHeard(r))
					now, all := impl.SyncHears(y, p)
					if want, wantText := syncHearsByWords(y, p); all != wantText || !likeSyncs(now, want) {
						t.Errorf("SyncHears(%+v, %+v) = %+v, %q", y, p, now, all)
					}
					y = now
				}
				if ended := impl.SyncEnds(y, true); !likeSyncs(ended, endsByWords(y, true)) || impl.SyncOver(ended) != (len(y.Link.Way) == 0) {
					t.Errorf("SyncEnds(%+v) = %+v", y, ended)
				}
			}
		})
	}
	group.Wait()
}
