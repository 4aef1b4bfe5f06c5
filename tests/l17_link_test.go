package tests

import (
	"fmt"
	"math"
	"math/rand"
	"slices"
	"strings"
	"sync"
	"testing"

	"loop.example/g00324/impl"
)

// They have just these fields, in this order: else this would not build.
var _ = struct {
	Epoch int
	Seq   int
	Ack   int
	Text  string
}(impl.Packet{})

var _ = struct {
	Epoch int
	Way   []string
	Next  int
	Want  int
}(impl.Link{})

func packetOf(epoch, seq, ack int, text string) impl.Packet {
	return impl.Packet{Epoch: epoch, Seq: seq, Ack: ack, Text: text}
}

func linkOf(epoch, next, want int, way ...string) impl.Link {
	return impl.Link{Epoch: epoch, Way: way, Next: next, Want: want}
}

func likeLinks(a, b impl.Link) bool {
	return a.Epoch == b.Epoch && slices.Equal(a.Way, b.Way) && a.Next == b.Next && a.Want == b.Want
}

func copyLink(l impl.Link) impl.Link {
	return linkOf(l.Epoch, l.Next, l.Want, slices.Clone(l.Way)...)
}

// wayOf are some texts, no two alike.
func wayOf(size int) []string {
	var list []string
	for i := range size {
		list = append(list, fmt.Sprintf("text %d", i))
	}
	return list
}

func putByWords(l impl.Link, text string) (impl.Link, bool) {
	if len(l.Way) > 59 || len(text) < 1 || len(text) > 400 {
		return l, false
	}
	out := copyLink(l)
	out.Way = append(out.Way, text)
	return out, true
}

func packetSaidByWords(l impl.Link) impl.Packet {
	if len(l.Way) == 0 {
		return packetOf(l.Epoch, 0, l.Want, "")
	}
	return packetOf(l.Epoch, l.Next, l.Want, l.Way[0])
}

func hearsByWords(l impl.Link, p impl.Packet) (impl.Link, string, bool) {
	out := copyLink(l)
	if p.Epoch != l.Epoch {
		return out, "", false
	}
	above := p.Ack > l.Next && uint64(p.Ack)-uint64(l.Next) == 1
	if above && len(l.Way) > 0 {
		out.Way = slices.Clone(l.Way)[1:]
		out.Next = p.Ack
	}
	if p.Seq == l.Want && p.Seq != 0 {
		out.Want++
		return out, p.Text, true
	}
	return out, "", false
}

func packetPieces(p impl.Packet) []piece {
	return append(piecesOf(p.Epoch, p.Seq, p.Ack), piece{len(p.Text), p.Text})
}

// packetByWords writes packets of any numbers and any text, so that it also makes what PacketText refuses to.
func packetByWords(p impl.Packet) string {
	return sealByWords(written(packetPieces(p)))
}

func packetOkByWords(p impl.Packet) bool {
	for _, n := range []int{p.Epoch, p.Seq, p.Ack} {
		if n < 0 || n > 1000000000 {
			return false
		}
	}
	return len(p.Text) <= 400
}

func readPacketByWords(text string) (impl.Packet, bool) {
	size := len(text) - 4
	if size < 0 {
		return impl.Packet{}, false
	}
	l := along{left: text[:size]}
	p := impl.Packet{Epoch: l.number()}
	p.Seq = l.number()
	p.Ack = l.number()
	p.Text = l.text()
	if l.missed || !packetOkByWords(p) || packetByWords(p) != text {
		return impl.Packet{}, false
	}
	return p, true
}

func checksPut(t *testing.T, l impl.Link, text string) (impl.Link, bool) {
	t.Helper()
	got, ok := impl.LinkPut(l, text)
	want, wantOk := putByWords(l, text)
	if ok != wantOk || !likeLinks(got, want) {
		t.Fatalf("LinkPut(%+v, %q) = %+v, %v; want %+v, %v", l, text, got, ok, want, wantOk)
	}
	return got, ok
}

func checksSays(t *testing.T, l impl.Link) impl.Packet {
	t.Helper()
	got := impl.LinkSays(l)
	if want := packetSaidByWords(l); got != want {
		t.Fatalf("LinkSays(%+v) = %+v; want %+v", l, got, want)
	}
	return got
}

func checksHears(t *testing.T, l impl.Link, p impl.Packet) (impl.Link, string, bool) {
	t.Helper()
	got, text, came := impl.LinkHears(l, p)
	want, wantText, wantCame := hearsByWords(l, p)
	if came != wantCame || text != wantText || !likeLinks(got, want) {
		t.Fatalf("LinkHears(%+v, %+v) = %+v, %q, %v; want %+v, %q, %v", l, p, got, text, came, want, wantText, wantCame)
	}
	return got, text, came
}

func checksPacketText(t *testing.T, p impl.Packet) (string, bool) {
	t.Helper()
	got, ok := impl.PacketText(p)
	want, wantOk := "", packetOkByWords(p)
	if wantOk {
		want = packetByWords(p)
	}
	if ok != wantOk || got != want {
		t.Fatalf("PacketText(%+v) = %q, %v; want %q, %v", p, got, ok, want, wantOk)
	}
	return got, ok
}

func checksReadPacket(t *testing.T, text string) (impl.Packet, bool) {
	t.Helper()
	got, ok := impl.ReadPacket(text)
	if want, wantOk := readPacketByWords(text); ok != wantOk || got != want {
		t.Fatalf("ReadPacket(%q) = %+v, %v; want %+v, %v", text, got, ok, want, wantOk)
	}
	return got, ok
}

func refusesPacket(t *testing.T, text string) {
	t.Helper()
	if p, ok := checksReadPacket(t, text); ok || p != (impl.Packet{}) {
		t.Fatalf("ReadPacket(%q) = %+v, %v", text, p, ok)
	}
}

func TestLinkNew(t *testing.T) {
	for _, epoch := range []int{1, 0, 2, 7, -1, impl.MaxNumber, impl.MaxNumber + 1, math.MaxInt, math.MinInt} {
		l := impl.LinkNew(epoch)
		if !likeLinks(l, linkOf(epoch, 1, 1)) {
			t.Errorf("LinkNew(%d) = %+v", epoch, l)
		}
		if p := checksSays(t, l); p != packetOf(epoch, 0, 1, "") {
			t.Errorf("LinkNew(%d) says %+v", epoch, p)
		}
	}
	if impl.MaxWay != 60 {
		t.Errorf("MaxWay is %d", impl.MaxWay)
	}
}

// linkStep is what one of two does, how it is then, and what it says then: it has something put, or hears what the other one said, now or before.
type linkStep struct {
	at    int
	put   string
	hears impl.Packet
	came  string
	now   impl.Link
	says  impl.Packet
}

func linkTalk() []linkStep {
	none := impl.Packet{}
	return []linkStep{
		{0, "one", none, "", linkOf(7, 1, 1, "one"), packetOf(7, 1, 1, "one")},
		{0, "two", none, "", linkOf(7, 1, 1, "one", "two"), packetOf(7, 1, 1, "one")},
		{1, "", packetOf(7, 0, 1, ""), "", linkOf(7, 1, 1), packetOf(7, 0, 1, "")},
		{1, "eins", none, "", linkOf(7, 1, 1, "eins"), packetOf(7, 1, 1, "eins")},
		{1, "", packetOf(7, 1, 1, "one"), "one", linkOf(7, 1, 2, "eins"), packetOf(7, 1, 2, "eins")},
		{1, "", packetOf(7, 1, 1, "one"), "", linkOf(7, 1, 2, "eins"), packetOf(7, 1, 2, "eins")},
		// Of what was said twice the first comes late, and then the second, whose Ack alone counts.
		{0, "", packetOf(7, 1, 1, "eins"), "eins", linkOf(7, 1, 2, "one", "two"), packetOf(7, 1, 2, "one")},
		{0, "", packetOf(7, 1, 2, "eins"), "", linkOf(7, 2, 2, "two"), packetOf(7, 2, 2, "two")},
		{0, "", packetOf(7, 1, 2, "eins"), "", linkOf(7, 2, 2, "two"), packetOf(7, 2, 2, "two")},
		{1, "", packetOf(7, 1, 2, "one"), "", linkOf(7, 2, 2), packetOf(7, 0, 2, "")},
		{1, "", packetOf(7, 1, 2, "one"), "", linkOf(7, 2, 2), packetOf(7, 0, 2, "")},
		{1, "", packetOf(7, 2, 2, "two"), "two", linkOf(7, 2, 3), packetOf(7, 0, 3, "")},
		{1, "zwei", none, "", linkOf(7, 2, 3, "zwei"), packetOf(7, 2, 3, "zwei")},
		// Its Ack and its Seq both count.
		{0, "", packetOf(7, 2, 3, "zwei"), "zwei", linkOf(7, 3, 3), packetOf(7, 0, 3, "")},
		{0, "", packetOf(7, 0, 2, ""), "", linkOf(7, 3, 3), packetOf(7, 0, 3, "")},
		{0, "", packetOf(7, 1, 1, "eins"), "", linkOf(7, 3, 3), packetOf(7, 0, 3, "")},
		{1, "", packetOf(7, 0, 3, ""), "", linkOf(7, 3, 3), packetOf(7, 0, 3, "")},
		{1, "", packetOf(7, 1, 1, "one"), "", linkOf(7, 3, 3), packetOf(7, 0, 3, "")},
		{0, "one", none, "", linkOf(7, 3, 3, "one"), packetOf(7, 3, 3, "one")},
		{0, "", packetOf(7, 0, 3, ""), "", linkOf(7, 3, 3, "one"), packetOf(7, 3, 3, "one")},
		{1, "", packetOf(7, 3, 3, "one"), "one", linkOf(7, 3, 4), packetOf(7, 0, 4, "")},
		{0, "", packetOf(7, 0, 4, ""), "", linkOf(7, 4, 3), packetOf(7, 0, 3, "")},
		{0, "", packetOf(7, 0, 4, ""), "", linkOf(7, 4, 3), packetOf(7, 0, 3, "")},
		{1, "", packetOf(7, 0, 3, ""), "", linkOf(7, 3, 4), packetOf(7, 0, 4, "")},
	}
}

func TestLinkTalk(t *testing.T) {
	links := []impl.Link{impl.LinkNew(7), impl.LinkNew(7)}
	said := [][]impl.Packet{{checksSays(t, links[0])}, {checksSays(t, links[1])}}
	came := make([][]string, 2)
	for i, step := range linkTalk() {
		l := links[step.at]
		text := ""
		if step.put != "" {
			now, ok := checksPut(t, l, step.put)
			if !ok {
				t.Fatalf("%d: %q is not put", i, step.put)
			}
			l = now
		} else {
			if !slices.Contains(said[1-step.at], step.hears) {
				t.Fatalf("%d: %+v was never said", i, step.hears)
			}
			now, told, ok := checksHears(t, l, step.hears)
			if ok != (step.came != "") {
				t.Fatalf("%d: %q, %v", i, told, ok)
			}
			if ok {
				came[step.at] = append(came[step.at], told)
			}
			l, text = now, told
		}
		if says := checksSays(t, l); text != step.came || !likeLinks(l, step.now) || says != step.says {
			t.Fatalf("%d: %q, %+v, %+v; want %+v", i, text, l, says, step)
		}
		links[step.at] = l
		said[step.at] = append(said[step.at], step.says)
	}
	if !slices.Equal(came[1], []string{"one", "two", "one"}) || !slices.Equal(came[0], []string{"eins", "zwei"}) {
		t.Errorf("%q and %q came", came[1], came[0])
	}
}

// twoLinks are two with what is to be put at each, what came to each, and all that each one said.
type twoLinks struct {
	links [2]impl.Link
	toPut [2][]string
	put   [2][]string
	came  [2][]string
	said  [2][]impl.Packet
}

func twoLinksOf(t *testing.T, epoch int, a, b []string) twoLinks {
	t.Helper()
	w := twoLinks{links: [2]impl.Link{impl.LinkNew(epoch), impl.LinkNew(epoch)}, toPut: [2][]string{a, b}}
	return w.changed(t, 0, w.links[0]).changed(t, 1, w.links[1])
}

// changed has one of them another way; nothing that w has is written into.
func (w twoLinks) changed(t *testing.T, at int, l impl.Link) twoLinks {
	t.Helper()
	w.links[at] = l
	if says := checksSays(t, l); !slices.Contains(w.said[at], says) {
		w.said[at] = append(slices.Clone(w.said[at]), says)
	}
	return w
}

func (w twoLinks) puts(t *testing.T, at int) twoLinks {
	t.Helper()
	text := w.toPut[at][0]
	l, ok := checksPut(t, w.links[at], text)
	if !ok {
		return w
	}
	w.toPut[at] = w.toPut[at][1:]
	w.put[at] = append(slices.Clone(w.put[at]), text)
	return w.changed(t, at, l)
}

func (w twoLinks) hears(t *testing.T, at int, p impl.Packet) twoLinks {
	t.Helper()
	l, text, came := checksHears(t, w.links[at], p)
	if came {
		w.came[at] = append(slices.Clone(w.came[at]), text)
	}
	w = w.changed(t, at, l)
	w.inOrder(t)
	return w
}

// inOrder: of what was put at one a beginning came to the other, and what did not come is on its way.
func (w twoLinks) inOrder(t *testing.T) {
	t.Helper()
	for at := range 2 {
		put, came := w.put[at], w.came[1-at]
		if len(came) > len(put) || !slices.Equal(came, put[:len(came)]) {
			t.Fatalf("%q were put, %q came: %+v", put, came, w.links)
		}
		if way := w.links[at].Way; len(way) < len(put)-len(came) || len(way) > len(put)-len(came)+1 || !slices.Equal(way, put[len(put)-len(way):]) {
			t.Fatalf("%q were put, %q came, %q are on their way", put, came, way)
		}
	}
}

// calm carries what both say, with nothing lost, until all came.
func (w twoLinks) calm(t *testing.T) {
	t.Helper()
	for range 2*(len(w.links[0].Way)+len(w.links[1].Way)+len(w.toPut[0])+len(w.toPut[1])) + 4 {
		for at := range 2 {
			if len(w.toPut[at]) > 0 {
				w = w.puts(t, at)
			}
			w = w.hears(t, at, checksSays(t, w.links[1-at]))
		}
	}
	for at := range 2 {
		if !slices.Equal(w.came[1-at], w.put[at]) || len(w.toPut[at])+len(w.links[at].Way) > 0 || w.links[at].Next != w.links[1-at].Want {
			t.Fatalf("%q were put, %q came: %+v", w.put[at], w.came[1-at], w.links)
		}
	}
}

func (w twoLinks) key() string {
	return fmt.Sprintf("%q %q %q %q", fmt.Sprint(w.links), w.toPut, w.came, fmt.Sprint(w.said))
}

// TestLinksInEveryOrder goes every way that a few texts to both sides can take, whatever was said is lost, is carried once or often, or comes late.
func TestLinksInEveryOrder(t *testing.T) {
	for _, texts := range [][2][]string{{{"x", "y", "x"}, {"u", "v"}}, {{"x", "y"}, {"u", "u", "v"}}, {{"x", "x", "x"}, nil}, {{"x"}, {"u"}}} {
		seen := map[string]int{}
		open := []twoLinks{twoLinksOf(t, 1, texts[0], texts[1])}
		for len(open) > 0 {
			w := open[len(open)-1]
			open = open[:len(open)-1]
			key := w.key()
			if seen[key] > 0 {
				continue
			}
			seen[key] = 1
			w.calm(t)
			for at := range 2 {
				if len(w.toPut[at]) > 0 {
					open = append(open, w.puts(t, at))
				}
				for _, p := range w.said[1-at] {
					open = append(open, w.hears(t, at, p))
				}
			}
		}
		if len(seen) < 16 {
			t.Errorf("%q: %d", texts, len(seen))
		}
	}
}

// TestLinksInBytes: what both say goes as bytes, of which some are lost, turned, cut, carried twice or late, or are of another talk.
func TestLinksInBytes(t *testing.T) {
	r := rand.New(rand.NewSource(1701))
	for range 60 {
		epoch := []int{0, 1, 130, impl.MaxNumber}[r.Intn(4)]
		other, _ := impl.LinkPut(impl.LinkNew(epoch+1), "of another talk")
		var texts [2][]string
		for range 60 {
			at := r.Intn(2)
			texts[at] = append(texts[at], drawnText(r, 1+[]int{r.Intn(4), r.Intn(400), 399}[r.Intn(3)]))
		}
		w := twoLinksOf(t, epoch, texts[0], texts[1])
		for range 300 {
			at := r.Intn(2)
			p := w.links[1-at]
			said := checksSays(t, p)
			switch r.Intn(12) {
			case 0, 1, 2:
				if len(w.toPut[at]) > 0 {
					w = w.puts(t, at)
				}
				continue
			case 3:
				continue
			case 4:
				said = w.said[1-at][r.Intn(len(w.said[1-at]))]
			case 5:
				said = checksSays(t, other)
			}
			checksPacketText(t, said)
			text := packetByWords(said)
			switch r.Intn(8) {
			case 0:
				text = text[:r.Intn(len(text))]
			case 1:
				turned := []byte(text)
				turned[r.Intn(len(turned))] ^= byte(1 + r.Intn(255))
				text = string(turned)
			}
			if heard, ok := checksReadPacket(t, text); ok {
				w = w.hears(t, at, heard)
			}
		}
		w.calm(t)
	}
}

// TestLinksOfManyTexts: the Way is full again and again.
func TestLinksOfManyTexts(t *testing.T) {
	w := twoLinksOf(t, 3, wayOf(200), wayOf(3))
	r := rand.New(rand.NewSource(1702))
	full := 0
	for range 30 {
		for range 1 + r.Intn(70) {
			if len(w.toPut[0]) > 0 {
				w = w.puts(t, 0)
			}
		}
		if len(w.links[0].Way) == 60 {
			full++
		}
		for range r.Intn(60) {
			at := r.Intn(2)
			w = w.hears(t, at, checksSays(t, w.links[1-at]))
		}
	}
	w.calm(t)
	if full < 3 {
		t.Errorf("it was full %d times", full)
	}
}

// TestLinkAcksOfWhatWasNotSaid: what is put behind such an Ack goes with the number that the other one wants.
func TestLinkAcksOfWhatWasNotSaid(t *testing.T) {
	for _, next := range []int{1, 2, 5, 0, -1, -2, impl.MaxNumber, math.MaxInt - 1, math.MaxInt, math.MinInt, math.MinInt + 1} {
		l, peer := linkOf(1, next, 4), linkOf(1, 4, next)
		for _, ack := range []int{next + 1, next + 2, next + 60, impl.MaxNumber, math.MaxInt, math.MinInt, next, next - 1} {
			now, text, came := checksHears(t, l, packetOf(1, 0, ack, "x"))
			if came || text != "" || !likeLinks(now, l) {
				t.Errorf("Next %d, Ack %d: %+v, %q, %v", next, ack, now, text, came)
			}
			// What comes with it counts all the same.
			now, text, came = checksHears(t, l, packetOf(1, 4, ack, "x"))
			if !came || text != "x" || !likeLinks(now, linkOf(1, next, 5)) {
				t.Errorf("Next %d, Ack %d: %+v, %q, %v", next, ack, now, text, came)
			}
			now, ok := checksPut(t, now, "y")
			if p := checksSays(t, now); !ok || p != packetOf(1, next, 5, "y") {
				t.Errorf("Next %d, Ack %d: %v, %+v", next, ack, ok, p)
			}
			if next == 0 {
				continue
			}
			if _, text, came = checksHears(t, peer, checksSays(t, now)); !came || text != "y" {
				t.Errorf("Next %d, Ack %d: %q, %v came", next, ack, text, came)
			}
		}
	}
	// The text behind the first was not said: one Ack of it is none, also when it comes often.
	l := linkOf(1, 1, 1, "a", "b", "c")
	for _, ack := range []int{3, 3, 4, 5, 100, 0, 1} {
		if now, _, _ := checksHears(t, l, packetOf(1, 0, ack, "")); !likeLinks(now, l) {
			t.Errorf("Ack %d: %+v", ack, now)
		}
	}
	for i, want := range []impl.Link{linkOf(1, 2, 1, "b", "c"), linkOf(1, 3, 1, "c"), linkOf(1, 4, 1), linkOf(1, 4, 1), linkOf(1, 4, 1)} {
		l, _, _ = checksHears(t, l, packetOf(1, 0, i+2, ""))
		if !likeLinks(l, want) {
			t.Fatalf("%d: %+v; want %+v", i, l, want)
		}
	}
}

func TestLinkPut(t *testing.T) {
	for _, size := range []int{0, 1, 2, 58, 59, 60, 61, 62, 200} {
		for _, bytes := range []int{0, 1, 2, 399, 400, 401, 402, 20001} {
			text := strings.Repeat("\xff", bytes)
			l := linkOf(3, 5, 8, wayOf(size)...)
			now, ok := checksPut(t, l, text)
			if want := size < 60 && bytes > 0 && bytes <= 400; ok != want {
				t.Errorf("%d texts, %d bytes: %v", size, bytes, ok)
			}
			if !ok && !likeLinks(now, linkOf(3, 5, 8, wayOf(size)...)) {
				t.Errorf("%d texts, %d bytes: %+v", size, bytes, now)
			}
			if ok && !likeLinks(now, linkOf(3, 5, 8, append(wayOf(size), text)...)) {
				t.Errorf("%d texts, %d bytes: %+v", size, bytes, now)
			}
		}
	}
	l := impl.LinkNew(1)
	for i := range 60 {
		now, ok := checksPut(t, l, "text")
		if !ok || len(now.Way) != i+1 {
			t.Fatalf("%d: %v, %+v", i, ok, now)
		}
		l = now
	}
	for _, text := range []string{"text", "", strings.Repeat("x", 401)} {
		if now, ok := checksPut(t, l, text); ok || !likeLinks(now, l) {
			t.Errorf("a full one takes %q: %+v", text, now)
		}
	}
	// One that went makes room for one.
	l, _, _ = checksHears(t, l, packetOf(1, 0, 2, ""))
	l, ok := checksPut(t, l, "more")
	if _, again := checksPut(t, l, "more"); !ok || again || l.Way[59] != "more" || l.Next != 2 {
		t.Errorf("%v, %v, %+v", ok, again, l)
	}
	for i := range 256 {
		text := string([]byte{byte(i)})
		if now, ok := checksPut(t, impl.LinkNew(1), text); !ok || !slices.Equal(now.Way, []string{text}) {
			t.Errorf("%q: %+v, %v", text, now, ok)
		}
	}
}

func TestLinkSays(t *testing.T) {
	for _, c := range []struct {
		l    impl.Link
		want impl.Packet
	}{
		{linkOf(3, 5, 8), packetOf(3, 0, 8, "")},
		{linkOf(3, 5, 8, "a"), packetOf(3, 5, 8, "a")},
		{linkOf(3, 5, 8, "a", "b"), packetOf(3, 5, 8, "a")},
		{linkOf(3, 5, 8, "b", "a", "c"), packetOf(3, 5, 8, "b")},
		{linkOf(3, 5, 8, wayOf(60)...), packetOf(3, 5, 8, "text 0")},
		{linkOf(0, 0, 0), packetOf(0, 0, 0, "")},
		{linkOf(0, 0, 0, "a"), packetOf(0, 0, 0, "a")},
		{linkOf(-1, -2, -3, "a"), packetOf(-1, -2, -3, "a")},
		{linkOf(-1, -2, -3), packetOf(-1, 0, -3, "")},
		{linkOf(3, 5, 8, ""), packetOf(3, 5, 8, "")},
		{linkOf(3, 5, 8, "", "a"), packetOf(3, 5, 8, "")},
		{linkOf(3, 5, 8, strings.Repeat("x", 900)), packetOf(3, 5, 8, strings.Repeat("x", 900))},
		{linkOf(math.MaxInt, math.MinInt, math.MaxInt, "a"), packetOf(math.MaxInt, math.MinInt, math.MaxInt, "a")},
	} {
		if got := checksSays(t, c.l); got != c.want {
			t.Errorf("LinkSays(%+v) = %+v; want %+v", c.l, got, c.want)
		}
	}
	// The Way may have nothing behind what was there.
	l := linkOf(3, 5, 8, wayOf(3)...)
	for _, way := range [][]string{nil, {}, l.Way[:0], l.Way[3:]} {
		l.Way = way
		if got := checksSays(t, l); got != packetOf(3, 0, 8, "") {
			t.Errorf("%+v", got)
		}
	}
}

func TestLinkHears(t *testing.T) {
	l := linkOf(3, 5, 8, "a", "b")
	for _, c := range []struct {
		p    impl.Packet
		now  impl.Link
		text string
		came bool
	}{
		{packetOf(3, 0, 5, ""), l, "", false},
		{packetOf(3, 0, 4, ""), l, "", false},
		{packetOf(3, 0, 6, ""), linkOf(3, 6, 8, "b"), "", false},
		{packetOf(3, 0, 7, ""), l, "", false},
		{packetOf(3, 0, 0, ""), l, "", false},
		{packetOf(3, 0, -6, ""), l, "", false},
		{packetOf(3, 7, 5, "x"), l, "", false},
		{packetOf(3, 8, 5, "x"), linkOf(3, 5, 9, "a", "b"), "x", true},
		{packetOf(3, 8, 4, "x"), linkOf(3, 5, 9, "a", "b"), "x", true},
		{packetOf(3, 8, 7, "x"), linkOf(3, 5, 9, "a", "b"), "x", true},
		{packetOf(3, 8, 6, "x"), linkOf(3, 6, 9, "b"), "x", true},
		{packetOf(3, 8, 6, ""), linkOf(3, 6, 9, "b"), "", true},
		{packetOf(3, 9, 5, "x"), l, "", false},
		{packetOf(3, 9, 6, "x"), linkOf(3, 6, 8, "b"), "", false},
		{packetOf(3, 7, 6, "x"), linkOf(3, 6, 8, "b"), "", false},
		{packetOf(3, 0, 6, "x"), linkOf(3, 6, 8, "b"), "", false},
		{packetOf(3, 0, 5, "x"), l, "", false},
		{packetOf(3, -8, 5, "x"), l, "", false},
		{packetOf(2, 8, 6, "x"), l, "", false},
		{packetOf(4, 8, 6, "x"), l, "", false},
		{packetOf(0, 8, 6, "x"), l, "", false},
		{packetOf(-3, 8, 6, "x"), l, "", false},
		{packetOf(8, 3, 6, "x"), l, "", false},
		{packetOf(3, 8, 6, strings.Repeat("x", 400)), linkOf(3, 6, 9, "b"), strings.Repeat("x", 400), true},
		{packetOf(3, 8, 6, strings.Repeat("x", 20001)), linkOf(3, 6, 9, "b"), strings.Repeat("x", 20001), true},
		{packetOf(3, 8, 6, everyByte()), linkOf(3, 6, 9, "b"), everyByte(), true},
	} {
		now, text, came := checksHears(t, l, c.p)
		if !likeLinks(now, c.now) || text != c.text || came != c.came {
			t.Errorf("LinkHears(%+v, %+v) = %+v, %q, %v; want %+v", l, c.p, now, text, came, c)
		}
	}
	// A Seq of 0 is none, also when Want is 0; below 0 it is one as any.
	for _, c := range []struct{ want, seq, then int }{{0, 0, 0}, {1, 0, 1}, {-1, -1, 0}, {-1, 0, -1}, {0, 1, 0}, {-5, -5, -4}, {impl.MaxNumber, impl.MaxNumber, impl.MaxNumber + 1}, {math.MinInt, math.MinInt, math.MinInt + 1}, {math.MaxInt - 1, math.MaxInt - 1, math.MaxInt}} {
		now, text, came := checksHears(t, linkOf(3, 5, c.want, "a"), packetOf(3, c.seq, 5, "x"))
		if !likeLinks(now, linkOf(3, 5, c.then, "a")) || came != (c.want != c.then) || came != (text == "x") {
			t.Errorf("Want %d, Seq %d: %+v, %q, %v", c.want, c.seq, now, text, came)
		}
	}
}

// linkEdges are numbers around those that links have, and the ends of int.
func linkEdges() []int {
	return []int{0, 1, 2, 3, 59, 60, 61, -1, -2, impl.MaxNumber - 1, impl.MaxNumber, impl.MaxNumber + 1, math.MaxInt - 1, math.MaxInt, math.MinInt, math.MinInt + 1}
}

// edgeWays: some have too many texts, or such as can't be put.
func edgeWays() [][]string {
	return [][]string{nil, {}, {"a"}, {"a", "b"}, {"a", "a"}, {""}, {"", "a"}, {strings.Repeat("x", 401), ""}, wayOf(59), wayOf(60), wayOf(61), wayOf(100)}
}

func TestLinksThatAreNotRight(t *testing.T) {
	for _, next := range linkEdges() {
		for _, want := range linkEdges() {
			for i, way := range edgeWays() {
				l := linkOf(next, next, want, way...)
				checksSays(t, l)
				for _, text := range []string{"", "x", strings.Repeat("x", 401)} {
					checksPut(t, l, text)
				}
				for _, ack := range []int{next, next - 1, next + 1, next + 2, -next, 0, linkEdges()[(i+len(way))%16]} {
					for _, seq := range []int{want, want - 1, want + 1, -want, 0} {
						checksHears(t, l, packetOf(next, seq, ack, "x"))
					}
				}
				checksHears(t, l, packetOf(want, want, next+1, "x"))
			}
		}
	}
	zero := impl.Link{}
	if now, text, came := impl.LinkHears(zero, impl.Packet{}); came || text != "" || !likeLinks(now, zero) {
		t.Errorf("%+v, %q, %v", now, text, came)
	}
	if now, ok := impl.LinkPut(zero, ""); ok || !likeLinks(now, zero) {
		t.Errorf("%+v, %v", now, ok)
	}
	if p := impl.LinkSays(zero); p != (impl.Packet{}) {
		t.Errorf("%+v", p)
	}
}

func TestDrawnLinks(t *testing.T) {
	r := rand.New(rand.NewSource(1703))
	came, gone := 0, 0
	for range 20000 {
		small := func() int { return r.Intn(4) - 1 }
		l := linkOf(small(), small(), small(), wayOf([]int{0, 1, 2, 59, 60, 61}[r.Intn(6)])...)
		p := packetOf(small(), small(), small(), drawnText(r, r.Intn(5)))
		now, _, did := checksHears(t, l, p)
		if did {
			came++
		}
		if len(now.Way) < len(l.Way) {
			gone++
		}
		checksSays(t, now)
		checksPut(t, now, p.Text)
	}
	if came < 500 || gone < 500 {
		t.Errorf("%d came, %d went", came, gone)
	}
}

func TestPacketTextWritten(t *testing.T) {
	for _, c := range []struct {
		p    impl.Packet
		want string
	}{
		{packetOf(0, 0, 0, ""), "\x00\x00\x00\x00E'\x05Q"},
		{packetOf(1, 0, 1, ""), "\x01\x00\x01\x00\x11\xbc\xd6\xd2"},
		{packetOf(1, 1, 1, "hi"), "\x01\x01\x01\x02hi\xe0\x5c\xc7\x98"},
		{packetOf(7, 2, 3, "zwei"), "\x07\x02\x03\x04zwei{\x80<\xf3"},
		{packetOf(300, 128, 127, "\x00"), "\xac\x02\x80\x01\x7f\x01\x00\x9d\x1c\x03\x10"},
		{packetOf(1, 20000, 1, "\xff\x80"), "\x01\xa0\x9c\x01\x01\x02\xff\x80\xd2-\xe5&"},
		{packetOf(impl.MaxNumber, impl.MaxNumber-1, impl.MaxNumber, "end"), "\x80\x94\xeb\xdc\x03\xff\x93\xeb\xdc\x03\x80\x94\xeb\xdc\x03\x03end\xbfWc\x8c"},
	} {
		if got, ok := checksPacketText(t, c.p); !ok || got != c.want {
			t.Errorf("PacketText(%+v) = %q, %v; want %q", c.p, got, ok, c.want)
		}
		if got, ok := checksReadPacket(t, c.want); !ok || got != c.p {
			t.Errorf("ReadPacket(%q) = %+v, %v; want %+v", c.want, got, ok, c.p)
		}
	}
}

// partEdges are of each of the numbers what is right, and what is not.
func partEdges() []int {
	return append([]int{0, 1, 127, 128, 16383, 16384, 2097152, 268435456, impl.MaxNumber - 1, impl.MaxNumber}, wrongNumbers()...)
}

func TestPacketTextEdges(t *testing.T) {
	for _, n := range partEdges() {
		right := n >= 0 && n <= 1000000000
		for _, size := range []int{0, 1, 2, 127, 128, 399, 400, 401, 402, 20000, 20001} {
			text := strings.Repeat("x", size)
			for _, p := range []impl.Packet{packetOf(n, 2, 3, text), packetOf(1, n, 3, text), packetOf(1, 2, n, text), packetOf(n, n, n, text)} {
				got, ok := checksPacketText(t, p)
				if ok != (right && size <= 400) || !ok && got != "" {
					t.Fatalf("PacketText(%+v) = %q, %v", p, got, ok)
				}
				if !ok {
					refusesPacket(t, packetByWords(p))
				} else if back, read := checksReadPacket(t, got); !read || back != p {
					t.Fatalf("%+v came back as %+v, %v", p, back, read)
				}
			}
		}
	}
}

// somePackets are few, and of each kind.
func somePackets() []impl.Packet {
	return []impl.Packet{
		{}, packetOf(1, 0, 1, ""), packetOf(1, 1, 1, "hi"), packetOf(300, 20000, 128, "\x00\xff"), packetOf(0, 0, 0, "\x00"),
		packetOf(impl.MaxNumber, impl.MaxNumber, impl.MaxNumber, "end"), packetOf(2, 7, 300, everyByte()), packetOf(1, 1, 1, strings.Repeat("x", 400)),
	}
}

func TestPacketsComeBack(t *testing.T) {
	r := rand.New(rand.NewSource(1704))
	list := somePackets()
	drawn := func() int { return []int{r.Intn(5), r.Intn(300), r.Intn(impl.MaxNumber + 1)}[r.Intn(3)] }
	for range 3000 {
		list = append(list, packetOf(drawn(), drawn(), drawn(), drawnText(r, []int{r.Intn(4), r.Intn(401)}[r.Intn(2)])))
	}
	texts := map[string]impl.Packet{}
	for _, p := range list {
		text, ok := checksPacketText(t, p)
		if other, there := texts[text]; there && other != p {
			t.Fatalf("%+v and %+v have one text", p, other)
		}
		texts[text] = p
		if back, read := checksReadPacket(t, text); !ok || !read || back != p {
			t.Fatalf("%+v came back as %+v, %v", p, back, read)
		}
	}
}

func TestReadPacketOneByteTurned(t *testing.T) {
	for _, p := range somePackets() {
		text := packetByWords(p)
		for at := range len(text) {
			for turn := 1; turn < 256; turn++ {
				turned := []byte(text)
				turned[at] ^= byte(turn)
				if len(text) < 40 || turn%37 == 1 {
					refusesPacket(t, string(turned))
				}
			}
		}
	}
}

func TestReadPacketOtherLengths(t *testing.T) {
	for _, p := range somePackets() {
		text := packetByWords(p)
		body := text[:len(text)-4]
		for at := range len(text) {
			refusesPacket(t, text[:at])
			refusesPacket(t, text[at+1:])
			refusesPacket(t, text[:at]+text[at+1:])
			for _, more := range []string{"\x00", "\x01", "\xff", text[at : at+1]} {
				refusesPacket(t, text[:at]+more+text[at:])
			}
		}
		refusesPacket(t, text+"\x00")
		refusesPacket(t, text+text)
		refusesPacket(t, body)
		refusesPacket(t, sealByWords(text))
		// The same with a right seal: it is cut, or has more behind it.
		for at := range len(body) {
			refusesPacket(t, sealByWords(body[:at]))
		}
		for _, more := range []string{"\x00", "\x01", "x", "\x80", body} {
			refusesPacket(t, sealByWords(body+more))
		}
	}
	for _, text := range []string{"", "\x00", "\xff\xff\xff\xff", sealByWords(""), sealByWords("\x00"), sealByWords("\x00\x00\x00"), "\x00\x00\x00\x00", "\x00\x00\x00\x00\x00\x00\x00\x00", strings.Repeat("\x00", 500), everyByte(), strings.Repeat("x", 30000), sealByWords(strings.Repeat("\x00", 20001))} {
		refusesPacket(t, text)
	}
}

// TestReadPacketLongerForms: each number, and the text's length, with needless bytes under a right seal, or past its limit.
func TestReadPacketLongerForms(t *testing.T) {
	for _, p := range somePackets() {
		list := packetPieces(p)
		for i := range list {
			head, tail := written(list[:i]), list[i].tail+written(list[i+1:])
			number := varOf(uint64(list[i].n))
			if text := sealByWords(head + number + tail); text != packetByWords(p) {
				t.Fatalf("%q is not %+v", text, p)
			}
			for longer := range 6 {
				last := len(number) - 1
				form := number[:last] + string([]byte{number[last] | 128}) + strings.Repeat("\x80", longer) + "\x00"
				refusesPacket(t, sealByWords(head+form+tail))
			}
			for _, n := range []uint64{impl.MaxNumber + 1, impl.MaxNumber + 2, 1 << 30, 1 << 31, 1 << 32, 1 << 35, 1 << 62, 1 << 63, math.MaxUint64} {
				refusesPacket(t, sealByWords(head+varOf(n)+tail))
			}
			refusesPacket(t, sealByWords(head+"\x80\x80\x80\x80\x80\x80\x80\x80\x80\x80\x80\x01"+tail))
		}
		// The length of the text is told as another one.
		head, size := written(list[:3]), len(p.Text)
		for _, n := range []int{size - 1, size + 1, size + 2, size + 128, 400, 401, 20000, 20001, impl.MaxNumber} {
			if n >= 0 && n != size {
				refusesPacket(t, sealByWords(head+varOf(uint64(n))+p.Text))
			}
		}
	}
	for _, size := range []int{401, 402, 500, 19990, 20000, 20001} {
		refusesPacket(t, packetByWords(packetOf(1, 1, 1, strings.Repeat("x", size))))
	}
}

// TestReadPacketShortTexts: all sealed texts of up to five bytes that count.
func TestReadPacketShortTexts(t *testing.T) {
	signs, read := "\x00\x01\x02\x7f\x80\x81\xff", 0
	texts := []string{""}
	for range 5 {
		var longer []string
		for _, text := range texts {
			for _, sign := range []byte(signs) {
				longer = append(longer, text+string([]byte{sign}))
			}
		}
		for _, text := range longer {
			if _, ok := checksReadPacket(t, sealByWords(text)); ok {
				read++
			}
		}
		texts = longer
	}
	if read < 300 {
		t.Errorf("%d are packets", read)
	}
}

func TestReadPacketDrawnTexts(t *testing.T) {
	r := rand.New(rand.NewSource(1705))
	read := 0
	for range 20000 {
		list := packetPieces(packetOf(r.Intn(300), r.Intn(3), r.Intn(200), drawnText(r, r.Intn(6))))
		list[r.Intn(4)].n += r.Intn(3) - 1
		for i := range list {
			list[i].n = max(0, list[i].n)
		}
		text := sealByWords(written(list))
		if r.Intn(4) == 0 {
			turned := []byte(text)
			turned[r.Intn(len(turned))] ^= byte(r.Intn(2))
			text = string(turned)
		}
		if _, ok := checksReadPacket(t, text); ok {
			read++
		}
		checksReadPacket(t, drawnText(r, r.Intn(40)))
		checksReadPacket(t, sealByWords(drawnText(r, r.Intn(10))))
	}
	if read < 2000 || read > 18000 {
		t.Errorf("%d are packets", read)
	}
}

// roomyLink has room behind its Way, in which something stands.
func roomyLink(l impl.Link) impl.Link {
	way := make([]string, 0, len(l.Way)+4)
	for _, text := range append(slices.Clone(l.Way), "behind", "its", "end") {
		way = append(way, strings.Clone(text))
	}
	l.Way = way[:len(l.Way)]
	return l
}

// wholeLink has what stands behind the end as well.
func wholeLink(l impl.Link) impl.Link {
	l.Way = slices.Clone(l.Way[:cap(l.Way)])
	return l
}

func spoilLink(l impl.Link) {
	for i := range l.Way[:cap(l.Way)] {
		l.Way[:cap(l.Way)][i] = "spoilt"
	}
}

func memoryLinks() []impl.Link {
	var list []impl.Link
	for _, way := range edgeWays() {
		list = append(list, linkOf(1, 1, 1, way...), linkOf(1, 5, 0, way...), linkOf(2, 1, 1, way...), linkOf(0, math.MaxInt, -3, way...))
	}
	return list
}

func memoryPackets() []impl.Packet {
	return []impl.Packet{packetOf(1, 1, 2, "text"), packetOf(1, 1, 1, "text"), packetOf(1, 2, 2, "text"), packetOf(1, 0, 6, "text"), packetOf(3, 1, 2, "text"), {}}
}

// linksAnswered are all that is answered of one, and the texts beside them.
func linksAnswered(l impl.Link, put string, packets []impl.Packet) ([]impl.Link, []string) {
	var list []impl.Link
	texts := []string{impl.LinkSays(l).Text}
	for _, text := range []string{put, "", strings.Repeat("x", 401)} {
		now, _ := impl.LinkPut(l, text)
		list = append(list, now)
	}
	for _, p := range packets {
		now, text, _ := impl.LinkHears(l, p)
		list, texts = append(list, now), append(texts, text)
	}
	return append(list, impl.LinkNew(l.Epoch)), texts
}

func TestLinksLeaveTheirArguments(t *testing.T) {
	for _, given := range memoryLinks() {
		l := roomyLink(given)
		whole := wholeLink(l)
		linksAnswered(l, "text", memoryPackets())
		if !likeLinks(wholeLink(l), whole) {
			t.Fatalf("%+v was written into, or behind its end", given)
		}
	}
}

// TestLinksNewMemory: what is answered stays as it is when an argument is changed behind the call, and the other way round.
func TestLinksNewMemory(t *testing.T) {
	for _, given := range memoryLinks() {
		l := roomyLink(given)
		answers, _ := linksAnswered(l, "text", memoryPackets())
		var kept []impl.Link
		for _, answer := range answers {
			kept = append(kept, copyLink(answer))
		}
		spoilLink(l)
		l = roomyLink(given)
		whole := wholeLink(l)
		again, _ := linksAnswered(l, "text", memoryPackets())
		for i, answer := range answers {
			if !likeLinks(answer, kept[i]) {
				t.Fatalf("answer %d of %+v became %+v when the argument was changed", i, given, answer)
			}
			spoilLink(answer)
		}
		for i, answer := range again {
			if !likeLinks(answer, kept[i]) {
				t.Fatalf("answer %d of %+v changed with another one", i, given)
			}
			spoilLink(answer)
		}
		if !likeLinks(wholeLink(l), whole) {
			t.Fatalf("%+v changed with its answers", given)
		}
	}
}

func TestLinksShareNoTexts(t *testing.T) {
	for _, given := range memoryLinks() {
		l, put := roomyLink(given), strings.Repeat("put", 2)
		theirs := append(slices.Clone(l.Way), put)
		packets := memoryPackets()
		for i := range packets {
			packets[i].Text = strings.Clone(packets[i].Text)
			theirs = append(theirs, packets[i].Text)
		}
		answers, own := linksAnswered(l, put, packets)
		for _, answer := range answers {
			own = append(own, answer.Way...)
		}
		for i, one := range own {
			if slices.ContainsFunc(theirs, func(other string) bool { return sharesMemory(one, other) }) {
				t.Fatalf("an answer of %+v shares the text %q", given, one)
			}
			if slices.ContainsFunc(own[i+1:], func(other string) bool { return sharesMemory(one, other) }) {
				t.Fatalf("answers of %+v have the text %q twice", given, one)
			}
		}
	}
}

func TestPacketsNewMemory(t *testing.T) {
	for _, p := range somePackets() {
		p.Text = strings.Clone(p.Text)
		text, _ := impl.PacketText(p)
		back, _ := impl.ReadPacket(text)
		again, _ := impl.PacketText(p)
		for i, one := range []string{p.Text, text, back.Text, again} {
			for j, other := range []string{p.Text, text, back.Text, again} {
				if i != j && sharesMemory(one, other) {
					t.Errorf("%+v: %d and %d share memory", p, i, j)
				}
			}
		}
	}
}

// TestLinksAgain: what one did leaves nothing for another, also when many are under way.
func TestLinksAgain(t *testing.T) {
	var group sync.WaitGroup
	for worker := range 8 {
		group.Go(func() {
			r := rand.New(rand.NewSource(int64(1710 + worker)))
			l := linkOf(1, 1, 1, wayOf(worker*8)...)
			for range 300 {
				p := packetOf(r.Intn(2), l.Want-r.Intn(2), l.Next+r.Intn(3), fmt.Sprint("of ", worker))
				got, text, came := impl.LinkHears(l, p)
				if want, wantText, wantCame := hearsByWords(l, p); came != wantCame || text != wantText || !likeLinks(got, want) {
					t.Errorf("LinkHears(%+v, %+v) = %+v, %q, %v", l, p, got, text, came)
				}
				put, ok := impl.LinkPut(got, p.Text)
				if want, wantOk := putByWords(got, p.Text); ok != wantOk || !likeLinks(put, want) {
					t.Errorf("LinkPut(%+v, %q) = %+v, %v", got, p.Text, put, ok)
				}
				if says := impl.LinkSays(put); says != packetSaidByWords(put) {
					t.Errorf("LinkSays(%+v) = %+v", put, says)
				}
				if made, ok := impl.PacketText(p); !ok || made != packetByWords(p) {
					t.Errorf("PacketText(%+v) = %q, %v", p, made, ok)
				}
				l = put
			}
		})
	}
	group.Wait()
}
