package tests

import (
	"math"
	"math/rand"
	"regexp"
	"slices"
	"strconv"
	"strings"
	"sync"
	"testing"

	"loop.example/g00324/impl"
)

// It has just these fields, in this order: else this would not build.
var _ = struct {
	From int
	To   int
}(impl.Range{})

// setForm has the numbers of no figure but 0, too: these are asked for apart.
var setForm = regexp.MustCompile(`^(?:\*|[0-9]{1,4})(?::(?:\*|[0-9]{1,4}))?(?:,(?:\*|[0-9]{1,4})(?::(?:\*|[0-9]{1,4}))?){0,7}$`)

func rangeOf(from, to int) impl.Range {
	return impl.Range{From: from, To: to}
}

func numberOf(n int) impl.Range {
	return rangeOf(n, n)
}

func endByWords(text string) (int, bool) {
	if text == "*" {
		return 0, true
	}
	n, err := strconv.Atoi(text)
	return n, err == nil && n > 0
}

// setByWords is a second reader, which asks for the whole form first.
func setByWords(s string) ([]impl.Range, bool) {
	// $ stands ahead of a last 10, too.
	if !setForm.MatchString(s) || strings.HasSuffix(s, "\n") {
		return nil, false
	}
	var list []impl.Range
	for _, piece := range strings.Split(s, ",") {
		ends := strings.Split(piece, ":")
		from, ok := endByWords(ends[0])
		to, too := endByWords(ends[len(ends)-1])
		if !ok || !too {
			return nil, false
		}
		list = append(list, rangeOf(from, to))
	}
	return list, true
}

// inByWords: n is in a range where it is the middle one of three.
func inByWords(list []impl.Range, n, last int) bool {
	for _, r := range list {
		three := []int{n, r.From, r.To}
		if r.From == 0 {
			three[1] = last
		}
		if r.To == 0 {
			three[2] = last
		}
		slices.Sort(three)
		if n > 0 && three[1] == n {
			return true
		}
	}
	return false
}

func pickedByWords(list []impl.Range, n int) []int {
	var picked []int
	for i := range 100 {
		if i+1 <= n && inByWords(list, i+1, n) {
			picked = append(picked, i+1)
		}
	}
	return picked
}

func endSaidByWords(n int) string {
	if n == 0 {
		return "*"
	}
	return strconv.Itoa(n)
}

func saidOfSet(list []impl.Range) string {
	text := ""
	for i, r := range list {
		if i > 0 {
			text += ","
		}
		text += endSaidByWords(r.From)
		if r.From != r.To {
			text += ":" + endSaidByWords(r.To)
		}
	}
	return text
}

func readsSet(t *testing.T, s string, want ...impl.Range) {
	t.Helper()
	list, ok := impl.ReadSet(s)
	if !ok || !slices.Equal(list, want) {
		t.Fatalf("ReadSet(%q) = %v, %v, not %v", s, list, ok, want)
	}
}

func refusesSet(t *testing.T, s string) {
	t.Helper()
	if list, ok := impl.ReadSet(s); ok || len(list) > 0 {
		t.Fatalf("ReadSet(%q) = %v, %v", s, list, ok)
	}
}

func setAsByWords(t *testing.T, s string) {
	t.Helper()
	want, right := setByWords(s)
	if list, ok := impl.ReadSet(s); ok != right || !slices.Equal(list, want) {
		t.Fatalf("ReadSet(%q) = %v, %v, not %v, %v", s, list, ok, want, right)
	}
}

// comesBack: what is written of a list is the shortest text that reads as it.
func comesBack(t *testing.T, list []impl.Range) {
	t.Helper()
	text := impl.SetText(list)
	if text != saidOfSet(list) {
		t.Fatalf("SetText(%v) = %q, not %q", list, text, saidOfSet(list))
	}
	readsSet(t, text, list...)
}

// checksPicked holds what is picked against InSet, and both against the words.
func checksPicked(t *testing.T, list []impl.Range, n int) {
	t.Helper()
	picked := impl.Picked(list, n)
	if !slices.Equal(picked, pickedByWords(list, n)) {
		t.Fatalf("Picked(%v, %d) = %v, not %v", list, n, picked, pickedByWords(list, n))
	}
	for i, gid := range picked {
		if i > 0 && gid <= picked[i-1] {
			t.Fatalf("Picked(%v, %d) = %v does not ascend", list, n, picked)
		}
	}
	for i := 1; i <= min(n, 100); i++ {
		if slices.Contains(picked, i) != impl.InSet(list, i, n) {
			t.Fatalf("of %v and %d: %d is picked, or InSet", list, n, i)
		}
	}
}

func someEnds() []int {
	return []int{0, 1, 2, 7, 9, 10, 99, 100, 101, 999, 1000, 9998, 9999}
}

// numbersAround have the edges of what is asked of sets.
func numbersAround() []int {
	return []int{math.MinInt, math.MinInt + 1, -10000, -101, -100, -9, -2, -1, 0, 1, 2, 3, 6, 7, 8, 9, 10, 11, 50, 98, 99, 100, 101, 102, 200, 999, 1000, 1001, 9998, 9999, 10000, math.MaxInt - 1, math.MaxInt}
}

func drawnSet(r *rand.Rand, most int) []impl.Range {
	var list []impl.Range
	for range 1 + r.Intn(8) {
		x := rangeOf(r.Intn(most+1), r.Intn(most+1))
		switch r.Intn(5) {
		case 0:
			x.To = x.From
		case 1:
			x.From = 0
		case 2:
			x.To = 0
		}
		list = append(list, x)
	}
	return list
}

func TestReadSetTold(t *testing.T) {
	readsSet(t, "1", numberOf(1))
	readsSet(t, "12", numberOf(12))
	readsSet(t, "123", numberOf(123))
	readsSet(t, "9999", numberOf(9999))
	readsSet(t, "*", numberOf(0))
	readsSet(t, "1:3", rangeOf(1, 3))
	readsSet(t, "3:1", rangeOf(3, 1))
	readsSet(t, "3:3", numberOf(3))
	readsSet(t, "3:4", rangeOf(3, 4))
	readsSet(t, "4:3", rangeOf(4, 3))
	readsSet(t, "1:9999", rangeOf(1, 9999))
	readsSet(t, "9999:9999", numberOf(9999))
	readsSet(t, "*:*", numberOf(0))
	readsSet(t, "*:1", rangeOf(0, 1))
	readsSet(t, "1:*", rangeOf(1, 0))
	readsSet(t, "9999:*", rangeOf(9999, 0))
	readsSet(t, "1:3,5,*", rangeOf(1, 3), numberOf(5), numberOf(0))
	readsSet(t, "5,1:3,5,5", numberOf(5), rangeOf(1, 3), numberOf(5), numberOf(5))
	readsSet(t, "*,*:2,2:*,*:*", numberOf(0), rangeOf(0, 2), rangeOf(2, 0), numberOf(0))
	readsSet(t, "1,2,3,4,5,6,7,8", numberOf(1), numberOf(2), numberOf(3), numberOf(4), numberOf(5), numberOf(6), numberOf(7), numberOf(8))
}

// TestReadSetFigures: how many figures a number has counts, and that it is above 0; which figure is first does not.
func TestReadSetFigures(t *testing.T) {
	for _, c := range []struct {
		figures string
		n       int
	}{{"1", 1}, {"9", 9}, {"01", 1}, {"07", 7}, {"10", 10}, {"007", 7}, {"0001", 1}, {"0010", 10}, {"0100", 100}, {"0999", 999}, {"1000", 1000}, {"9999", 9999}} {
		readsSet(t, c.figures, numberOf(c.n))
		readsSet(t, c.figures+":2", rangeOf(c.n, 2))
		readsSet(t, "2:"+c.figures, rangeOf(2, c.n))
		readsSet(t, c.figures+":*", rangeOf(c.n, 0))
		readsSet(t, "*:"+c.figures, rangeOf(0, c.n))
		readsSet(t, "*,"+c.figures, numberOf(0), numberOf(c.n))
		readsSet(t, c.figures+",*", numberOf(c.n), numberOf(0))
	}
	for _, figures := range []string{"", "0", "00", "000", "0000", "00000", "00001", "01000", "10000", "12345", "99999", "100000", "000001", "9999999999", "18446744073709551617", "9223372036854775808", strings.Repeat("0", 300) + "1", strings.Repeat("9", 5000)} {
		for _, s := range []string{figures, figures + ":2", "2:" + figures, figures + ":*", "*:" + figures, "*," + figures, figures + ",*", "1," + figures + ",2", figures + ":" + figures} {
			refusesSet(t, s)
		}
	}
	for n := 1; n <= 9999; n++ {
		readsSet(t, strconv.Itoa(n), numberOf(n))
	}
}

func TestReadSetHowMany(t *testing.T) {
	refusesSet(t, "")
	for _, piece := range []string{"1", "*", "1:2", "*:*", "9999:*", "0001:0002"} {
		r, _ := setByWords(piece)
		for n := 1; n <= 8; n++ {
			readsSet(t, strings.Repeat(","+piece, n)[1:], slices.Repeat(r, n)...)
		}
		for _, n := range []int{9, 10, 16, 300, 5000} {
			refusesSet(t, strings.Repeat(","+piece, n)[1:])
		}
		refusesSet(t, strings.Repeat(","+piece, 8)[1:]+",")
		refusesSet(t, strings.Repeat(","+piece, 8)[1:]+",0")
		refusesSet(t, strings.Repeat(","+piece, 8))
	}
}

// wrongSets are none, wherever they stand among others.
func wrongSets() []string {
	sets := []string{
		"1,,2", ":", "::", "1:", ":1", "*:", ":*", ":1:", "1:2:", ":1:2", "1::2", "1:2:3", "*:*:*", "1:::2", "1:,2", "1,:2", ",:", ":,",
		" ", " 1", "1 ", "1 2", "1 :2", "1: 2", "1, 2", "1 ,2", "* ", " *", "\t1", "1\n", "1\r\n", "1\r", "\n", "1\x00", "\x00",
		"+1", "-1", "1:-2", "-1:2", "+1:2", "1:+2", "--1", "-0", "+0", "-*", "+*", "*-1", "1-2", "1..2", "1.0", "1e3", "0x1", "1_0", "1a", "a", "A", "1/2", "1;2",
		"**", "*1", "1*", "*2:3", "2*:3", "2:3*", "2:*3", "***", "\"1\"", "(1)", "{1}", "1\\", "'1'", "1?", "%",
		"\x80", "1\x80", "\xff", "\u0661", "\uff11", "1\u00a0", "\u00b9", "1\u200b", "\u2217", "1\uff1a2", "1\uff0c2", "1\xc3", "/", "9/", "9:;", "09 ", "1//2",
	}
	return sets
}

func TestReadSetWrong(t *testing.T) {
	for _, s := range slices.Concat(wrongSets(), []string{"", ",", ",,", ",,,", "0", "10000"}) {
		refusesSet(t, s)
		for _, around := range [][2]string{{"1,", ""}, {"", ",1"}, {"1:2,", ",*"}, {"*,*,*,*,*,*,*,", ""}, {",", ""}, {"", ","}, {",,", ""}, {"", ",,"}, {"*,", ",*:2"}} {
			refusesSet(t, around[0]+s+around[1])
		}
	}
	for _, s := range []string{"1", "*", "1:2", "*:*", "1,2"} {
		for _, c := range []string{s + ",", "," + s, s + ",," + s, s + ":", ":" + s, s + "::" + s, s + " ", " " + s, s + "," + "+" + s, "-" + s, s + "\n", s + "\x00"} {
			refusesSet(t, c)
		}
	}
}

// TestReadSetEveryByte: alone, and in each place of some that are right.
func TestReadSetEveryByte(t *testing.T) {
	for c := range 256 {
		sign := string([]byte{byte(c)})
		setAsByWords(t, sign)
		for _, s := range []string{"1", "12", "123", "1234", "*", "1:2", "*:9", "1:*", "1,2", "*,1:3,77"} {
			for at := range len(s) {
				setAsByWords(t, s[:at]+sign+s[at:])
				setAsByWords(t, s[:at]+sign+s[at+1:])
			}
			setAsByWords(t, s+sign)
		}
	}
}

// TestReadSetEveryShort: all texts of up to six of the signs that count.
func TestReadSetEveryShort(t *testing.T) {
	texts := []string{""}
	for range 7 {
		var longer []string
		for _, text := range texts {
			setAsByWords(t, text)
			for _, sign := range []string{"0", "7", "*", ":", ",", "-"} {
				longer = append(longer, text+sign)
			}
		}
		texts = longer
	}
}

func TestReadSetDrawn(t *testing.T) {
	r := rand.New(rand.NewSource(1401))
	signs := []string{"0", "1", "42", "999", "1000", "*", "*", ":", ":", ",", ",", ",", " ", "+", "\xff"}
	right := 0
	for range 20000 {
		text := ""
		if r.Intn(2) == 0 {
			for range r.Intn(20) {
				text += signs[r.Intn(len(signs)-r.Intn(4))]
			}
		} else {
			text = saidOfSet(drawnSet(r, 9999)) + strings.Repeat(",1:*", r.Intn(5))
			if at := r.Intn(len(text)); r.Intn(3) == 0 {
				text = text[:at] + signs[r.Intn(len(signs))] + text[at+1:]
			}
		}
		setAsByWords(t, text)
		if _, ok := setByWords(text); ok {
			right++
		}
	}
	if right < 2000 || right > 18000 {
		t.Errorf("%d of 20000 were right", right)
	}
}

func TestSetTextTold(t *testing.T) {
	for _, c := range []struct {
		want string
		list []impl.Range
	}{
		{"1", []impl.Range{numberOf(1)}}, {"9999", []impl.Range{numberOf(9999)}}, {"*", []impl.Range{numberOf(0)}}, {"1:3", []impl.Range{rangeOf(1, 3)}}, {"3:1", []impl.Range{rangeOf(3, 1)}}, {"*:1", []impl.Range{rangeOf(0, 1)}}, {"1:*", []impl.Range{rangeOf(1, 0)}}, {"3:4", []impl.Range{rangeOf(3, 4)}},
		{"1:3,5,*", []impl.Range{rangeOf(1, 3), numberOf(5), numberOf(0)}}, {"5,5,5", []impl.Range{numberOf(5), numberOf(5), numberOf(5)}}, {"3,1,2", []impl.Range{numberOf(3), numberOf(1), numberOf(2)}}, {"*:2,*", []impl.Range{rangeOf(0, 2), numberOf(0)}},
		{"1,2,3,4,5,6,7,8", []impl.Range{numberOf(1), numberOf(2), numberOf(3), numberOf(4), numberOf(5), numberOf(6), numberOf(7), numberOf(8)}},
	} {
		if text := impl.SetText(c.list); text != c.want {
			t.Errorf("SetText(%v) = %q, not %q", c.list, text, c.want)
		}
	}
}

func TestSetsComeBack(t *testing.T) {
	for _, from := range someEnds() {
		for _, to := range someEnds() {
			r := rangeOf(from, to)
			comesBack(t, []impl.Range{r})
			comesBack(t, []impl.Range{r, r})
			comesBack(t, []impl.Range{numberOf(3), r, rangeOf(to, from), rangeOf(0, 2)})
			for n := 1; n <= 8; n++ {
				comesBack(t, slices.Repeat([]impl.Range{r}, n))
			}
		}
	}
	for n := range 10000 {
		comesBack(t, []impl.Range{numberOf(n), rangeOf(n, 9999-n)})
	}
	r := rand.New(rand.NewSource(1402))
	for range 3000 {
		comesBack(t, drawnSet(r, 9999))
		comesBack(t, drawnSet(r, 12))
	}
}

// TestSetTextShortest: longer forms come back as the same list, and are written in the shortest one.
func TestSetTextShortest(t *testing.T) {
	for _, c := range [][2]string{{"5:5", "5"}, {"*:*", "*"}, {"007", "7"}, {"0001:0001", "1"}, {"0001:0002,*:*", "1:2,*"}, {"5:5,5", "5,5"}, {"1:3,5,*", "1:3,5,*"}} {
		list, ok := impl.ReadSet(c[0])
		if text := impl.SetText(list); !ok || text != c[1] {
			t.Errorf("SetText of %q = %q, %v", c[0], text, ok)
		}
	}
}

// TestSetTextOfNone: no text reads as these lists.
func TestSetTextOfNone(t *testing.T) {
	lists := [][]impl.Range{nil, {}, slices.Repeat([]impl.Range{numberOf(1)}, 9), slices.Repeat([]impl.Range{numberOf(0)}, 9), slices.Repeat([]impl.Range{rangeOf(1, 2)}, 400)}
	for _, n := range []int{-1, 10000, -9999, math.MinInt, math.MaxInt} {
		for _, r := range []impl.Range{numberOf(n), rangeOf(n, 1), rangeOf(1, n), rangeOf(n, 0), rangeOf(0, n)} {
			lists = append(lists, []impl.Range{r}, []impl.Range{numberOf(1), r}, []impl.Range{r, numberOf(1)})
		}
	}
	for _, list := range lists {
		text := impl.SetText(list)
		if text != "" {
			t.Errorf("SetText(%v) = %q", list, text)
		}
		refusesSet(t, text)
	}
}

// TestSetStarAtBothEnds is what each of the four is, written out.
func TestSetStarAtBothEnds(t *testing.T) {
	for _, c := range []struct {
		s    string
		last int
		want []int
	}{
		{"*", 0, nil}, {"*", 1, []int{1}}, {"*", 9, []int{9}}, {"*", 100, []int{100}}, {"*", 101, nil},
		{"*:*", 0, nil}, {"*:*", 1, []int{1}}, {"*:*", 9, []int{9}}, {"*:*", 100, []int{100}}, {"*:*", 101, nil},
		{"*:1", 0, nil}, {"*:1", 1, []int{1}}, {"*:1", 9, numbersFrom(1, 9)}, {"*:1", 100, numbersFrom(1, 100)}, {"*:1", 101, numbersFrom(1, 100)}, {"*:1", math.MaxInt, numbersFrom(1, 100)},
		{"1:*", 0, nil}, {"1:*", 1, []int{1}}, {"1:*", 9, numbersFrom(1, 9)}, {"1:*", 100, numbersFrom(1, 100)}, {"1:*", 101, numbersFrom(1, 100)}, {"1:*", math.MaxInt, numbersFrom(1, 100)},
		{"7:*", 9, []int{7, 8, 9}}, {"7:*", 7, []int{7}}, {"7:*", 6, []int{6}}, {"7:*", 5, []int{5}}, {"*:7", 5, []int{5}}, {"7:*", 1, numbersFrom(1, 1)}, {"99:*", math.MaxInt, []int{99, 100}}, {"9999:*", 3, []int{3}}, {"101:*", 101, nil}, {"101:*", 100, []int{100}},
	} {
		list, ok := impl.ReadSet(c.s)
		if picked := impl.Picked(list, c.last); !ok || !slices.Equal(picked, c.want) {
			t.Errorf("Picked of %q with %d = %v, not %v", c.s, c.last, picked, c.want)
		}
		for n := 1; n <= 100; n++ {
			if in := impl.InSet(list, n, c.last); n <= c.last && in != slices.Contains(c.want, n) {
				t.Errorf("InSet of %q, %d, %d = %v", c.s, n, c.last, in)
			}
		}
	}
}

// TestInSetTold: also of numbers past last, and with a last that is no number of anything.
func TestInSetTold(t *testing.T) {
	for _, c := range []struct {
		s       string
		n, last int
		want    bool
	}{
		{"5", 5, 9, true}, {"5", 4, 9, false}, {"5", 6, 9, false}, {"5", 5, 1, true}, {"5", 5, 0, true}, {"5", 5, -7, true},
		{"1:3", 1, 9, true}, {"1:3", 2, 9, true}, {"1:3", 3, 9, true}, {"1:3", 4, 9, false}, {"3:1", 1, 9, true}, {"3:1", 2, 9, true}, {"3:1", 3, 9, true}, {"3:1", 4, 9, false}, {"3:4", 2, 9, false}, {"4:3", 5, 9, false}, {"4:3", 3, 9, true}, {"4:3", 4, 9, true},
		{"*", 9, 9, true}, {"*", 8, 9, false}, {"*", 10, 9, false}, {"*", 1, 1, true}, {"*", 1, 0, false}, {"*", 1, -1, false}, {"*", math.MaxInt, math.MaxInt, true},
		{"*:*", 9, 9, true}, {"*:*", 8, 9, false}, {"*:*", 1, 0, false}, {"*:*", 20000, 20000, true},
		{"1:*", 1, 9, true}, {"1:*", 9, 9, true}, {"1:*", 10, 9, false}, {"1:*", 1, 0, true}, {"1:*", 2, 0, false}, {"1:*", 1, -5, true}, {"*:1", 1, 0, true}, {"*:1", 1, math.MinInt, true}, {"*:1", 2, math.MinInt, false}, {"5:*", 3, -5, true}, {"5:*", 6, -5, false},
		{"7:*", 5, 5, true}, {"7:*", 6, 5, true}, {"7:*", 7, 5, true}, {"7:*", 8, 5, false}, {"7:*", 4, 5, false},
		{"1:3,5,*", 4, 9, false}, {"1:3,5,*", 5, 9, true}, {"1:3,5,*", 9, 9, true}, {"1:3,5,*", 8, 9, false}, {"1:3,5,*", 2, 9, true},
	} {
		list, ok := impl.ReadSet(c.s)
		if in := impl.InSet(list, c.n, c.last); !ok || in != c.want {
			t.Errorf("InSet of %q, %d, %d = %v", c.s, c.n, c.last, in)
		}
		for _, n := range []int{0, -1, -2, -c.n, math.MinInt} {
			if impl.InSet(list, n, c.last) || impl.InSet(list, n, n) {
				t.Errorf("%d is in %q", n, c.s)
			}
		}
	}
}

// TestInSetAround: every range of some ends, right or not, and every number around them.
func TestInSetAround(t *testing.T) {
	ends := []int{math.MinInt, -3, -1, 0, 1, 2, 7, 9, 100, 9999, 10000, math.MaxInt}
	for _, from := range ends {
		for _, to := range ends {
			for _, list := range [][]impl.Range{{rangeOf(from, to)}, {numberOf(50), rangeOf(from, to)}, {rangeOf(from, to), rangeOf(10, 8)}} {
				for _, n := range numbersAround() {
					for _, last := range []int{math.MinInt, -2, -1, 0, 1, 2, 9, 100, 10000, math.MaxInt} {
						if in := impl.InSet(list, n, last); in != inByWords(list, n, last) {
							t.Fatalf("InSet(%v, %d, %d) = %v", list, n, last, in)
						}
					}
				}
			}
		}
	}
	for _, n := range numbersAround() {
		if impl.InSet(nil, n, n) || impl.InSet([]impl.Range{}, n, 9) || len(impl.Picked(nil, n)) > 0 {
			t.Fatalf("%d is in nothing", n)
		}
	}
}

func TestPickedTold(t *testing.T) {
	for _, c := range []struct {
		s    string
		n    int
		want []int
	}{
		{"1:3,5,*", 7, []int{1, 2, 3, 5, 7}}, {"1:3,5,*", 5, []int{1, 2, 3, 5}}, {"1:3,5,*", 4, []int{1, 2, 3, 4}}, {"1:3,5,*", 1, []int{1}}, {"1:3,5,*", 0, nil}, {"1:3,5,*", -1, nil}, {"1:3,5,*", math.MinInt, nil},
		{"5,3,1", 9, []int{1, 3, 5}}, {"3:5,4:6,5", 9, []int{3, 4, 5, 6}}, {"6:4,5:3", 5, []int{3, 4, 5}}, {"2,2,2", 2, []int{2}}, {"8", 7, nil}, {"9999", 100, nil}, {"9:8", 8, []int{8}},
		{"1:9999", 1, []int{1}}, {"1:9999", 99, numbersFrom(1, 99)}, {"1:9999", 100, numbersFrom(1, 100)}, {"1:9999", 101, numbersFrom(1, 100)}, {"1:9999", 9999, numbersFrom(1, 100)}, {"1:9999", math.MaxInt, numbersFrom(1, 100)},
		{"99:102", 98, nil}, {"99:102", 99, []int{99}}, {"99:102", 100, []int{99, 100}}, {"99:102", 101, []int{99, 100}}, {"101:200", 300, nil}, {"100", 100, []int{100}}, {"100", 101, []int{100}}, {"101", 101, nil},
	} {
		list, ok := impl.ReadSet(c.s)
		if picked := impl.Picked(list, c.n); !ok || !slices.Equal(picked, c.want) {
			t.Errorf("Picked of %q and %d = %v, not %v", c.s, c.n, picked, c.want)
		}
	}
}

func TestPickedAround(t *testing.T) {
	ends := append(someEnds(), -1, math.MinInt, math.MaxInt, 10000)
	for _, from := range ends {
		for _, to := range ends {
			for _, n := range []int{math.MinInt, -1, 0, 1, 2, 9, 50, 99, 100, 101, math.MaxInt} {
				checksPicked(t, []impl.Range{rangeOf(from, to)}, n)
			}
		}
	}
	r := rand.New(rand.NewSource(1403))
	for range 2000 {
		list := drawnSet(r, []int{9, 30, 110, 9999}[r.Intn(4)])
		checksPicked(t, list, r.Intn(104)-1)
		n, last := r.Intn(120)-5, r.Intn(120)-5
		if in := impl.InSet(list, n, last); in != inByWords(list, n, last) {
			t.Fatalf("InSet(%v, %d, %d) = %v", list, n, last, in)
		}
	}
	// However many ranges there are: only a text has eight at most.
	many := slices.Repeat([]impl.Range{numberOf(200)}, 3000)
	checksPicked(t, append(many, rangeOf(7, 0)), 9)
}

// TestSetsOfBytesThatChange: what is read stays as it is when the bytes that its text was made of change, and another answer when one does.
func TestSetsOfBytesThatChange(t *testing.T) {
	for _, s := range []string{"1", "*", "1:3,5,*", "1,2,3,4,5,6,7,8", "9999:*,*:1"} {
		want, _ := setByWords(s)
		bytes := []byte(s)
		given := string(bytes)
		list, ok := impl.ReadSet(given)
		other, _ := impl.ReadSet(given)
		clear(bytes)
		for i := range list[:cap(list)] {
			list[:cap(list)][i] = rangeOf(-9, -9)
		}
		if !ok || given != s || !slices.Equal(other, want) {
			t.Errorf("ReadSet(%q) = %v, %v", s, other, ok)
		}
		readsSet(t, s, want...)
	}
}

// roomySet has room behind its end, with something in it.
func roomySet(list []impl.Range) []impl.Range {
	room := slices.Concat(list, slices.Repeat([]impl.Range{rangeOf(77, 78)}, 9))
	return room[:len(list)]
}

func TestSetsLeaveTheirArguments(t *testing.T) {
	r := rand.New(rand.NewSource(1404))
	for range 200 {
		right := drawnSet(r, 120)
		list := roomySet(right)
		whole := slices.Clone(list[:cap(list)])
		text, picked := impl.SetText(list), impl.Picked(list, 90)
		other := impl.Picked(list, 90)
		for n := -1; n <= 101; n++ {
			impl.InSet(list, n, 101-n)
		}
		if !slices.Equal(list[:cap(list)], whole) {
			t.Fatalf("%v was written into, or behind its end", right)
		}
		for i := range list[:cap(list)] {
			list[:cap(list)][i] = rangeOf(-9, 10000)
		}
		if text != saidOfSet(right) || !slices.Equal(picked, pickedByWords(right, 90)) {
			t.Fatalf("what was answered of %v is %q and %v now", right, text, picked)
		}
		for i := range picked[:cap(picked)] {
			picked[:cap(picked)][i] = -9
		}
		if !slices.Equal(other, pickedByWords(right, 90)) {
			t.Fatalf("two answers of %v share one list", right)
		}
	}
}

// TestSetsCallAgain: what was read half-way leaves nothing for the next call, also when many are under way.
func TestSetsCallAgain(t *testing.T) {
	want, _ := setByWords("1:3,5,*")
	var group sync.WaitGroup
	for range 8 {
		group.Go(func() {
			for i := range 200 {
				if list, ok := impl.ReadSet("7,8,1:"); ok || len(list) > 0 {
					t.Errorf("ReadSet = %v, %v", list, ok)
				}
				list, ok := impl.ReadSet("1:3,5,*")
				if !ok || !slices.Equal(list, want) || impl.SetText(list) != "1:3,5,*" {
					t.Errorf("ReadSet = %v, %v", list, ok)
				}
				if picked := impl.Picked(list, i); !slices.Equal(picked, pickedByWords(want, i)) {
					t.Errorf("Picked of %d = %v", i, picked)
				}
			}
		})
	}
	group.Wait()
}
