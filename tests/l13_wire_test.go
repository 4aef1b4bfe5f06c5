package tests

import (
	"math"
	"math/rand"
	"regexp"
	"slices"
	"strconv"
	"strings"
	"sync"
	"testing"

	"loop.example/g00324/impl"
)

// It has just these fields, in this order: else this would not build.
var _ = struct {
	Kind int
	Text string
}(impl.Token{})

// The forms of tokens as the document says them, over bytes that each stand as a rune (signsOf).
var (
	atomForm    = regexp.MustCompile(`^[!#-'*-\[\]-z|~]{1,40}`)
	quotedForm  = regexp.MustCompile(`^"((?:[ !#-\[\]-~]|\\["\\]){0,60})"`)
	countedForm = regexp.MustCompile(`^\{([0-9]{1,2})\}\r\n`)
	turnedForm  = regexp.MustCompile(`\\(.)`)
)

// openForm has the beginnings of tokens whose limit is asked only with what stands behind them: an atom of any length, figures, and a sign that turns one that would be the 61st.
var openForm = regexp.MustCompile(`^(?:[!#-'*-\[\]-z|~]+|\{[0-9]{1,2}|"(?:[ !#-\[\]-~]|\\["\\]){60}\\)$`)

func atomOf(text string) impl.Token {
	return impl.Token{Kind: impl.ToAtom, Text: text}
}

func textOf(text string) impl.Token {
	return impl.Token{Kind: impl.ToText, Text: text}
}

func atomsOf(texts ...string) []impl.Token {
	var list []impl.Token
	for _, text := range texts {
		list = append(list, atomOf(text))
	}
	return list
}

func countedOf(text string) string {
	return "{" + strconv.Itoa(len(text)) + "}\r\n" + text
}

// signsOf has a rune for each byte, so that a form goes along bytes.
func signsOf(text string) string {
	signs := make([]rune, 0, len(text))
	for i := range len(text) {
		signs = append(signs, rune(text[i]))
	}
	return string(signs)
}

// tokenByWords tells the token at the beginning of text and how long it is there; 0 when there is none.
func tokenByWords(text string) (impl.Token, int) {
	// No form has more bytes than a quoted text of which each sign is turned.
	signs := signsOf(text[:min(len(text), 122)])
	if found := atomForm.FindString(signs); found != "" {
		return atomOf(found), len(found)
	}
	if found := quotedForm.FindStringSubmatch(signs); found != nil {
		return textOf(turnedForm.ReplaceAllString(found[1], "$1")), len(found[0])
	}
	if found := countedForm.FindStringSubmatch(signs); found != nil {
		n, _ := strconv.Atoi(found[1])
		if from := len(found[0]); n <= 60 && n <= len(text)-from {
			return textOf(text[from : from+n]), from + n
		}
	}
	return impl.Token{}, 0
}

// lineByWords tells the tokens that stand with one blank between up to 13 and 10, however many, and how long all that is; 0 when it is none.
func lineByWords(text string) ([]impl.Token, int) {
	if strings.HasPrefix(text, "\r\n") {
		return nil, 2
	}
	var list []impl.Token
	for at := 0; ; at++ {
		x, size := tokenByWords(text[at:])
		if size == 0 {
			return nil, 0
		}
		list = append(list, x)
		at += size
		if strings.HasPrefix(text[at:], "\r\n") {
			return list, at + 2
		}
		if !strings.HasPrefix(text[at:], " ") {
			return nil, 0
		}
	}
}

// goesOn tells whether something that comes behind text makes it a line. Of the bytes that are still wanting in a text that is told by its number just their number counts.
func goesOn(text string) bool {
	for _, next := range []string{"", "a", "\"", "\"\"", "}\r\n", "0}\r\n", "\r\n"} {
		if _, size := lineByWords(text + next + "\r\n"); size > 0 {
			return true
		}
	}
	if _, size := lineByWords(text + "\n"); size > 0 {
		return true
	}
	if !strings.Contains(text, "{") {
		return false
	}
	for n := range 61 {
		for _, next := range []string{"", "\n", "\r\n", "}\r\n"} {
			if next != "" && !strings.HasSuffix(text+next, "}\r\n") {
				continue
			}
			if _, size := lineByWords(text + next + strings.Repeat("x", n) + "\r\n"); size > 0 {
				return true
			}
		}
	}
	return false
}

// endsWithin tells whether text ends within such a token, and all ahead of that is right.
func endsWithin(text string) bool {
	for at := range len(text) {
		if at > 0 {
			if _, size := lineByWords(text[:at-1] + "\r\n"); text[at-1] != ' ' || size != at+1 || at == 1 {
				continue
			}
		}
		if openForm.MatchString(signsOf(text[at:])) {
			return true
		}
	}
	return false
}

func tokensByWords(buf string) ([]impl.Token, string, int) {
	list, size := lineByWords(buf)
	if size > 0 && size <= 200 && len(list) >= 1 && len(list) <= 8 {
		return list, buf[size:], 0
	}
	if size == 0 && len(buf) <= 200 && (goesOn(buf) || endsWithin(buf)) {
		return nil, buf, 1
	}
	_, behind, _ := strings.Cut(buf, "\r\n")
	return nil, behind, 2
}

func asWanted(t *testing.T, buf string, want []impl.Token, rest string, code int) {
	t.Helper()
	list, behind, got := impl.ReadTokens(buf)
	if !slices.Equal(list, want) || behind != rest || got != code {
		t.Fatalf("ReadTokens(%q) = %#v, %q, %d; want %#v, %q, %d", buf, list, behind, got, want, rest, code)
	}
}

func asByWords(t *testing.T, buf string) {
	t.Helper()
	want, rest, code := tokensByWords(buf)
	asWanted(t, buf, want, rest, code)
}

func TestWireNumbers(t *testing.T) {
	for i, c := range [][2]int{{impl.ToAtom, 1}, {impl.ToText, 2}, {impl.MaxSaid, 200}, {impl.WireMore, 1}, {impl.WireBad, 2}} {
		if c[0] != c[1] {
			t.Errorf("number %d is %d; want %d", i, c[0], c[1])
		}
	}
}

// plainAtoms are right ones, and atomSigns all that these may have.
func plainAtoms() []string {
	return []string{"a", "z", "!", "~", "#", "'", "*", "[", "]", "|", "^", "0", "07", "1:3,5,*", "LOGIN", "a1", "x/y", "-1", strings.Repeat("a", 39), strings.Repeat("~", 40), atomSigns()[:40], atomSigns()[40:80], atomSigns()[48:]}
}

func atomSigns() string {
	return "!#$%&'*+,-./0123456789:;<=>?@ABCDEFGHIJKLMNOPQRSTUVWXYZ[]^_`abcdefghijklmnopqrstuvwxyz|~"
}

// noRunes are texts of which bytes above 126 are a rune, a part of one, or of none.
func noRunes() []string {
	return []string{"\x80", "\xff", "\xc3", "\xc3\xa9", "\xa9", "\xe2\x82\xac", "\xe2\x82", "\xf0\x9f\x93\xa7", "\xed\xa0\x80", "\xc0\xa1", "\xf8", "\xef\xbf\xbd", "\u0130", "\u2028", "\u0085"}
}

func TestAtomOk(t *testing.T) {
	for _, s := range plainAtoms() {
		if !impl.AtomOk(s) {
			t.Errorf("AtomOk(%q) is false", s)
		}
	}
	for n := range 90 {
		if got := impl.AtomOk(strings.Repeat("a", n)); got != (n >= 1 && n <= 40) {
			t.Errorf("AtomOk of %d bytes is %v", n, got)
		}
	}
	for _, s := range []string{"", " ", "a b", " a", "a ", "a\r", "a\n", "a\r\n", "\"a\"", "(a)", "{1}", "a\\", "a\x00", "a\x7f", strings.Repeat("a", 1000000), strings.Repeat("\xc3\xa9", 20)} {
		if impl.AtomOk(s) {
			t.Errorf("AtomOk(%.90q) is true", s)
		}
	}
}

// TestAtomOkBytes: each byte alone, first, within and last, and of each thing that is above 126.
func TestAtomOkBytes(t *testing.T) {
	for i := range 256 {
		c := string([]byte{byte(i)})
		want := i >= 33 && i <= 126 && !strings.Contains("\"(){}\\", c)
		if want != strings.Contains(atomSigns(), c) {
			t.Fatalf("of the tests themselves byte %d is told in two ways", i)
		}
		for _, s := range []string{c, c + "a", "a" + c, "a" + c + "z", strings.Repeat("a", 39) + c, c + strings.Repeat("a", 39)} {
			if impl.AtomOk(s) != want {
				t.Errorf("AtomOk(%q) is %v", s, !want)
			}
		}
	}
	for _, c := range noRunes() {
		for _, s := range []string{c, c + "a", "a" + c} {
			if impl.AtomOk(s) {
				t.Errorf("AtomOk(%q) is true", s)
			}
		}
	}
}

func TestQuoteText(t *testing.T) {
	for _, c := range [][2]string{
		{"", `""`}, {"a", `"a"`}, {" ", `" "`}, {"a b", `"a b"`}, {`a"b`, `"a\"b"`}, {`"`, `"\""`}, {`\`, `"\\"`}, {`\"`, `"\\\""`}, {`"\`, `"\"\\"`},
		{`\\`, `"\\\\"`}, {`""`, `"\"\""`}, {`a\`, `"a\\"`}, {`\n`, `"\\n"`}, {"{3}", `"{3}"`}, {"(a)", `"(a)"`}, {"~!", `"~!"`}, {"'`", "\"'`\""},
		{strings.Repeat("a", 60), `"` + strings.Repeat("a", 60) + `"`},
		{strings.Repeat(`"`, 60), `"` + strings.Repeat(`\"`, 60) + `"`},
		{strings.Repeat(`\`, 60), `"` + strings.Repeat(`\\`, 60) + `"`},
	} {
		if got, ok := impl.QuoteText(c[0]); !ok || got != c[1] {
			t.Errorf("QuoteText(%q) = %q, %v; want %q", c[0], got, ok, c[1])
		}
	}
}

func TestQuoteTextRefused(t *testing.T) {
	refused := []string{"\r\n", "a\r\nb", "\t", "a\x1f", "\x7f", strings.Repeat("a", 61), strings.Repeat(`\`, 61), strings.Repeat(" ", 1000000), strings.Repeat("a", 60) + "\x00", strings.Repeat("a", 59) + "\x1f"}
	for _, c := range noRunes() {
		refused = append(refused, c, "a"+c, c+"a", `"`+c)
	}
	for _, s := range refused {
		if got, ok := impl.QuoteText(s); ok || got != "" {
			t.Errorf("QuoteText(%.90q) = %q, %v", s, got, ok)
		}
	}
}

func TestQuoteTextBytes(t *testing.T) {
	for i := range 256 {
		c := string([]byte{byte(i)})
		in := c
		if c == `"` || c == `\` {
			in = `\` + c
		}
		for n := range 61 {
			for _, around := range [][2]string{{"", strings.Repeat("x", n)}, {strings.Repeat(" ", n), ""}} {
				want, right := `"`+around[0]+in+around[1]+`"`, i >= 32 && i <= 126 && n < 60
				if !right {
					want = ""
				}
				if got, ok := impl.QuoteText(around[0] + c + around[1]); got != want || ok != right {
					t.Fatalf("QuoteText(%q) = %q, %v; want %q", around[0]+c+around[1], got, ok, want)
				}
			}
		}
	}
}

func TestTokenText(t *testing.T) {
	for _, c := range []struct {
		x    impl.Token
		want string
	}{
		{atomOf("a"), "a"}, {atomOf("1:3,5,*"), "1:3,5,*"}, {atomOf(strings.Repeat("~", 40)), strings.Repeat("~", 40)},
		{textOf(""), `""`}, {textOf("a"), `"a"`}, {textOf("a b"), `"a b"`}, {textOf(`a"\`), `"a\"\\"`}, {textOf(strings.Repeat("a", 60)), `"` + strings.Repeat("a", 60) + `"`},
		{textOf("\r\n"), "{2}\r\n\r\n"}, {textOf("x\ry"), "{3}\r\nx\ry"}, {textOf("\x1f"), "{1}\r\n\x1f"}, {textOf("\x7f"), "{1}\r\n\x7f"}, {textOf("\u00e9"), "{2}\r\n\xc3\xa9"}, {textOf("\xff"), "{1}\r\n\xff"},
		{textOf("a\"\r"), "{3}\r\na\"\r"}, {textOf(strings.Repeat("\n", 60)), "{60}\r\n" + strings.Repeat("\n", 60)},
		// As it is, and however long, also where ReadTokens reads no such thing.
		{atomOf(""), ""}, {atomOf("a b"), "a b"}, {atomOf("\"\\\r\n\xff"), "\"\\\r\n\xff"}, {atomOf(strings.Repeat("a", 41)), strings.Repeat("a", 41)},
		{textOf(strings.Repeat("a", 61)), "{61}\r\n" + strings.Repeat("a", 61)}, {textOf(strings.Repeat("\x00", 1234)), "{1234}\r\n" + strings.Repeat("\x00", 1234)},
		// Of no kind at all.
		{impl.Token{}, ""}, {impl.Token{Text: "a"}, ""}, {impl.Token{Kind: 3, Text: "a"}, ""}, {impl.Token{Kind: -1, Text: "a"}, ""}, {impl.Token{Kind: math.MaxInt, Text: "\r"}, ""}, {impl.Token{Kind: math.MinInt}, ""},
	} {
		if got := impl.TokenText(c.x); got != c.want {
			t.Errorf("TokenText(%#v) = %q; want %q", c.x, got, c.want)
		}
	}
}

func TestReadTokens(t *testing.T) {
	for _, c := range []struct {
		said string
		want []impl.Token
	}{
		{"a", atomsOf("a")}, {"a1 LOGIN bob", atomsOf("a1", "LOGIN", "bob")}, {"t FETCH 1:3,5,*", atomsOf("t", "FETCH", "1:3,5,*")}, {"* ~ !", atomsOf("*", "~", "!")},
		{`""`, []impl.Token{textOf("")}}, {`"a"`, []impl.Token{textOf("a")}}, {`" "`, []impl.Token{textOf(" ")}}, {`"a  b "`, []impl.Token{textOf("a  b ")}}, {`"\""`, []impl.Token{textOf(`"`)}}, {`"\\"`, []impl.Token{textOf(`\`)}},
		{`"\\\""`, []impl.Token{textOf(`\"`)}}, {`"a\"b\\c"`, []impl.Token{textOf(`a"b\c`)}}, {`"{3}"`, []impl.Token{textOf("{3}")}}, {`"(a)"`, []impl.Token{textOf("(a)")}}, {`"" ""`, []impl.Token{textOf(""), textOf("")}},
		{"{0}\r\n", []impl.Token{textOf("")}}, {"{1}\r\na", []impl.Token{textOf("a")}}, {"{2}\r\n\r\n", []impl.Token{textOf("\r\n")}}, {"{3}\r\nx\ry", []impl.Token{textOf("x\ry")}}, {"{1}\r\n ", []impl.Token{textOf(" ")}},
		{"{1}\r\n\"", []impl.Token{textOf(`"`)}}, {"{1}\r\n\\", []impl.Token{textOf(`\`)}}, {"{5}\r\n{3}\r\n", []impl.Token{textOf("{3}\r\n")}}, {"{1}\r\n\xc3", []impl.Token{textOf("\xc3")}}, {"{2}\r\n\xc3\xa9", []impl.Token{textOf("\u00e9")}},
		{"{00}\r\n", []impl.Token{textOf("")}}, {"{07}\r\n\r\n\r\n\r\n\r", []impl.Token{textOf("\r\n\r\n\r\n\r")}}, {"{01}\r\na", []impl.Token{textOf("a")}},
		{"{0}\r\n {0}\r\n", []impl.Token{textOf(""), textOf("")}}, {"{1}\r\n  {1}\r\n ", []impl.Token{textOf(" "), textOf(" ")}},
		{"a \"b\" {1}\r\nc d", []impl.Token{atomOf("a"), textOf("b"), textOf("c"), atomOf("d")}}, {"{1}\r\nc \"b\" a", []impl.Token{textOf("c"), textOf("b"), atomOf("a")}},
		{"a b c d e f g h", atomsOf("a", "b", "c", "d", "e", "f", "g", "h")},
		{`t1 APPEND inbox "hi there"`, []impl.Token{atomOf("t1"), atomOf("APPEND"), atomOf("inbox"), textOf("hi there")}},
	} {
		for _, rest := range []string{"", "\r", "\n", "\r\n", " ", "a", "more", "b c\r\nd\r\n", "\x00\xff", "  ", everyByte(), strings.Repeat("z", 1000)} {
			asWanted(t, c.said+"\r\n"+rest, c.want, rest, 0)
			asByWords(t, c.said+"\r\n"+rest)
		}
	}
}

// textsToSay: of each length, with signs that are turned, with bytes that are never quoted, and with what looks like an end.
func textsToSay() []string {
	texts := []string{"\r\n", "\r", "\n", "a\r\nb", "{3}\r\nabc", "\" \"", "\"\r\n\"", "\\", "\"", "\\\"", "\u00e9", "\xff\xfe", everyByte()[:60], everyByte()[60:120], everyByte()[120:180], everyByte()[180:240], everyByte()[196:]}
	for n := range 61 {
		for _, sign := range []string{"a", " ", "\"", "\\", "\x00", "\r", "\xc3"} {
			texts = append(texts, strings.Repeat(sign, n))
		}
	}
	for i := range 256 {
		texts = append(texts, string([]byte{byte(i)}), string([]byte{'a', byte(i)}), string([]byte{byte(i), 'a'}))
	}
	return texts
}

// TestTokensReadBack: what TokenText writes, and a text in each of its two forms, comes back as that token.
func TestTokensReadBack(t *testing.T) {
	check := func(said string, x impl.Token) {
		t.Helper()
		for _, around := range []struct {
			ahead  string
			tokens []impl.Token
		}{{"", nil}, {"t ", atomsOf("t")}, {"{2}\r\n\r\n \"\" ", []impl.Token{textOf("\r\n"), textOf("")}}} {
			want := append(slices.Clone(around.tokens), x)
			if len(around.ahead+said+" z\r\n") > 200 {
				continue
			}
			asWanted(t, around.ahead+said+"\r\nmore", want, "more", 0)
			asWanted(t, around.ahead+said+" z\r\n", append(want, atomOf("z")), "", 0)
		}
	}
	for _, text := range plainAtoms() {
		check(impl.TokenText(atomOf(text)), atomOf(text))
	}
	for _, text := range textsToSay() {
		check(impl.TokenText(textOf(text)), textOf(text))
		check(countedOf(text), textOf(text))
		quoted, ok := impl.QuoteText(text)
		if ok {
			check(quoted, textOf(text))
		}
		if impl.TokenText(textOf(text)) == countedOf(text) == ok {
			t.Fatalf("TokenText of %q is %q", text, impl.TokenText(textOf(text)))
		}
	}
}

func linesToSay() []string {
	return []string{
		"a\r\n", "a1 LOGIN bob \"pass word\"\r\n", "\"\"\r\n", `"\"\\\"" b` + "\r\n", "{0}\r\n\r\n", "{00}\r\n a\r\n", "{4}\r\n\r\n\r\n\r\n", "t APPEND {4}\r\n\r\n\"  {1}\r\n\" b\r\n", "{11}\r\n{3}\r\na\r\n\" \"\r\n",
		"{9}\r\nab\r\ncd \"\\\r\n", "a b c d e f g h\r\n", "{1}\r\na {1}\r\nb {1}\r\nc {1}\r\nd {1}\r\ne {1}\r\nf {1}\r\ng {1}\r\nh\r\n", strings.Repeat("a", 40) + " \"" + strings.Repeat(" ", 60) + "\"\r\n",
		"{60}\r\n" + strings.Repeat("\r\n", 30) + " {60}\r\n" + strings.Repeat("\xff", 60) + "\r\n", `"` + strings.Repeat(`\"`, 60) + "\" z\r\n", lineOfSize(200),
	}
}

// TestTokensInParts: cut at every place, with nothing behind what came, there is more to come.
func TestTokensInParts(t *testing.T) {
	for _, line := range linesToSay() {
		want, size := lineByWords(line)
		if size != len(line) {
			t.Fatalf("%q is no line", line)
		}
		for cut := range len(line) {
			asWanted(t, line[:cut], nil, line[:cut], impl.WireMore)
		}
		asWanted(t, line, want, "", 0)
		for cut := range len(line) {
			asWanted(t, line+line[:cut], want, line[:cut], 0)
		}
	}
}

// TestTokensInDrawnParts: lines behind each other, which come in pieces of any size, are what they are in one.
func TestTokensInDrawnParts(t *testing.T) {
	r := rand.New(rand.NewSource(1301))
	for range 400 {
		var want, got [][]impl.Token
		stream, buf := "", ""
		for range 1 + r.Intn(6) {
			list := drawnTokens(r)
			want = append(want, list)
			stream += sayByWords(r, list)
		}
		for stream != "" {
			size := min(len(stream), 1+r.Intn(1+r.Intn(40)))
			buf, stream = buf+stream[:size], stream[size:]
			for {
				list, rest, code := impl.ReadTokens(buf)
				if code == impl.WireBad || code == impl.WireMore && (len(list) > 0 || rest != buf) {
					t.Fatalf("ReadTokens(%q) = %#v, %q, %d", buf, list, rest, code)
				}
				if code == impl.WireMore {
					break
				}
				got, buf = append(got, list), rest
			}
		}
		if buf != "" || !slices.EqualFunc(got, want, slices.Equal) {
			t.Fatalf("%#v came as %#v, and %q was left", want, got, buf)
		}
	}
}

// drawnTokens has a line of at most 200 bytes, whichever way its texts are said.
func drawnTokens(r *rand.Rand) []impl.Token {
	var list []impl.Token
	for size := range 1 + r.Intn(8) {
		text := drawnText(r, r.Intn(1+80/(2+size*size)))
		switch r.Intn(3) {
		case 0:
			list = append(list, atomOf(atomSigns()[r.Intn(80):][:1+r.Intn(8)]))
		case 1:
			list = append(list, textOf(text))
		default:
			list = append(list, textOf(strings.Repeat(`\" `, r.Intn(3))+atomSigns()[:r.Intn(6)]))
		}
	}
	for len(lineOf(list, true)) > 200 || len(lineOf(list, false)) > 200 {
		list = list[1:]
	}
	return list
}

// lineOf says texts by their numbers alone, or as TokenText does.
func lineOf(list []impl.Token, counted bool) string {
	var parts []string
	for _, x := range list {
		if counted && x.Kind == impl.ToText {
			parts = append(parts, countedOf(x.Text))
		} else {
			parts = append(parts, impl.TokenText(x))
		}
	}
	return strings.Join(parts, " ") + "\r\n"
}

func sayByWords(r *rand.Rand, list []impl.Token) string {
	return lineOf(list, r.Intn(2) == 0)
}

// lineOfSize is right but for its size, which counts its end, too.
func lineOfSize(size int) string {
	left := size - 2
	var parts []string
	for ; left > 42; left -= 41 {
		parts = append(parts, strings.Repeat("a", 40))
	}
	if left > 40 {
		parts = append(parts, "b")
		left -= 2
	}
	return strings.Join(append(parts, strings.Repeat("c", left)), " ") + "\r\n"
}

func TestTokensLimits(t *testing.T) {
	for n := range 90 {
		atom, text, want := strings.Repeat("a", n), strings.Repeat("b", n), 0
		if n < 1 || n > 40 {
			want = impl.WireBad
		}
		checkCode(t, atom+"\r\n", want)
		checkCode(t, "x "+atom+" y\r\n", want)
		want = 0
		if n > 60 {
			want = impl.WireBad
		}
		checkCode(t, `"`+text+"\"\r\n", want)
		checkCode(t, `x "`+text+"\" y\r\n", want)
		checkCode(t, `"`+strings.Repeat(`\\`, n)+"\"\r\n", want)
		checkCode(t, countedOf(text)+"\r\n", want)
		checkCode(t, "x "+countedOf(text)+" y\r\n", want)
		checkCode(t, strings.TrimSuffix(strings.Repeat("a ", n), " ")+"\r\n", codeOfCount(n))
		checkCode(t, strings.TrimSuffix(strings.Repeat("\"\" ", n), " ")+"\r\n", codeOfCount(n))
		checkCode(t, strings.TrimSuffix(strings.Repeat("{0}\r\n ", n), " ")+"\r\n", codeOfCount(n))
	}
}

func codeOfCount(tokens int) int {
	if tokens < 1 || tokens > 8 {
		return impl.WireBad
	}
	return 0
}

func checkCode(t *testing.T, line string, want int) {
	t.Helper()
	for _, rest := range []string{"", "\r\n", "behind"} {
		asByWords(t, line+rest)
		_, behind, code := impl.ReadTokens(line + rest)
		if code != want || want == 0 && behind != rest {
			t.Fatalf("ReadTokens(%q) tells %q, %d; want %d", line+rest, behind, code, want)
		}
	}
}

// TestTokensSizes: MaxSaid bytes with the end, one more, and as many without an end that is there.
func TestTokensSizes(t *testing.T) {
	for size := 3; size <= 420; size++ {
		line := lineOfSize(size)
		if len(line) != size {
			t.Fatalf("%q has %d bytes; want %d", line, len(line), size)
		}
		list, whole := lineByWords(line)
		if whole != size {
			t.Fatalf("%q is no line", line)
		}
		if size <= 200 {
			asWanted(t, line+"more", list, "more", 0)
		} else {
			asWanted(t, line+"more", nil, "more", impl.WireBad)
		}
		for _, open := range []string{line[:size-1], line[:size-2], line[:size-2] + " ", line[:size-2] + " \"", line[:size-2] + " {60}\r\n"} {
			if len(open) <= 200 {
				asWanted(t, open, nil, open, impl.WireMore)
			} else {
				asWanted(t, open, nil, "", impl.WireBad)
			}
		}
	}
	asWanted(t, strings.Repeat("a b ", 250000), nil, "", impl.WireBad)
	asWanted(t, strings.Repeat("a", 1000000), nil, "", impl.WireBad)
	asWanted(t, strings.Repeat("a ", 500000)+"\r\nz", nil, "z", impl.WireBad)
	asWanted(t, "a\r\n"+strings.Repeat("b", 1000000), atomsOf("a"), strings.Repeat("b", 1000000), 0)
}

// TestTokensSizesOfTexts: a text that is told by its number, whose bytes go past MaxSaid.
func TestTokensSizesOfTexts(t *testing.T) {
	ahead := strings.Repeat("{60}\r\n"+strings.Repeat("\n", 60)+" ", 2)
	for n := range 61 {
		line := ahead + countedOf(strings.Repeat("x", n)) + "\r\n"
		for cut := range len(line) + 1 {
			asByWords(t, line[:cut])
		}
		asByWords(t, line+"behind")
		_, rest, code := impl.ReadTokens(line + "behind")
		if len(line) <= 200 && (code != 0 || rest != "behind") || len(line) > 200 && (code != impl.WireBad || rest != line[6:]+"behind") {
			t.Fatalf("of %d bytes there came %q, %d", len(line), rest, code)
		}
	}
}

func wrongLines() []string {
	lines := []string{
		"", " ", "  ", " a", "a ", "a  b", "a   b", " a b", "a b ", "a\tb", "\t", "a\n", "\n", "\na", "a\nb", "a\r", "a\rb", "\ra", "a\r\r", "\r", "a \rb", "a \n",
		"\"", "\"a", "\"a b", "a \"b", "\"a\\\"", "\"a\\", "\"\\a\"", "\"\\ \"", "\"\\{\"", "\"a\\n\"", "\"\\\x80\"", "\"a\x1f\"", "\"a\x7f\"", "\"\x00\"", "\"a\tb\"", "\"a\rb\"", "\"a\nb\"", "\"a\"b", "\"a\"\"b\"", "\"a\"{1}", "a\"b\"", "a\"", "\"\"\"", "\"a\"\r", "\"a\" ",
		"(", ")", "{", "}", "\\", "(a)", "a(b)", "a(", "a)", "a{", "a}", "a\\", "a{1}\r\nb", "a\\b", "}a",
		"{}", "{}\r\n", "{a}\r\nb", "{-1}\r\nb", "{+1}\r\nb", "{ 1}\r\nb", "{1 }\r\nb", "{1", "{1a", "{1}", "{1}a", "{1}\ra", "{1}\na", "{1}\r\r\na", "{ 1", "{61}\r\n" + strings.Repeat("a", 61), "{99}\r\n" + strings.Repeat("a", 99), "{100}\r\n" + strings.Repeat("a", 100), "{001}\r\na", "{060}\r\na", "{000}\r\n", "{1}\r\nab", "{1}\r\n\xc3\xa9", "{0}\r\na", "{1}\r\na\"b\"", "{1}\r\na{1}\r\nb", "{0}\r\n ", "{1}\r\n ", "{2}\r\n  ", "{\x80}\r\n", "{\u0661}\r\na", "{1}\r\na\r", "{1}\r\na\rb", "{1}\r\na\nb",
		"a\x7f", "\x7f", "a\x00b", "\x00", "\x1f", "a b c d e f g h i", "a b c d e f g h i j", "a b c d e f g h ", "\"\" \"\" \"\" \"\" \"\" \"\" \"\" \"\" \"\"", strings.Repeat("a", 41), "x " + strings.Repeat("a", 41), `"` + strings.Repeat("a", 61) + `"`, `"` + strings.Repeat("a", 61), `"` + strings.Repeat(`\"`, 61) + `"`,
	}
	for _, c := range noRunes() {
		lines = append(lines, c, "a"+c, c+"a", `"`+c+`"`, "a "+c, "{"+c, "{1"+c, "{1}\r\na"+c)
	}
	return lines
}

// TestTokensWrong: alone, with an end, and with more behind that; some are right, or not yet wrong, with what is behind them.
func TestTokensWrong(t *testing.T) {
	for _, line := range wrongLines() {
		asByWords(t, line)
		for _, rest := range []string{"", "\r\n", "behind", "b c\r\nd\r\n", " ", "\xff\x00"} {
			asByWords(t, line+"\r\n"+rest)
			asByWords(t, "a "+line+" b\r\n"+rest)
		}
	}
}

// TestTokensWrongTold: nothing, and what is behind the first 13 and 10, wherever these stand; nothing without these.
func TestTokensWrongTold(t *testing.T) {
	for _, c := range [][2]string{
		{"a  b\r\nnext", "next"}, {" a\r\nnext", "next"}, {"a \r\nnext", "next"}, {"\r\nnext", "next"}, {"\r\n", ""}, {"\"ab\r\nc\"\r\n", "c\"\r\n"}, {"\"a\\b\"\r\nnext", "next"}, {"\"a\"b\r\nnext", "next"},
		{"{1}\r\nab\r\nnext", "ab\r\nnext"}, {"a {2}\r\nbcd\r\nnext", "bcd\r\nnext"}, {"a\rb\r\nnext", "next"}, {"a\nb\r\nnext", "next"}, {"a\n", ""}, {"\n", ""}, {"a\rb", ""}, {"a\r\r\nnext", "next"}, {"\r\r\nnext", "next"}, {"\rx", ""},
		{"a\xff\r\nnext", "next"}, {"a\xff", ""}, {"\u00e9", ""}, {"\"\x7f", ""}, {"\"\x1f", ""}, {"\"\\x", ""}, {"a  ", ""}, {" ", ""}, {"{}", ""}, {"{x", ""}, {"{61}", ""}, {"{61x", ""}, {"{61}\r", ""}, {"{100", ""}, {"{000", ""}, {"{1}x", ""}, {"{1}\rx", ""}, {"{1}\r\nab", "ab"}, {"\"a\"b", ""}, {"\"a\" \"b\"c", ""}, {"(", ""}, {"a(", ""}, {"a\"", ""}, {"}", ""}, {"\\", ""},
		{"{61}\r\nabc", "abc"}, {"{}\r\nabc", "abc"}, {"a b c d e f g h i\r\nnext", "next"}, {strings.Repeat("a", 41) + " ", ""}, {strings.Repeat("a", 41) + "\r", ""}, {strings.Repeat("a", 41) + "(", ""}, {`"` + strings.Repeat("a", 61), ""}, {`"` + strings.Repeat("a", 60) + `\"`, ""}, {strings.Repeat("a", 41) + "\r\nnext", "next"}, {"a \r", ""}, {"a  \r", ""},
		{strings.Repeat("a ", 100) + "b", ""}, {strings.Repeat("a ", 100) + "{9}\r\nmore", "more"},
	} {
		asWanted(t, c[0], nil, c[1], impl.WireBad)
	}
}

// TestTokensMoreTold: nothing of it is wrong yet.
func TestTokensMoreTold(t *testing.T) {
	for _, buf := range []string{
		"", "a", "a ", "a\r", "a b", "a b\r", "\"", "\"a", "\"\\", "\"\\\"", "\"\\\\", "\"a b ", "\"a\"", "\"a\" ", "\"a\"\r", "\"\r"[:1], "{", "{0", "{6", "{7", "{60", "{00", "{07", "{60}", "{60}\r", "{60}\r\n", "{3}\r\na\r\n"[:5], "{3}\r\na\r", "{3}\r\na\r\n", "{3}\r\na\r\n ", "{3}\r\na\r\n\r", "{1}\r\n\r", "{2}\r\n\r\n", "{0}\r\n", "{0}\r\n\r",
		"{61", "{99", "a {61", strings.Repeat("a", 40), strings.Repeat("a", 41), "b " + strings.Repeat("a", 41), `"` + strings.Repeat("a", 60), `"` + strings.Repeat("a", 60) + `\`, `"` + strings.Repeat("a", 59) + `\`, `"` + strings.Repeat(`\"`, 60), "a b c d e f g h", "a b c d e f g h\r", strings.Repeat("a ", 100), "{60}\r\n" + strings.Repeat("\xff", 59), "{60}\r\n" + strings.Repeat("\xff", 60),
		// Tokens are counted when their end is there: what has none says nothing of that yet.
		"\r", "a b c d e f g h ", "a b c d e f g h i", "a b c d e f g h i\r",
	} {
		asWanted(t, buf, nil, buf, impl.WireMore)
		asByWords(t, buf)
	}
}

// tokensAheadOf stand ahead of what comes last: nothing, or each kind of token.
func tokensAheadOf() []string {
	return []string{"", "a ", "\"b \\\"\" ", "{3}\r\n\r\nx ", "{0}\r\n ", "a1 SAY ", strings.Repeat("b", 40) + " ", "a b c d e f g ", "a b c d e f g h "}
}

// asOpen: more to come as long as that is no more than may be said; wrong, with nothing of it, beyond that.
func asOpen(t *testing.T, buf string) {
	t.Helper()
	if len(buf) <= 200 {
		asWanted(t, buf, nil, buf, impl.WireMore)
		return
	}
	asWrong(t, buf)
}

// asWrong: nothing, and what is behind the first 13 and 10, be these of a text that is told by its number.
func asWrong(t *testing.T, buf string) {
	t.Helper()
	_, behind, _ := strings.Cut(buf, "\r\n")
	asWanted(t, buf, nil, behind, impl.WireBad)
}

// asRight: what is told with the end there, and that its beginnings are more to come.
func asRight(t *testing.T, ahead string, said string, last impl.Token) {
	t.Helper()
	line := ahead + said + "\r\n"
	list, size := lineByWords(line)
	if size != len(line) || list[len(list)-1] != last {
		t.Fatalf("%q does not end with %#v", line, last)
	}
	if len(list) > 8 || size > 200 {
		asWrong(t, line+"next")
		return
	}
	asWanted(t, line+"next", list, "next", 0)
	for cut := range len(line) {
		asOpen(t, line[:cut])
	}
}

// TestTokensOpenAtoms: how long an atom is counts with the sign behind it, and how long all is at once.
func TestTokensOpenAtoms(t *testing.T) {
	for _, ahead := range tokensAheadOf() {
		for n := 1; n <= 210; n++ {
			buf := ahead + strings.Repeat("a", n)
			asOpen(t, buf)
			if n <= 40 {
				asRight(t, ahead, strings.Repeat("a", n), atomOf(strings.Repeat("a", n)))
				continue
			}
			for _, behind := range []string{" ", "\r", "\n", "\"", "(", "{", "}", "\\", "\x7f", "\xff", "\u00e9", " b", "\rb", "\r\n", "\r\nnext", " b\r\nnext", "\"\r\nnext"} {
				asWrong(t, buf+behind)
			}
		}
	}
	asOpen(t, strings.Repeat("a", 200))
	asOpen(t, "b "+strings.Repeat("a", 198))
	asWanted(t, strings.Repeat("a", 201), nil, "", impl.WireBad)
	asWanted(t, "b "+strings.Repeat("a", 199), nil, "", impl.WireBad)
	asWanted(t, "b "+strings.Repeat("a", 200), nil, "", impl.WireBad)
	asWanted(t, strings.Repeat("a", 200)+"\r\nnext", nil, "next", impl.WireBad)
	asWanted(t, atomSigns(), nil, atomSigns(), impl.WireMore)
	asWanted(t, atomSigns()+"\r\nnext", nil, "next", impl.WireBad)
}

// TestTokensOpenCounts: how great a number is counts with the sign behind its figures, and how many figures it has at once.
func TestTokensOpenCounts(t *testing.T) {
	for _, ahead := range tokensAheadOf() {
		for n := range 130 {
			figures := strconv.Itoa(n)
			for len(figures) < 4 {
				checkCount(t, ahead, figures, n)
				figures = "0" + figures
			}
		}
	}
}

func checkCount(t *testing.T, ahead string, figures string, n int) {
	t.Helper()
	open := ahead + "{" + figures
	if len(figures) <= 2 {
		asOpen(t, open)
	} else {
		asWrong(t, open)
	}
	for _, behind := range []string{"a", " ", "\r", "\n", "\"", "{", "\xff", "\r\nnext", " b\r\nnext"} {
		asWrong(t, open+behind)
	}
	if len(figures) <= 2 && n <= 60 {
		text := strings.Repeat("\n", n)
		asRight(t, ahead, "{"+figures+"}\r\n"+text, textOf(text))
		return
	}
	for _, behind := range []string{"}", "}\r", "}\r\n", "}a", "}\r\nnext", "}\r\n" + strings.Repeat("x", n) + "\r\nnext"} {
		asWrong(t, open+behind)
	}
}

// TestTokensOpenQuotes: a sign that turns the next one is no byte of the text; the 61st counts at once, turned or not.
func TestTokensOpenQuotes(t *testing.T) {
	for _, ahead := range tokensAheadOf()[:6] {
		for _, unit := range []string{"x", " ", `\"`, `\\`} {
			for n := range 63 {
				said := `"` + strings.Repeat(unit, n)
				if n > 60 {
					asWrong(t, ahead+said)
					asWrong(t, ahead+said+"\\")
					asWrong(t, ahead+said+"\"\r\nnext")
					continue
				}
				asOpen(t, ahead+said)
				asOpen(t, ahead+said+"\\")
				asRight(t, ahead, said+`"`, textOf(strings.Repeat(unit[len(unit)-1:], n)))
				for _, behind := range []string{"x", " ", "\r", "\r\nnext", "\xff", "x\"\r\nnext"} {
					asWrong(t, ahead+said+"\\"+behind)
				}
			}
			full := ahead + `"` + strings.Repeat(unit, 60)
			for _, behind := range []string{"x", " ", "{", "\r", "\xff", `\"`, `\\`, `\""`, `\"` + "\r\nnext", `\""` + "\r\nnext", `\\"` + "\r\nnext", "x\"\r\nnext", `"x`, `"` + "\rx"} {
				asWrong(t, full+behind)
			}
		}
	}
}

// TestTokensOpenTold: the inputs at the limits, each first and behind another token, written out.
func TestTokensOpenTold(t *testing.T) {
	a40, x60 := strings.Repeat("a", 40), strings.Repeat("x", 60)
	for _, ahead := range []string{"", "b ", "\"b\" "} {
		for _, open := range []string{a40, a40 + "a", strings.Repeat("a", 200-len(ahead)), "{60", "{61", "{99", `"` + x60 + `\`} {
			asByWords(t, ahead+open)
			asWanted(t, ahead+open, nil, ahead+open, impl.WireMore)
		}
		for _, line := range []string{a40 + "a", strings.Repeat("a", 200-len(ahead)), strings.Repeat("a", 200), "{60", "{61", "{99", "{61}", "{99}", `"` + x60 + `\`, `"` + x60 + `\"`, `"` + x60 + `\""`, `"` + x60 + `\\"`, `"` + x60 + `x"`} {
			asWanted(t, ahead+line+"\r\nnext", nil, "next", impl.WireBad)
		}
		for _, wrong := range []string{a40 + "a ", a40 + "a\r", "{61}", "{99}", "{100", `"` + x60 + "x", `"` + x60 + `\"`, `"` + x60 + `\\`, strings.Repeat("a", 201)} {
			asByWords(t, ahead+wrong)
			asWanted(t, ahead+wrong, nil, "", impl.WireBad)
		}
	}
	b := atomOf("b")
	asWanted(t, "b "+a40+"\r\nnext", []impl.Token{b, atomOf(a40)}, "next", 0)
	asWanted(t, "b {60}\r\n"+x60+"\r\nnext", []impl.Token{b, textOf(x60)}, "next", 0)
	asWanted(t, `b "`+x60+"\"\r\nnext", []impl.Token{b, textOf(x60)}, "next", 0)
	// What is wrong ahead of the last token stays so.
	for _, wrong := range []string{" ", "b  ", "{61} ", a40 + "a ", "\"b\"", "{1}\r\nbc ", "b\r"} {
		for _, open := range []string{a40 + "a", "{61", `"` + x60 + `\`} {
			asWrong(t, wrong+open)
		}
	}
}

// TestTokensEveryShort: all texts of up to four of the signs that count, and some that do not.
func TestTokensEveryShort(t *testing.T) {
	signs := []string{"a", "1", " ", "\"", "\\", "{", "}", "\r", "\n", "(", "\xff"}
	texts := []string{""}
	for range 4 {
		var longer []string
		for _, text := range texts {
			asByWords(t, text)
			for _, sign := range signs {
				longer = append(longer, text+sign)
			}
		}
		texts = longer
	}
	for _, text := range texts {
		asByWords(t, text)
		asByWords(t, "a \"b\" "+text+"\r\nz\r\n")
	}
}

func TestTokensDrawn(t *testing.T) {
	r := rand.New(rand.NewSource(1302))
	signs := []string{"a", "b", "0", "2", " ", " ", "\"", "\\", "{", "}", "\r", "\n", "\r\n", "\r\n", "{2}\r\n", "{11}\r\n", "\"a b\"", "\\\"", "\x7f", "\xc3\xa9", "\x80", strings.Repeat("c", 40), "{61", "\"" + strings.Repeat("d", 60), strings.Repeat("d", 60)}
	told := map[int]int{}
	for range 15000 {
		var buf string
		if r.Intn(3) == 0 {
			for range r.Intn(14) {
				buf += signs[r.Intn(len(signs))]
			}
		} else {
			buf = drawnBytes(r, sayByWords(r, drawnTokens(r))) + sayByWords(r, drawnTokens(r))
			buf = buf[:r.Intn(len(buf)+1)]
		}
		asByWords(t, buf)
		_, _, code := impl.ReadTokens(buf)
		told[code]++
	}
	for code := range 3 {
		if told[code] < 500 {
			t.Errorf("code %d came %d times", code, told[code])
		}
	}
}

// TestTokensTurned: each byte of a line turned, taken out, and come twice.
func TestTokensTurned(t *testing.T) {
	for _, line := range linesToSay()[:12] {
		for at := range len(line) {
			asByWords(t, line[:at]+line[at+1:]+"z\r\n")
			asByWords(t, line[:at+1]+line[at:]+"z\r\n")
			for _, c := range []byte("\x00\n\r 09:\"(){}\\az\x7f\x80\xff") {
				asByWords(t, line[:at]+string([]byte{c})+line[at+1:]+"z\r\n")
			}
		}
	}
}

// memoryBufs have each code, and each kind of token.
func memoryBufs() []string {
	return []string{"a\r\n", "ab cd \"ef\" \"g\\\"h\" {3}\r\nx\ry {2}\r\nzz\r\nmore", "\"\" {0}\r\n ab ab\r\nab", "\"ab\" \"ab\" a a \"a\" \"a\"\r\n", "ab cd", "ab  cd\r\nmore", "ab  cd", "{9}\r\nabc", ""}
}

func textsOfTokens(buf string) []string {
	list, rest, _ := impl.ReadTokens(buf)
	texts := []string{rest}
	for _, x := range list {
		texts = append(texts, x.Text)
	}
	return texts
}

// TestTokensNewMemory: no text that is answered lies in the argument, in another answer, or in another text of its own.
func TestTokensNewMemory(t *testing.T) {
	for _, buf := range memoryBufs() {
		texts := slices.Concat(textsOfTokens(buf), textsOfTokens(buf))
		for i, one := range texts {
			if sharesMemory(one, buf) || slices.ContainsFunc(texts[:i], func(other string) bool { return sharesMemory(one, other) }) {
				t.Fatalf("of %q the text %q is shared", buf, one)
			}
		}
	}
	for _, x := range []impl.Token{atomOf("a"), atomOf("abc"), textOf("abc"), textOf("a\rb"), textOf("")} {
		one, other := impl.TokenText(x), impl.TokenText(x)
		if sharesMemory(one, x.Text) || sharesMemory(one, other) {
			t.Errorf("TokenText(%#v) is shared", x)
		}
		one, _ = impl.QuoteText(x.Text)
		other, _ = impl.QuoteText(x.Text)
		if sharesMemory(one, x.Text) || sharesMemory(one, other) {
			t.Errorf("QuoteText(%q) is shared", x.Text)
		}
	}
}

// TestTokensOfBytesThatChange: who made the text out of bytes may go on with these, and who has the list may write into it.
func TestTokensOfBytesThatChange(t *testing.T) {
	for _, buf := range memoryBufs() {
		want, rest, code := tokensByWords(buf)
		bytes := []byte(buf)
		given := string(bytes)
		list, behind, got := impl.ReadTokens(given)
		other, _, _ := impl.ReadTokens(given)
		clear(bytes)
		for i := range list[:cap(list)] {
			list[:cap(list)][i] = impl.Token{Kind: 9, Text: "spoilt"}
		}
		if given != buf || !slices.Equal(other, want) || behind != rest || got != code {
			t.Errorf("ReadTokens(%q) = %#v, %q, %d", buf, other, behind, got)
		}
		asWanted(t, buf, want, rest, code)
	}
}

// TestTokensCallAgain: what was read half-way leaves nothing for the next call, also when many are under way.
func TestTokensCallAgain(t *testing.T) {
	line := "a1 \"b \\\"c\" {3}\r\nx\ry\r\n"
	want := []impl.Token{atomOf("a1"), textOf("b \"c"), textOf("x\ry")}
	var group sync.WaitGroup
	for worker := range 8 {
		group.Go(func() {
			for i := range 200 {
				cut := (i + worker) % len(line)
				if list, rest, code := impl.ReadTokens(line[:cut]); len(list) > 0 || rest != line[:cut] || code != impl.WireMore {
					t.Errorf("ReadTokens(%q) = %#v, %q, %d", line[:cut], list, rest, code)
				}
				if _, _, code := impl.ReadTokens(" " + line); code != impl.WireBad {
					t.Errorf("a blank ahead: %d", code)
				}
				if list, rest, code := impl.ReadTokens(line + "more"); !slices.Equal(list, want) || rest != "more" || code != 0 {
					t.Errorf("ReadTokens = %#v, %q, %d", list, rest, code)
				}
				if text := impl.TokenText(want[2]); text != "{3}\r\nx\ry" {
					t.Errorf("TokenText = %q", text)
				}
			}
		})
	}
	group.Wait()
}
