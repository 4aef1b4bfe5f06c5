package tests

import (
	"encoding/binary"
	"fmt"
	"math"
	"slices"
	"strings"
	"testing"
	"unsafe"

	"loop.example/g00324/impl"
)

// numbersOfWords: each length of a number with its borders, and steps between that hit every byte of it.
func numbersOfWords() []int {
	list := []int{0, 1, 2, 9, 10, 99, 100, impl.MaxNumber - 1, impl.MaxNumber}
	for n := 128; n <= impl.MaxNumber; n *= 2 {
		list = append(list, n-1, n, n+1)
	}
	for n := 0; n < 40000; n++ {
		list = append(list, n)
	}
	for n := 0; n <= impl.MaxNumber; n += 99991 {
		list = append(list, n)
	}
	return list
}

// varOf writes a number of any size, so that it also makes what VarText refuses to.
func varOf(n uint64) string {
	return string(binary.AppendUvarint(nil, n))
}

func wrongNumbers() []int {
	return []int{-1, -2, -128, -impl.MaxNumber, impl.MaxNumber + 1, impl.MaxNumber + 2, 1 << 30, 1 << 31, 1 << 32, math.MaxInt, math.MinInt}
}

func wrongPlaces(text string) []int {
	return []int{-1, -2, -len(text) - 1, len(text) + 1, len(text) + 2, math.MinInt, math.MaxInt}
}

func everyByte() string {
	var b strings.Builder
	for i := 0; i < 256; i++ {
		b.WriteByte(byte(i))
	}
	return b.String()
}

// sharesMemory tells whether a piece of one text lies within the other.
func sharesMemory(a, b string) bool {
	if a == "" || b == "" {
		return false
	}
	from, to := uintptr(unsafe.Pointer(unsafe.StringData(a))), uintptr(unsafe.Pointer(unsafe.StringData(b)))
	return from < to+uintptr(len(b)) && to < from+uintptr(len(a))
}

func TestVarTextWritten(t *testing.T) {
	for _, c := range []struct {
		n    int
		want string
	}{
		{0, "\x00"}, {1, "\x01"}, {127, "\x7f"}, {128, "\x80\x01"}, {129, "\x81\x01"}, {255, "\xff\x01"}, {300, "\xac\x02"},
		{16383, "\xff\x7f"}, {16384, "\x80\x80\x01"}, {2097151, "\xff\xff\x7f"}, {2097152, "\x80\x80\x80\x01"},
		{268435455, "\xff\xff\xff\x7f"}, {268435456, "\x80\x80\x80\x80\x01"},
		{impl.MaxNumber - 1, "\xff\x93\xeb\xdc\x03"}, {impl.MaxNumber, "\x80\x94\xeb\xdc\x03"},
	} {
		if got, ok := impl.VarText(c.n); !ok || got != c.want {
			t.Errorf("VarText(%d) = %q, %v; want %q", c.n, got, ok, c.want)
		}
	}
	for _, n := range numbersOfWords() {
		if got, ok := impl.VarText(n); !ok || got != varOf(uint64(n)) {
			t.Fatalf("VarText(%d) = %q, %v", n, got, ok)
		}
	}
}

func TestVarTextRefused(t *testing.T) {
	for _, n := range wrongNumbers() {
		if got, ok := impl.VarText(n); ok || got != "" {
			t.Errorf("VarText(%d) = %q, %v", n, got, ok)
		}
	}
}

func TestVarTextReadBack(t *testing.T) {
	for _, n := range numbersOfWords() {
		s, _ := impl.VarText(n)
		for _, ahead := range []string{"", "\x80", "\xff\x00x"} {
			for _, behind := range []string{"", "\x00", "\xff\xff\xff\xff\xff\xff"} {
				got, at, ok := impl.ReadVar(ahead+s+behind, len(ahead))
				if !ok || got != n || at != len(ahead+s) {
					t.Fatalf("ReadVar(%q, %d) = %d, %d, %v; want %d", ahead+s+behind, len(ahead), got, at, ok, n)
				}
			}
		}
	}
}

func TestReadVarRefused(t *testing.T) {
	texts := []string{"", "\x80", "\xff", "\x80\x80", "\x80\x80\x80", "\x80\x80\x80\x80", "\x80\x94\xeb\xdc", "\x80\x80\x80\x80\x80", "\xff\xff\xff\xff\xff"}
	for _, n := range []int{0, 1, 127, 128, 300, 16384, impl.MaxNumber} { // longer forms of these
		s := varOf(uint64(n))
		for range 12 {
			s = s[:len(s)-1] + string([]byte{s[len(s)-1] | 128})
			texts = append(texts, s, s+"\x00")
			s += "\x00"
		}
	}
	for _, n := range []uint64{impl.MaxNumber + 1, impl.MaxNumber + 2, 1<<30 - 1, 1 << 30, 1<<35 - 1, 1 << 35, 1<<35 + 1, 1 << 62, 1<<63 - 1, 1 << 63, math.MaxUint64} {
		texts = append(texts, varOf(n))
	}
	// What would be a small number again, if bits were let fall off.
	texts = append(texts, "\x81\x80\x80\x80\x80\x80\x80\x80\x80\x02", "\x85\x80\x80\x80\x80\x80\x80\x80\x80\x80\x01", strings.Repeat("\x80", 50)+"\x01")
	for _, s := range texts {
		for _, ahead := range []string{"", "\x01", "ab"} {
			if n, at, ok := impl.ReadVar(ahead+s, len(ahead)); ok || n != 0 || at != 0 {
				t.Errorf("ReadVar(%q, %d) = %d, %d, %v", ahead+s, len(ahead), n, at, ok)
			}
		}
	}
}

// TestReadVarEveryText holds all short texts against what the numbers are that stand there.
func TestReadVarEveryText(t *testing.T) {
	lasts := []int{0, 1, 2, 63, 127, 128, 129, 255}
	for first := range 256 {
		for second := range 256 {
			for _, last := range lasts {
				text := string([]byte{byte(first), byte(second), byte(last)})
				wantN, wantAt, want := 0, 0, false
				for size := 1; size <= 3 && !want; size++ {
					n, got := binary.Uvarint([]byte(text[:size]))
					if got == size && varOf(n) == text[:size] {
						wantN, wantAt, want = int(n), size, true
					}
				}
				n, at, ok := impl.ReadVar(text, 0)
				if n != wantN || at != wantAt || ok != want {
					t.Fatalf("ReadVar(%q, 0) = %d, %d, %v; want %d, %d, %v", text, n, at, ok, wantN, wantAt, want)
				}
			}
		}
	}
}

func TestReadPlaces(t *testing.T) {
	for _, text := range []string{"", "\x00", "\x05\x05", "\x00\x00\x00", "abcdef"} {
		for _, at := range append(wrongPlaces(text), len(text)) {
			if n, behind, ok := impl.ReadVar(text, at); ok || n != 0 || behind != 0 {
				t.Errorf("ReadVar(%q, %d) = %d, %d, %v", text, at, n, behind, ok)
			}
			if s, behind, ok := impl.ReadShort(text, at); ok || s != "" || behind != 0 {
				t.Errorf("ReadShort(%q, %d) = %q, %d, %v", text, at, s, behind, ok)
			}
		}
	}
	if n, at, ok := impl.ReadVar("ab\x07", 2); !ok || n != 7 || at != 3 {
		t.Errorf("the last place: %d, %d, %v", n, at, ok)
	}
	if s, at, ok := impl.ReadShort("ab\x00", 2); !ok || s != "" || at != 3 {
		t.Errorf("the last place: %q, %d, %v", s, at, ok)
	}
}

func shortTexts() []string {
	return []string{"", "a", "\x00", "\x80", "mail", everyByte(), strings.Repeat("x", 127), strings.Repeat("y", 128), strings.Repeat("\xff", 16384),
		strings.Repeat("z", impl.MaxText-1), strings.Repeat("ab", impl.MaxText/2)}
}

func TestShortTextReadBack(t *testing.T) {
	for _, s := range shortTexts() {
		text, ok := impl.ShortText(s)
		if !ok || text != varOf(uint64(len(s)))+s {
			t.Fatalf("ShortText of %d bytes: %d bytes, %v", len(s), len(text), ok)
		}
		for _, ahead := range []string{"", "\xff\x01"} {
			for _, behind := range []string{"", "\x00", "more"} {
				got, at, ok := impl.ReadShort(ahead+text+behind, len(ahead))
				if !ok || got != s || at != len(ahead+text) {
					t.Fatalf("ReadShort of %d bytes: %d bytes, %d, %v", len(s), len(got), at, ok)
				}
			}
		}
	}
}

func TestShortTextRefused(t *testing.T) {
	for _, size := range []int{impl.MaxText + 1, impl.MaxText + 2, 3 * impl.MaxText} {
		if text, ok := impl.ShortText(strings.Repeat("x", size)); ok || text != "" {
			t.Errorf("ShortText of %d bytes: %d bytes, %v", size, len(text), ok)
		}
	}
}

func TestReadShortRefused(t *testing.T) {
	long := strings.Repeat("x", impl.MaxText+1)
	texts := []string{"", "\x01", "\x02a", "\x05mail", "\x80", "\x84", "\x84\x00mail", "\x80\x00", "\x80\x01" + strings.Repeat("y", 127),
		varOf(impl.MaxText+1) + long, varOf(impl.MaxText) + long[:impl.MaxText-1], varOf(impl.MaxNumber) + "x", varOf(impl.MaxNumber+1) + "x", varOf(math.MaxUint64) + "x"}
	for _, text := range texts {
		for _, ahead := range []string{"", "\x00"} {
			if s, at, ok := impl.ReadShort(ahead+text, len(ahead)); ok || s != "" || at != 0 {
				t.Errorf("ReadShort(%.20q.., %d) = %.20q, %d, %v", ahead+text, len(ahead), s, at, ok)
			}
		}
	}
}

func TestHexWritten(t *testing.T) {
	for text, want := range map[string]string{"": "", "\x00": "00", "\x0f": "0f", "\xf0": "f0", "\x9a": "9a", "\xff": "ff", "az 09": "617a203039", "\x01\x23\x45\x67\x89\xab\xcd\xef": "0123456789abcdef"} {
		if got, ok := impl.Hex(text); !ok || got != want {
			t.Errorf("Hex(%q) = %q, %v; want %q", text, got, ok, want)
		}
	}
	if got, ok := impl.Hex(everyByte()); !ok || got != fmt.Sprintf("%x", everyByte()) {
		t.Errorf("Hex of every byte = %q, %v", got, ok)
	}
	if got, ok := impl.Hex(strings.Repeat("x", impl.MaxText+1)); ok || got != "" {
		t.Errorf("Hex of a text that is too long: %d figures, %v", len(got), ok)
	}
}

func TestHexReadBack(t *testing.T) {
	for _, s := range shortTexts() {
		figures, ok := impl.Hex(s)
		if !ok || len(figures) != 2*len(s) {
			t.Fatalf("Hex of %d bytes: %d figures, %v", len(s), len(figures), ok)
		}
		if got, ok := impl.Unhex(figures); !ok || got != s {
			t.Fatalf("Unhex of %d figures: %d bytes, %v", len(figures), len(got), ok)
		}
	}
}

func TestUnhexRefused(t *testing.T) {
	texts := []string{"0", "f", "000", "abc", "A0", "0A", "FF", "0g", "g0", "0x", " 0", "0 ", "-1", "+1", "00\n", "0\x00", "\xff\xff", "éé",
		strings.Repeat("0", 2*impl.MaxText+1), strings.Repeat("0", 2*impl.MaxText+2), strings.Repeat("0", 2*impl.MaxText-1) + "G"}
	for _, text := range texts {
		if got, ok := impl.Unhex(text); ok || got != "" {
			t.Errorf("Unhex(%.20q) = %.20q, %v", text, got, ok)
		}
	}
}

// TestUnhexEveryPair: of two bytes of any kind only two figures are the Hex of something.
func TestUnhexEveryPair(t *testing.T) {
	const figures = "0123456789abcdef"
	for first := range 256 {
		for second := range 256 {
			high, low := strings.IndexByte(figures, byte(first)), strings.IndexByte(figures, byte(second))
			want := ""
			if high >= 0 && low >= 0 {
				want = string([]byte{byte(16*high + low)})
			}
			text := string([]byte{byte(first), byte(second)})
			if got, ok := impl.Unhex(text); got != want || ok != (want != "") {
				t.Fatalf("Unhex(%q) = %q, %v; want %q", text, got, ok, want)
			}
		}
	}
}

func TestDecimalWritten(t *testing.T) {
	for n, want := range map[int]string{0: "0", 5: "5", -5: "-5", 9: "9", 10: "10", -10: "-10", 100: "100", 120: "120", 1000000000: "1000000000", -1000000001: "-1000000001",
		math.MaxInt: "9223372036854775807", math.MinInt: "-9223372036854775808", math.MinInt + 1: "-9223372036854775807"} {
		if got := impl.Decimal(n); got != want {
			t.Errorf("Decimal(%d) = %q", n, got)
		}
	}
	for n := -2000; n <= 2000; n++ {
		if got := impl.Decimal(n); got != fmt.Sprint(n) {
			t.Fatalf("Decimal(%d) = %q", n, got)
		}
	}
}

func TestDecimalReadBack(t *testing.T) {
	for _, n := range numbersOfWords() {
		if got, ok := impl.ReadDecimal(impl.Decimal(n)); !ok || got != n {
			t.Fatalf("ReadDecimal(%q) = %d, %v", impl.Decimal(n), got, ok)
		}
	}
	if n, ok := impl.ReadDecimal("999999999"); !ok || n != 999999999 {
		t.Errorf("ReadDecimal of nines = %d, %v", n, ok)
	}
}

func TestReadDecimalRefused(t *testing.T) {
	texts := []string{"", "00", "000", "01", "007", "0000000001", "-0", "-1", "+1", "+0", " 1", "1 ", "1 2", "1\n", "1_000", "1.0", "1e3", "a", "f", "1f", "0x1", ":", "/", "1:", "/1", "\x00", "1\x00", "\xb1", "٣",
		"1000000001", "1000000010", "2000000000", "9999999999", "10000000000", "01000000000", "18446744073709551616", "18446744073709551621", "9223372036854775807", "-9223372036854775808", strings.Repeat("1", 1000), strings.Repeat("0", 1000)}
	for _, n := range wrongNumbers() {
		texts = append(texts, fmt.Sprint(n))
	}
	for _, text := range texts {
		if n, ok := impl.ReadDecimal(text); ok || n != 0 {
			t.Errorf("ReadDecimal(%.30q) = %d, %v", text, n, ok)
		}
	}
}

func TestReadDecimalEveryByte(t *testing.T) {
	for c := range 256 {
		want, right := 0, c >= '0' && c <= '9'
		if right {
			want = c - '0'
		}
		if n, ok := impl.ReadDecimal(string([]byte{byte(c)})); n != want || ok != right {
			t.Errorf("ReadDecimal of the byte %d = %d, %v", c, n, ok)
		}
		if right {
			want += 10
		}
		if n, ok := impl.ReadDecimal(string([]byte{'1', byte(c)})); n != want || ok != right {
			t.Errorf("ReadDecimal of 1 and the byte %d = %d, %v", c, n, ok)
		}
	}
}

func TestPartsOf(t *testing.T) {
	ten := []string{"a", "b", "c", "d", "e", "f", "g", "h", "i", "j"}
	for _, c := range []struct {
		line string
		want []string
	}{
		{"", nil}, {" ", nil}, {"   ", nil}, {strings.Repeat(" ", impl.MaxWords), nil},
		{"calm", []string{"calm"}}, {" tick  1 2 ", []string{"tick", "1", "2"}}, {"a b", []string{"a", "b"}}, {"a     b", []string{"a", "b"}}, {"  a", []string{"a"}}, {"a  ", []string{"a"}},
		{"b a b", []string{"b", "a", "b"}}, {"!~ ~!", []string{"!~", "~!"}}, {`"a (b) {3} \`, []string{`"a`, "(b)", "{3}", `\`}},
		{strings.Join(ten, " "), ten}, {"  " + strings.Join(ten, "   ") + "  ", ten},
		{strings.Repeat("x", impl.MaxWords), []string{strings.Repeat("x", impl.MaxWords)}},
		{strings.Repeat(" ", impl.MaxWords-1) + "x", []string{"x"}},
	} {
		if got, ok := impl.PartsOf(c.line); !ok || !slices.Equal(got, c.want) {
			t.Errorf("PartsOf(%.40q) = %q, %v; want %q", c.line, got, ok, c.want)
		}
	}
}

func TestPartsOfRefused(t *testing.T) {
	lines := []string{"a b c d e f g h i j k", "  a b c d e f g h i j  k  ", strings.Repeat("ab ", 100), strings.Repeat("x", impl.MaxWords+1), strings.Repeat(" ", impl.MaxWords+1), "x" + strings.Repeat(" ", impl.MaxWords),
		"a\tb", "\n", "a\n", "a\r\n", "\x00", "a \x1f", "\x7f", "a\x80b", "é", "a\u00a0b", strings.Repeat("x", impl.MaxWords-1) + "\n"}
	for _, line := range lines {
		if got, ok := impl.PartsOf(line); ok || len(got) != 0 {
			t.Errorf("PartsOf(%.40q) = %q, %v", line, got, ok)
		}
	}
}

func TestPartsOfEveryByte(t *testing.T) {
	for c := range 256 {
		sign := string([]byte{byte(c)})
		want, right := []string{"a" + sign + "b"}, c >= 32 && c <= 126
		switch {
		case !right:
			want = nil
		case c == 32:
			want = []string{"a", "b"}
		}
		if got, ok := impl.PartsOf("a" + sign + "b"); ok != right || !slices.Equal(got, want) {
			t.Errorf("PartsOf with the byte %d: %q, %v", c, got, ok)
		}
		if got, ok := impl.PartsOf(sign); ok != right || len(got) != 0 && got[0] != sign {
			t.Errorf("PartsOf of the byte %d: %q, %v", c, got, ok)
		}
	}
}

// TestWordsNewMemory: a caller that keeps an answer does not keep the whole text that it was read from.
func TestWordsNewMemory(t *testing.T) {
	line := strings.Clone("one two  three")
	parts, _ := impl.PartsOf(line)
	again, _ := impl.PartsOf(line)
	for _, p := range append(parts, again...) {
		if sharesMemory(p, line) {
			t.Errorf("part %q lies in its line", p)
		}
	}
	parts[0] = "changed"
	if again[0] != "one" {
		t.Error("two answers share one list")
	}
	text := strings.Clone("\x04mail\x00")
	if s, _, ok := impl.ReadShort(text, 0); !ok || s != "mail" || sharesMemory(s, text) {
		t.Errorf("ReadShort: %q, %v, in its text: %v", s, ok, sharesMemory(s, text))
	}
	s := strings.Clone("mail")
	if text, ok := impl.ShortText(s); !ok || sharesMemory(s, text) {
		t.Error("ShortText shares its text")
	}
}
