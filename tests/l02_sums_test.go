package tests

import (
	"encoding/binary"
	"hash/crc32"
	"math/rand"
	"slices"
	"strings"
	"testing"

	"loop.example/g00324/impl"
)

// sumByWords goes the document's sentence step by step, without a table.
func sumByWords(sum uint32, text string) uint32 {
	for _, c := range []byte(text) {
		sum ^= uint32(c)
		for range 8 {
			odd := sum%2 == 1
			sum /= 2
			if odd {
				sum ^= 3558460437
			}
		}
	}
	return sum
}

// sealByWords seals a text of any length, so that it also makes what Sealed refuses to.
func sealByWords(text string) string {
	return text + string(binary.BigEndian.AppendUint32(nil, sumByWords(4294967295, text)))
}

func drawnText(r *rand.Rand, size int) string {
	b := make([]byte, size)
	for i := range b {
		b[i] = byte(r.Intn(256))
	}
	return string(b)
}

func sumStarts() []uint32 {
	return []uint32{0, 1, 2, 127, 128, 255, 256, 65535, 1 << 16, 1 << 31, 1<<31 - 1, 3558460437, 4294967294, 4294967295}
}

// sealedTexts: what is sealed, small enough to turn every byte of it.
func sealedTexts() []string {
	return []string{"", "\x00", "\x01", "\x80", "\xff", "\x00\x00\x00\x00", "\xff\xff\xff\xff", "abc", "mail", "\x00abc\x00", strings.Repeat("\x00", 20), everyByte()}
}

func refusesUnsealed(t *testing.T, text string) {
	t.Helper()
	if got, ok := impl.Unsealed(text); ok || got != "" {
		t.Errorf("Unsealed of %d bytes %.40q = %.40q, %v", len(text), text, got, ok)
	}
}

func TestSumOfNothing(t *testing.T) {
	if got := impl.SumOf(""); got != 4294967295 {
		t.Errorf("SumOf of nothing = %d", got)
	}
	for _, sum := range sumStarts() {
		if got := impl.SumMore(sum, ""); got != sum {
			t.Errorf("SumMore(%d, nothing) = %d", sum, got)
		}
	}
}

func TestSumMoreWritten(t *testing.T) {
	for _, c := range []struct {
		sum  uint32
		text string
		want uint32
	}{
		{0, "\x00", 0}, {0, "\x80", 3558460437}, {0, "\x40", 3558460437/2 ^ 3558460437},
		{0, "\x80\x00", sumByWords(3558460437, "\x00")}, {128, "\x80", 0}, {255, "\xff", 0}, {256, "\x00", 1}, {4294967295, "\xff", 16777215}, {1 << 31, "\x00", 1 << 23},
	} {
		if got := impl.SumMore(c.sum, c.text); got != c.want {
			t.Errorf("SumMore(%d, %q) = %d; want %d", c.sum, c.text, got, c.want)
		}
	}
}

func TestSumMoreEveryByte(t *testing.T) {
	for c := range 256 {
		text := string([]byte{byte(c)})
		for _, sum := range sumStarts() {
			if got, want := impl.SumMore(sum, text), sumByWords(sum, text); got != want {
				t.Errorf("SumMore(%d, %q) = %d; want %d", sum, text, got, want)
			}
		}
		if got, want := impl.SumOf(text), sumByWords(4294967295, text); got != want {
			t.Errorf("SumOf(%q) = %d; want %d", text, got, want)
		}
	}
}

// TestSumMoreEveryBit: each bit of a sum by itself, and with a byte.
func TestSumMoreEveryBit(t *testing.T) {
	for bit := range 32 {
		for _, text := range []string{"\x00", "\x01", "\x80", "\xff", "abc"} {
			sum := uint32(1) << bit
			if got, want := impl.SumMore(sum, text), sumByWords(sum, text); got != want {
				t.Errorf("SumMore(%d, %q) = %d; want %d", sum, text, got, want)
			}
		}
	}
}

func TestSumOfLongTexts(t *testing.T) {
	table := crc32.MakeTable(3558460437)
	r := rand.New(rand.NewSource(2))
	for _, size := range []int{2, 3, 4, 5, 100, impl.MaxText - 1, impl.MaxText, impl.MaxText + 1, 3 * impl.MaxText} {
		text := drawnText(r, size)
		want := ^crc32.Checksum([]byte(text), table) // the library turns every bit at the end
		if got := impl.SumOf(text); got != want || sumByWords(4294967295, text) != want {
			t.Errorf("SumOf of %d bytes = %d; want %d", size, got, want)
		}
		sum := r.Uint32()
		if got, want := impl.SumMore(sum, text), sumByWords(sum, text); got != want {
			t.Errorf("SumMore(%d, %d bytes) = %d; want %d", sum, size, got, want)
		}
	}
}

func TestSumGoesOn(t *testing.T) {
	r := rand.New(rand.NewSource(3))
	for _, text := range append(sealedTexts(), drawnText(r, 300)) {
		whole := impl.SumOf(text)
		for cut := range len(text) + 1 {
			if got := impl.SumMore(impl.SumOf(text[:cut]), text[cut:]); got != whole {
				t.Fatalf("%.20q cut at %d: %d; want %d", text, cut, got, whole)
			}
		}
		for _, sum := range sumStarts() {
			bytewise := sum
			for i := range len(text) {
				bytewise = impl.SumMore(bytewise, text[i:i+1])
			}
			if got := impl.SumMore(sum, text); got != bytewise {
				t.Fatalf("%.20q byte by byte from %d: %d; want %d", text, sum, bytewise, got)
			}
		}
	}
}

func TestSealedWritten(t *testing.T) {
	if got, ok := impl.Sealed(""); !ok || got != "\xff\xff\xff\xff" {
		t.Errorf("Sealed of nothing = %q, %v", got, ok)
	}
	if got, ok := impl.Sealed("\xff"); !ok || got != "\xff\x00\xff\xff\xff" {
		t.Errorf("Sealed of 255 = %q, %v", got, ok)
	}
	for _, text := range sealedTexts() {
		sum := sumByWords(4294967295, text)
		want := text + string([]byte{byte(sum >> 24), byte(sum >> 16), byte(sum >> 8), byte(sum)})
		if got, ok := impl.Sealed(text); !ok || got != want {
			t.Errorf("Sealed(%.20q) = %q, %v; want %q", text, got, ok, want)
		}
	}
}

func TestSealedComesBack(t *testing.T) {
	r := rand.New(rand.NewSource(4))
	texts := append(sealedTexts(), shortTexts()...)
	for _, size := range []int{1, 2, 3, 4, 5, 8, impl.MaxText - 1, impl.MaxText} {
		texts = append(texts, drawnText(r, size))
	}
	for _, text := range texts {
		sealed, ok := impl.Sealed(text)
		if !ok || sealed != sealByWords(text) {
			t.Fatalf("Sealed of %d bytes: %d bytes, %v", len(text), len(sealed), ok)
		}
		if got, ok := impl.Unsealed(sealed); !ok || got != text {
			t.Fatalf("Unsealed of %d bytes: %d bytes, %v", len(sealed), len(got), ok)
		}
	}
}

func TestSealedTwice(t *testing.T) {
	once, _ := impl.Sealed("abc")
	twice, ok := impl.Sealed(once)
	if !ok || len(twice) != 11 {
		t.Fatalf("sealed twice: %d bytes, %v", len(twice), ok)
	}
	if got, ok := impl.Unsealed(twice); !ok || got != once {
		t.Errorf("unsealed once: %q, %v", got, ok)
	}
}

func TestSealedLimits(t *testing.T) {
	for _, size := range []int{impl.MaxText + 1, impl.MaxText + 2, impl.MaxText + 4, impl.MaxText + 5, 3 * impl.MaxText} {
		text := strings.Repeat("x", size)
		if got, ok := impl.Sealed(text); ok || got != "" {
			t.Errorf("Sealed of %d bytes: %d bytes, %v", size, len(got), ok)
		}
		refusesUnsealed(t, sealByWords(text)) // its sum is right, but no Sealed is as long
	}
	longest := strings.Repeat("x", impl.MaxText)
	if got, ok := impl.Unsealed(sealByWords(longest)); !ok || got != longest {
		t.Errorf("Unsealed of MaxText + 4 bytes: %d bytes, %v", len(got), ok)
	}
}

func TestUnsealedShort(t *testing.T) {
	for _, text := range []string{"", "\x00", "\xff", "\xff\xff", "\xff\xff\xff", "abc", "\x00\x00\x00"} {
		refusesUnsealed(t, text)
	}
	for _, text := range []string{"\x00\x00\x00\x00", "\xff\xff\xff\xfe", "\xfe\xff\xff\xff", "\xff\xff\x7f\xff", "abcd"} {
		refusesUnsealed(t, text)
	}
	if got, ok := impl.Unsealed("\xff\xff\xff\xff"); !ok || got != "" {
		t.Errorf("Unsealed of the sum of nothing = %q, %v", got, ok)
	}
}

func TestUnsealedOneByteTurned(t *testing.T) {
	for _, text := range sealedTexts() {
		sealed := []byte(sealByWords(text))
		for at := range sealed {
			right := sealed[at]
			for c := range 256 {
				if byte(c) == right {
					continue
				}
				sealed[at] = byte(c)
				refusesUnsealed(t, string(sealed))
			}
			sealed[at] = right
		}
	}
}

func TestUnsealedLongOneByteTurned(t *testing.T) {
	r := rand.New(rand.NewSource(5))
	sealed := []byte(sealByWords(drawnText(r, impl.MaxText)))
	places := []int{0, 1, 2, 3, impl.MaxText - 2, impl.MaxText - 1, impl.MaxText, impl.MaxText + 1, impl.MaxText + 2, impl.MaxText + 3}
	for range 50 {
		places = append(places, r.Intn(len(sealed)))
	}
	for _, at := range places {
		for _, turn := range []byte{1, 16, 128, 255} {
			sealed[at] ^= turn
			refusesUnsealed(t, string(sealed))
			sealed[at] ^= turn
		}
	}
}

func TestUnsealedOtherLength(t *testing.T) {
	for _, text := range sealedTexts() {
		sealed := sealByWords(text)
		for cut := range len(sealed) {
			if left := sealed[:cut]; left != "\xff\xff\xff\xff" { // four bytes 255 seal nothing, whatever stood behind them
				refusesUnsealed(t, left)
			}
		}
	}
	for _, text := range []string{"abc", "mail", everyByte()} {
		sealed := sealByWords(text)
		for _, more := range []string{"\x00", "\x01", "\xff", " ", "\n"} {
			refusesUnsealed(t, sealed+more)
			refusesUnsealed(t, more+sealed)
		}
		refusesUnsealed(t, sealed[1:])
	}
}

func TestUnsealedOtherOrder(t *testing.T) {
	for _, text := range []string{"\x00", "a", "abc", "mail", everyByte()} {
		sealed := sealByWords(text)
		sum := sealed[len(text):]
		for _, order := range [][]int{{3, 2, 1, 0}, {1, 0, 2, 3}, {0, 2, 1, 3}, {0, 1, 3, 2}, {2, 3, 0, 1}, {1, 2, 3, 0}, {3, 0, 1, 2}} {
			var other []byte
			for _, i := range order {
				other = append(other, sum[i])
			}
			if string(other) != sum {
				refusesUnsealed(t, text+string(other))
			}
		}
		turned := []byte(text)
		slices.Reverse(turned)
		if string(turned) != text {
			refusesUnsealed(t, string(turned)+sum)
		}
		refusesUnsealed(t, sum+text)
	}
}

func TestSealedNewMemory(t *testing.T) {
	text := strings.Clone("mail")
	sealed, ok := impl.Sealed(text)
	if !ok || sharesMemory(text, sealed) {
		t.Error("Sealed shares its text")
	}
	if got, ok := impl.Unsealed(sealed); !ok || got != "mail" || sharesMemory(got, sealed) {
		t.Errorf("Unsealed: %q, %v, in its text: %v", got, ok, sharesMemory(got, sealed))
	}
}
