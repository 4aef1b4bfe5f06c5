package impl

import (
	"strconv"
	"strings"
)

const (
	MaxText   = 20000
	MaxNumber = 1000000000
	MaxWords  = 600
	MaxParts  = 10
)

const (
	maxVarBytes = 5  // MaxNumber has 30 bits: five bytes of seven bits hold it
	maxFigures  = 10 // MaxNumber has as many: what is longer is never added up
	hexFigures  = "0123456789abcdef"
)

func VarText(n int) (string, bool) {
	if n < 0 || n > MaxNumber {
		return "", false
	}
	out := make([]byte, 0, maxVarBytes)
	for n > 127 {
		out = append(out, byte(n%128)+128)
		n /= 128
	}
	return string(append(out, byte(n))), true
}

func ReadVar(text string, at int) (int, int, bool) {
	if at < 0 || at > len(text) {
		return 0, 0, false
	}
	n := 0
	for i := 0; i < maxVarBytes && at+i < len(text); i++ {
		c := text[at+i]
		n += int(c%128) << (7 * i)
		if c > 127 {
			continue
		}
		// A last byte 0 adds nothing to what came ahead of it: VarText writes that number shorter.
		if c == 0 && i > 0 || n > MaxNumber {
			return 0, 0, false
		}
		return n, at + i + 1, true
	}
	return 0, 0, false
}

func ShortText(s string) (string, bool) {
	if len(s) > MaxText {
		return "", false
	}
	head, ok := VarText(len(s))
	return head + s, ok
}

func ReadShort(text string, at int) (string, int, bool) {
	size, from, ok := ReadVar(text, at)
	if !ok || size > MaxText || size > len(text)-from {
		return "", 0, false
	}
	// A piece of text would share its memory.
	return strings.Clone(text[from : from+size]), from + size, true
}

func Hex(text string) (string, bool) {
	if len(text) > MaxText {
		return "", false
	}
	figures := make([]byte, 0, 2*len(text))
	for i := range len(text) {
		c := text[i]
		figures = append(figures, hexFigures[c/16], hexFigures[c%16])
	}
	return string(figures), true
}

func Unhex(text string) (string, bool) {
	if len(text) > 2*MaxText || len(text)%2 != 0 {
		return "", false
	}
	halves, ok := figureValues(text, true)
	if !ok {
		return "", false
	}
	out := make([]byte, 0, len(text)/2)
	for i := 0; i < len(halves); i += 2 {
		out = append(out, halves[i]*16+halves[i+1])
	}
	return string(out), true
}

func Decimal(n int) string {
	return strconv.Itoa(n)
}

func ReadDecimal(text string) (int, bool) {
	if text == "" || len(text) > maxFigures {
		return 0, false
	}
	if text[0] == '0' && text != "0" {
		return 0, false
	}
	values, ok := figureValues(text, false)
	if !ok {
		return 0, false
	}
	n := 0
	for _, v := range values {
		n = 10*n + int(v)
	}
	if n > MaxNumber {
		return 0, false
	}
	return n, true
}

// figureValues serves both kinds of figures; those of Hex alone have letters among them.
func figureValues(text string, letters bool) ([]byte, bool) {
	values := make([]byte, 0, len(text))
figures:
	for i := range len(text) {
		switch c := text[i]; {
		case c >= '0' && c <= '9':
			values = append(values, c-'0')
		case letters && c >= 'a' && c <= 'f':
			values = append(values, c-'a'+10)
		default:
			break figures
		}
	}
	return values, len(values) == len(text)
}

func PartsOf(line string) ([]string, bool) {
	if len(line) > MaxWords || !plainBytes(line) {
		return nil, false
	}
	// Of the bytes that Fields parts at only the blank is plain. Its parts are pieces of what it is given: of a copy.
	parts := strings.Fields(strings.Clone(line))
	if len(parts) > MaxParts {
		return nil, false
	}
	return parts, true
}

func plainBytes(line string) bool {
	for i := range len(line) {
		if line[i] < 32 || line[i] > 126 {
			return false
		}
	}
	return true
}
