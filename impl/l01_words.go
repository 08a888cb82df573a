package impl

import (
	"strconv"
	"strings"
)

const (
	MaxText   = 20000
	MaxNumber = 1000000000
	MaxWords  = 600
	MaxParts  = 10
)

const hexFigures = "0123456789abcdef"

// As many figures as MaxNumber has: a longer text is refused before its value is worked out, so that no value runs over.
const maxDecimalFigures = 10

func VarText(n int) (string, bool) {
	if n < 0 || n > MaxNumber {
		return "", false
	}
	out := []byte{}
	for n > 127 {
		out = append(out, byte(n%128+128))
		n /= 128
	}
	return string(append(out, byte(n))), true
}

func ReadVar(text string, at int) (int, int, bool) {
	if at < 0 || at > len(text) {
		return 0, 0, false
	}
	n, unit := 0, 1
	// A byte whose unit is above MaxNumber could only add nothing or too much.
	for i := at; i < len(text) && unit <= MaxNumber; i++ {
		b := int(text[i])
		n += b % 128 * unit
		unit *= 128
		if b > 127 {
			continue
		}
		longer := b == 0 && i > at
		if longer || n > MaxNumber {
			return 0, 0, false
		}
		return n, i + 1, true
	}
	return 0, 0, false
}

func ShortText(s string) (string, bool) {
	if len(s) > MaxText {
		return "", false
	}
	size, ok := VarText(len(s))
	return size + s, ok
}

func ReadShort(text string, at int) (string, int, bool) {
	size, begin, ok := ReadVar(text, at)
	if !ok || size > MaxText || size > len(text)-begin {
		return "", 0, false
	}
	end := begin + size
	return strings.Clone(text[begin:end]), end, true
}

func Hex(text string) (string, bool) {
	if len(text) > MaxText {
		return "", false
	}
	out := make([]byte, 0, 2*len(text))
	for i := 0; i < len(text); i++ {
		out = append(out, hexFigures[text[i]/16], hexFigures[text[i]%16])
	}
	return string(out), true
}

func Unhex(text string) (string, bool) {
	if len(text)%2 != 0 || len(text) > 2*MaxText {
		return "", false
	}
	worth, ok := figuresOf(text, 16)
	if !ok {
		return "", false
	}
	out := make([]byte, 0, len(text)/2)
	for i := 0; i < len(worth); i += 2 {
		out = append(out, byte(worth[i]*16+worth[i+1]))
	}
	return string(out), true
}

// figuresOf tells what each figure of a text is worth, and whether all its bytes are figures of the base (at most 16).
func figuresOf(text string, base int) ([]int, bool) {
	worth := make([]int, 0, len(text))
figures:
	for i := 0; i < len(text); i++ {
		for n := 0; n < base; n++ {
			if hexFigures[n] == text[i] {
				worth = append(worth, n)
				continue figures
			}
		}
		return nil, false
	}
	return worth, true
}

func Decimal(n int) string { return strconv.Itoa(n) }

func ReadDecimal(text string) (int, bool) {
	if text == "" || len(text) > maxDecimalFigures {
		return 0, false
	}
	needless := len(text) > 1 && text[0] == '0'
	worth, ok := figuresOf(text, 10)
	if needless || !ok {
		return 0, false
	}
	n := 0
	for _, figure := range worth {
		n = n*10 + figure
	}
	if n > MaxNumber {
		return 0, false
	}
	return n, true
}

func PartsOf(line string) ([]string, bool) {
	if len(line) > MaxWords || !plain(line) {
		return []string{}, false
	}
	// In a plain line the blank is the only byte that Fields parts at.
	parts := strings.Fields(line)
	if len(parts) > MaxParts {
		return []string{}, false
	}
	for i, part := range parts {
		parts[i] = strings.Clone(part)
	}
	return parts, true
}

// plain tells whether every byte of a line is in 32 .. 126.
func plain(line string) bool {
	for i := 0; i < len(line); i++ {
		if line[i] < 32 || line[i] > 126 {
			return false
		}
	}
	return true
}
