package impl

import (
	"strconv"
	"strings"
)

const (
	MaxText   = 20000
	MaxNumber = 1000000000
	MaxWords  = 600
	MaxParts  = 12
)

const figures = "0123456789abcdef"

const (
	blank     = 32
	leastSign = 32
	mostSign  = 126
)

func Hex(text string) (string, bool) {
	if len(text) > MaxText {
		return "", false
	}
	out := make([]byte, 0, 2*len(text))
	for i := 0; i < len(text); i++ {
		out = append(out, figures[text[i]>>4], figures[text[i]&15])
	}
	return string(out), true
}

func Unhex(text string) (string, bool) {
	if len(text) > 2*MaxText || len(text)%2 != 0 {
		return "", false
	}
	out := make([]byte, 0, len(text)/2)
	for i := 0; i < len(text); i += 2 {
		high := strings.IndexByte(figures, text[i])
		low := strings.IndexByte(figures, text[i+1])
		if high < 0 || low < 0 {
			return "", false
		}
		out = append(out, byte(16*high+low))
	}
	return string(out), true
}

func Decimal(n int) string { return strconv.Itoa(n) }

func ReadDecimal(text string) (int, bool) {
	n, err := strconv.Atoi(text)
	if err != nil || n < 0 || n > MaxNumber {
		return 0, false
	}
	// Atoi also reads needless noughts and signs, which Decimal does not write.
	if Decimal(n) != text {
		return 0, false
	}
	return n, true
}

func PartsOf(line string) ([]string, bool) {
	if len(line) > MaxWords {
		return []string{}, false
	}
	parts, ok := splitAtBlanks(line)
	if !ok || len(parts) > MaxParts {
		return []string{}, false
	}
	return parts, true
}

func splitAtBlanks(line string) ([]string, bool) {
	parts := []string{}
	part := []byte{}
	ok := true
lineBytes:
	for i := 0; i < len(line); i++ {
		b := line[i]
		switch {
		case b < leastSign || b > mostSign:
			ok = false
			break lineBytes
		case b != blank:
			part = append(part, b)
		case len(part) > 0:
			parts = append(parts, string(part))
			part = part[:0]
		}
	}
	// The last part has no blank behind it that would have ended it.
	if len(part) > 0 {
		parts = append(parts, string(part))
	}
	return parts, ok
}

// Least is asked last, so that it holds where most is below it.
func Brought(n int, least int, most int) int { return max(least, min(n, most)) }
