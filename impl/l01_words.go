package impl

import "strconv"

const (
	MaxText   = 20000
	MaxNumber = 1000000000
	MaxWords  = 600
	MaxParts  = 12
)

const hexFigures = "0123456789abcdef"

func Hex(text string) (string, bool) {
	if len(text) > MaxText {
		return "", false
	}
	figures := make([]byte, 0, 2*len(text))
	for i := range len(text) {
		figures = append(figures, hexFigures[text[i]>>4], hexFigures[text[i]&15])
	}
	return string(figures), true
}

func Unhex(text string) (string, bool) {
	if len(text) > 2*MaxText || len(text)%2 != 0 {
		return "", false
	}
	told := make([]byte, 0, len(text)/2)
	for i := 0; i < len(text); i += 2 {
		high, highOk := hexFigure(text[i])
		low, lowOk := hexFigure(text[i+1])
		if !highOk || !lowOk {
			return "", false
		}
		told = append(told, high<<4|low)
	}
	return string(told), true
}

// Large figures are none: Hex never writes them.
func hexFigure(sign byte) (byte, bool) {
	switch {
	case '0' <= sign && sign <= '9':
		return sign - '0', true
	case 'a' <= sign && sign <= 'f':
		return sign - 'a' + 10, true
	}
	return 0, false
}

func Decimal(n int) string {
	return strconv.Itoa(n)
}

func ReadDecimal(text string) (int, bool) {
	n, err := strconv.Atoi(text)
	if err != nil || n < 0 || n > MaxNumber {
		return 0, false
	}
	// Atoi takes needless noughts and signs ahead, which Decimal never writes.
	if Decimal(n) != text {
		return 0, false
	}
	return n, true
}

func PartsOf(line string) ([]string, bool) {
	if len(line) > MaxWords {
		return []string{}, false
	}
	parts := []string{}
	part := []byte{}
	allowed := true
signs:
	for i := range len(line) {
		switch sign := line[i]; {
		case sign < ' ' || sign > '~':
			allowed = false
			break signs
		case sign == ' ':
			parts = withPart(parts, part)
			part = part[:0]
		default:
			part = append(part, sign)
		}
	}
	parts = withPart(parts, part)
	if !allowed || len(parts) > MaxParts {
		return []string{}, false
	}
	return parts, true
}

// Blanks that follow one another have nothing between them, which is no part.
func withPart(parts []string, part []byte) []string {
	if len(part) == 0 {
		return parts
	}
	return append(parts, string(part))
}

func Brought(n int, least int, most int) int {
	if n < least || most < least {
		return least
	}
	if n > most {
		return most
	}
	return n
}
