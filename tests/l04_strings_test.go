package tests

import (
	"encoding/json"
	"fmt"
	"regexp"
	"strconv"
	"strings"
	"testing"
	"unicode/utf16"
	"unicode/utf8"

	"loop.example/g00964/impl"
)

// The chapter's words, written another way, to hold the program against.
var (
	quotedForm  = regexp.MustCompile(`\A"(?:[^"\\\x00-\x08\x0a-\x1f]|\\["\\/btnfr]|\\u[dD][89abAB][[:xdigit:]]{2}\\u[dD][c-fC-F][[:xdigit:]]{2}|\\u(?:[0-9abcefABCEF][[:xdigit:]]{3}|[dD][0-7][[:xdigit:]]{2})|\\u\{[[:xdigit:]]{1,6}\})*"\z`)
	escapeForm  = regexp.MustCompile(`\\u[dD][89abAB][[:xdigit:]]{2}\\u[[:xdigit:]]{4}|\\u\{[[:xdigit:]]+\}|\\u[[:xdigit:]]{4}|\\.`)
	closedForm  = regexp.MustCompile(`\A"(?:[^"\\\r\n]|\\[^\r\n])*"`)
	shortByForm = map[string]string{`\"`: `"`, `\\`: `\`, `\/`: `/`, `\b`: "\x08", `\t`: "\x09", `\n`: "\x0a", `\f`: "\x0c", `\r`: "\x0d"}
)

func hexOf(figures string) int {
	n, err := strconv.ParseInt(figures, 16, 64)
	if err != nil {
		return -1
	}
	return int(n)
}

func escapeOracle(escape string) (string, bool) {
	if told, ok := shortByForm[escape]; ok {
		return told, true
	}
	n := -1
	switch {
	case strings.HasPrefix(escape, `\u{`):
		n = hexOf(escape[3 : len(escape)-1])
	case len(escape) == 12:
		n = int(utf16.DecodeRune(rune(hexOf(escape[2:6])), rune(hexOf(escape[8:12]))))
	default:
		n = hexOf(escape[2:6])
	}
	return scalarBytes(n), scalarBytes(n) != ""
}

func unescapedOracle(s string) (string, bool) {
	if len(s) > 1300 || !utf8.ValidString(s) || !quotedForm.MatchString(s) {
		return "", false
	}
	ok := true
	told := escapeForm.ReplaceAllStringFunc(s[1:len(s)-1], func(escape string) string {
		sign, good := escapeOracle(escape)
		ok = ok && good
		return sign
	})
	if !ok || len(told) > 200 {
		return "", false
	}
	return told, true
}

func escapedOracle(s string) string {
	if len(s) > 200 || !utf8.ValidString(s) {
		return ""
	}
	told := `"`
	for _, sign := range s {
		told += escapedSign(int(sign))
	}
	return told + `"`
}

func escapedSign(n int) string {
	letters := map[int]string{8: `\b`, 9: `\t`, 10: `\n`, 12: `\f`, 13: `\r`, 34: `\"`, 92: `\\`}
	if told, ok := letters[n]; ok {
		return told
	}
	if n < 32 || n == 127 {
		return fmt.Sprintf(`\u%04x`, n)
	}
	return scalarBytes(n)
}

func stringEndOracle(s string, at int) int {
	if at < 0 || at >= len(s) {
		return -1
	}
	closed := -1
	// Bytes are told as scalars of one sign each, since the form goes by scalars.
	signs := make([]rune, 0, len(s))
	for _, b := range []byte(s[at:]) {
		signs = append(signs, rune(b))
	}
	if found := closedForm.FindString(string(signs)); found != "" {
		closed = at + utf8.RuneCountInString(found)
	}
	return closed
}

func wantUnescaped(t *testing.T, s string, want string) {
	t.Helper()
	if got, ok := impl.Unescaped(s); !ok || got != want {
		t.Errorf("Unescaped(%q): %q, %v, want %q", s, got, ok, want)
	}
}

func wantNoText(t *testing.T, s string) {
	t.Helper()
	if got, ok := impl.Unescaped(s); ok || got != "" {
		t.Errorf("Unescaped(%q): %q, %v, want false", s, got, ok)
	}
}

func wantAsOracle(t *testing.T, s string) {
	t.Helper()
	want, wantOk := unescapedOracle(s)
	if got, ok := impl.Unescaped(s); got != want || ok != wantOk {
		t.Errorf("Unescaped(%q): %q, %v, want %q, %v", s, got, ok, want, wantOk)
	}
}

func wantEnd(t *testing.T, s string, at int, want int) {
	t.Helper()
	if got := impl.StringEnd(s, at); got != want {
		t.Errorf("StringEnd(%q, %d): %d, want %d", s, at, got, want)
	}
}

// Every text of these signs that has no more of them than most.
func eachText(signs []string, most int, see func(string)) {
	var grow func(string, int)
	grow = func(text string, left int) {
		see(text)
		if left == 0 {
			return
		}
		for _, sign := range signs {
			grow(text+sign, left-1)
		}
	}
	grow("", most)
}

func TestStringsLimit(t *testing.T) {
	if impl.MaxString != 200 {
		t.Errorf("MaxString is %d", impl.MaxString)
	}
}

func TestEscapedTexts(t *testing.T) {
	for s, want := range map[string]string{
		"":                         `""`,
		"a":                        `"a"`,
		"two words":                `"two words"`,
		`"`:                        `"\""`,
		`\`:                        `"\\"`,
		`\"`:                       `"\\\""`,
		`say "so"`:                 `"say \"so\""`,
		`\u0041`:                   `"\\u0041"`,
		`a/b`:                      `"a/b"`,
		"\x08\x09\x0a\x0c\x0d":     `"\b\t\n\f\r"`,
		"\x00\x01\x07\x0b\x0e":     `"\u0000\u0001\u0007\u000b\u000e"`,
		"\x1a\x1f\x7f":             `"\u001a\u001f\u007f"`,
		" ~":                       `" ~"`,
		"\x7e\x7f\xc2\x80":         "\"~\\u007f\xc2\x80\"",
		"é€😀":                      `"é€😀"`,
		"\xef\xbf\xbd":             "\"\xef\xbf\xbd\"",
		"\xe2\x80\xa8\xe2\x80\xa9": "\"\xe2\x80\xa8\xe2\x80\xa9\"",
		"<>&'`$@{}":                "\"<>&'`$@{}\"",
		"\xf4\x8f\xbf\xbf":         "\"\xf4\x8f\xbf\xbf\"",
	} {
		if got := impl.Escaped(s); got != want {
			t.Errorf("Escaped(%q): %q, want %q", s, got, want)
		}
	}
}

func TestEscapedAndBackOfEveryScalar(t *testing.T) {
	for n := 0; n <= impl.MaxRune; n++ {
		s := scalarBytes(n)
		if s == "" {
			continue
		}
		want := `"` + escapedSign(n) + `"`
		if got := impl.Escaped(s); got != want {
			t.Fatalf("Escaped of the scalar %d: %q, want %q", n, got, want)
		}
		if got, ok := impl.Unescaped(want); !ok || got != s {
			t.Fatalf("Unescaped(%q): %q, %v, want %q", want, got, ok, s)
		}
	}
}

func TestEscapedScalarsBesideOthers(t *testing.T) {
	for n := range 300 {
		s := "a" + scalarBytes(n) + "\\" + scalarBytes(n) + scalarBytes(n) + "é"
		want := `"a` + escapedSign(n) + `\\` + escapedSign(n) + escapedSign(n) + `é"`
		if got := impl.Escaped(s); got != want {
			t.Errorf("Escaped(%q): %q, want %q", s, got, want)
		}
		wantUnescaped(t, want, s)
	}
}

func TestEscapedAtTheLimit(t *testing.T) {
	for _, sign := range []string{"a", "\"", "\\", "\n", "\x00", "\x7f", "é", "€", "😀"} {
		for many := 0; many <= 210; many++ {
			s := strings.Repeat(sign, many)
			got, want := impl.Escaped(s), escapedOracle(s)
			if got != want || (got == "") != (len(s) > 200) {
				t.Errorf("Escaped of %d times %q: %q", many, sign, got)
			}
		}
	}
	full := strings.Repeat("€", 66)
	for s, fits := range map[string]bool{full: true, full + "aa": true, full + "aaa": false, full + "é": true, full + "€": false, full + "aé": false} {
		if got := impl.Escaped(s); (got != "") != fits {
			t.Errorf("Escaped of %d bytes: %q", len(s), got)
		}
	}
	for _, many := range []int{256, 256 + 3, 1300, 65536, 65536 + 3, 200000} {
		if got := impl.Escaped(strings.Repeat("a", many)); got != "" {
			t.Errorf("Escaped of %d bytes is not empty", many)
		}
	}
}

func TestEscapedOfNoText(t *testing.T) {
	for _, wrong := range wrongTexts {
		for _, s := range []string{wrong, "a" + wrong, wrong + "a", "é" + wrong + "\n", "\"" + wrong + "\"", strings.Repeat("a", 190) + wrong, wrong + strings.Repeat("a", 300)} {
			if got := impl.Escaped(s); got != "" {
				t.Errorf("Escaped(%q): %q", s, got)
			}
		}
	}
}

func TestTextsComeBack(t *testing.T) {
	signs := []string{"a", "\"", "\\", "/", "n", "u", "{", "\n", "\t", "\x00", "\x7f", "é", "😀"}
	eachText(signs, 4, func(s string) {
		told := impl.Escaped(s)
		if told != escapedOracle(s) {
			t.Errorf("Escaped(%q): %q", s, told)
		}
		wantUnescaped(t, told, s)
		wantEnd(t, told, 0, len(told))
		wantEnd(t, "\\"+told+"\"", 1, len(told)+1)
	})
}

func TestLongTextsComeBack(t *testing.T) {
	for _, sign := range []string{"a", "\"", "\\", "/", "\b", "\t", "\n", "\f", "\r", "\x00", "\x1f", "\x7f", "é", "€", "😀"} {
		for _, bytes := range []int{1, 2, 100, 199, 200} {
			s := strings.Repeat(sign, bytes/len(sign))
			s += strings.Repeat("b", bytes-len(s))
			told := impl.Escaped(s)
			wantUnescaped(t, told, s)
			wantEnd(t, told, 0, len(told))
		}
	}
	if told := impl.Escaped(strings.Repeat("\x00", 200)); len(told) != 1202 {
		t.Errorf("the longest Escaped has %d bytes", len(told))
	}
}

func TestTextsInQuotes(t *testing.T) {
	for s, want := range map[string]string{
		`""`:                             "",
		`"a"`:                            "a",
		`"two words"`:                    "two words",
		`"é€😀"`:                          "é€😀",
		`"\""`:                           `"`,
		`"\\"`:                           `\`,
		`"\/"`:                           "/",
		`"/"`:                            "/",
		`"\b"`:                           "\x08",
		`"\t"`:                           "\x09",
		`"\n"`:                           "\x0a",
		`"\f"`:                           "\x0c",
		`"\r"`:                           "\x0d",
		`"\"\\\/\b\t\n\f\r"`:             "\"\\/\x08\x09\x0a\x0c\x0d",
		`"\\n"`:                          `\n`,
		`"\\\n"`:                         "\\\n",
		`"\\\\"`:                         `\\`,
		`"\\u0041"`:                      `\u0041`,
		`"\\\u0041"`:                     `\A`,
		"\"\x09\"":                       "\x09",
		"\"a\x09b\\t\"":                  "a\x09b\x09",
		"\"\x7f\"":                       "\x7f",
		"\" !#[]~\"":                     " !#[]~",
		`"'"`:                            "'",
		`"\u0041"`:                       "A",
		`"\u0022\u005c"`:                 `"\`,
		`"\u005cn"`:                      `\n`,
		`"\u00e9\u20ac"`:                 "é€",
		`"\u00E9\u20AC"`:                 "é€",
		`"\uabcd\uABCD\uaBcD\uAbCd"`:     strings.Repeat("\uabcd", 4),
		`"\uefef\uEFEF\u0f0F"`:           "\uefef\uefef\u0f0f",
		`"\u0000"`:                       "\x00",
		`"\u00411"`:                      "A1",
		`"\u0041f"`:                      "Af",
		`"\ud83d\ude00"`:                 "😀",
		`"\uD83D\uDE00"`:                 "😀",
		`"\uD83d\udE00"`:                 "😀",
		`"a\ud83d\ude00b"`:               "a😀b",
		`"\ud83d\ude00\ud83d\ude01"`:     "😀😁",
		`"\ud800\udc00"`:                 "\U00010000",
		`"\udbff\udfff"`:                 "\U0010ffff",
		`"\ud800\udfff"`:                 "\U000103ff",
		`"\udbff\udc00"`:                 "\U0010fc00",
		`"\ud83d\ude00\u0041"`:           "😀A",
		`"\u{41}"`:                       "A",
		`"\u{0}"`:                        "\x00",
		`"\u{a}\u{A}"`:                   "\n\n",
		`"\u{41}41}"`:                    "A41}",
		`"\u{1f600}\u{1F600}\u{01f600}"`: "😀😀😀",
		`"\u{10ffff}\u{10FFFF}"`:         "\U0010ffff\U0010ffff",
		`"\u{000041}"`:                   "A",
		`"\u{00041}\u{0041}\u{041}"`:     "AAA",
		`"\u{000000}"`:                   "\x00",
		`"\u{d7ff}\u{e000}\u{00d7ff}"`:   "\ud7ff\ue000\ud7ff",
		`"\u{22}\u{5c}"`:                 `"\`,
		`"\u0041{41}"`:                   "A{41}",
		`"{}\u{7b}\u{7d}"`:               "{}{}",
		`"a\n\u00e9\ud83d\ude00\u{41}"`:  "a\né😀A",
		"\"\\u00e9\x09\xc3\xa9\\\"\xf0\x9f\x98\x80\"": "é\té\"😀",
	} {
		wantUnescaped(t, s, want)
		if oracle, ok := unescapedOracle(s); !ok || oracle != want {
			t.Errorf("the form has %q, %v for %q", oracle, ok, s)
		}
	}
}

func TestNoTextsInQuotes(t *testing.T) {
	for _, s := range []string{
		"", `"`, "a", "ab", `a"`, `"a`, `'a'`, ` "a"`, `"a" `, "\"a\"\n", `\"`, `"\`, `""a`, `a""`, `"a""`, "\n", "\x00",
		`"""`, `""""`, `"""a"""`, `"a"b"`, `""a"`, `"a"b`, `"a" "b"`,
		`"\"`, `"a\"`, `"\\\"`, `"\\\\\"`, `"\n\"`,
		`"\a"`, `"\v"`, `"\0"`, `"\x41"`, `"\'"`, `"\ "`, `"\e"`, `"\B"`, `"\T"`, `"\N"`, `"\F"`, `"\R"`, `"\U0041"`, `"\U00000041"`, `"\{41}"`, `"\q"`, `"\$"`, "\"\\\n\"", "\"\\\x09\"", `"\é"`, `"\😀"`,
		`"\u"`, `"\u0"`, `"\u00"`, `"\u004"`, `"\u004`, `"\u 041"`, `"\u004 1"`, `"\u+041"`, `"\u-041"`, `"\u0x41"`, `"\u0_41"`, `"\u_041"`, `"\u004\u0041"`, `"\u00\n"`, `"\u00\"`, `"\u004é"`, `"\u{41"`,
		`"\ud83d"`, `"\uD83D"`, `"\ud800"`, `"\udbff"`, `"a\ud83db"`, `"\ud83da"`, `"\ud83dabcdef"`, `"\ud83d\n"`, `"\ud83d\nabcd"`, `"\ud83d\\"`, `"\ud83d\\ude00"`, `"\ud83d\"`, `"\ud83dude00"`, `"\ud83d \ude00"`,
		`"\ud83d\u0041"`, `"\ud83d\ud83d"`, `"\ud83d\ud83d\ude00"`, `"\ud83d\ud7ff"`, `"\ud83d\udbff"`, `"\ud83d\ue000"`, `"\ud83d\uffff"`, `"\ud83d\u"`, `"\ud83d\ude"`, `"\ud83d\ude0"`, `"\ud83d\ude0g"`, `"\ud83d\Ude00"`, `"\ud83d\xde00"`, `"\ud83d/ude00"`,
		`"\ud83d\u{de00}"`, `"\u{d83d}\ude00"`, `"\u{d83d}\u{de00}"`, `"\ud83d\u{41}"`, `"\ud83d\u{1f600}"`, `"\ud83d{de00}"`,
		`"\ude00"`, `"\udc00"`, `"\udfff"`, `"\uDE00"`, `"\ude00\ud83d"`, `"\ude00\ude00"`, `"a\ude00"`, `"\ud83d\ude00\ude00"`, `"\ud83d\ude00\ud83d"`, `"\u0041\ude00"`,
		`"\u{}"`, `"\u{"`, `"\u}"`, `"\u{ }"`, `"\u{0000041}"`, `"\u{0000000}"`, `"\u{110000}"`, `"\u{ffffff}"`, `"\u{FFFFFF}"`, `"\u{1000000}"`, `"\u{100000041}"`, `"\u{10000000000000041}"`,
		`"\u{41"`, `"\u{41)"`, `"\u{41 }"`, `"\u{ 41}"`, `"\u{4 1}"`, `"\u{+41}"`, `"\u{-41}"`, `"\u{0x41}"`, `"\u{4_1}"`, `"\u{g}"`, `"\u{4g}"`, `"\u {41}"`, `"\u{{41}}"`, `"\u{41\u{42}"`, `"\u{é}"`, `"\u41}"`, `"\u(41)"`, `"\u[41]"`,
		`"\u{d800}"`, `"\u{dbff}"`, `"\u{dc00}"`, `"\u{dfff}"`, `"\u{00d800}"`, `"\u{00DFFF}"`, `"\u{0d83d}"`,
	} {
		wantNoText(t, s)
		if oracle, ok := unescapedOracle(s); ok {
			t.Errorf("the form has %q for %q", oracle, s)
		}
	}
}

func TestEveryByteInQuotes(t *testing.T) {
	for b := range 256 {
		sign := string([]byte{byte(b)})
		for _, s := range []string{
			`"` + sign + `"`, `"a` + sign + `b"`, `"\` + sign + `"`, `"a\` + sign + `b"`, `"\\` + sign + `"`, sign + `a"`, `"a` + sign, sign + `"a"`, `"a"` + sign,
			`"\` + sign + `0041"`, `"\u` + sign + `041"`, `"\u0` + sign + `41"`, `"\u00` + sign + `1"`, `"\u004` + sign + `"`, `"\u0041` + sign + `"`,
			`"\u{` + sign + `"`, `"\u{` + sign + `}"`, `"\u{4` + sign + `}"`, `"\u{00004` + sign + `}"`, `"\u{` + sign + `00041}"`, `"\u{41` + sign + `"`, `"\u` + sign + `41}"`, `"\u{000041` + sign + `}"`,
			`"\ud83d` + sign + `ude00"`, `"\ud83d\` + sign + `de00"`, `"\ud83d\u` + sign + `e00"`, `"\ud83d\ud` + sign + `00"`, `"\ud83d\ude` + sign + `0"`, `"\ud83d\ude0` + sign + `"`, `"\ud83d\ude00` + sign + `"`, `"\ud` + sign + `3d\ude00"`, `"\ud83` + sign + `\ude00"`,
			`"\ud83d` + sign + `"`, `"\ud83d\` + sign + `"`, `"` + sign + `ud83d\ude00"`,
		} {
			wantAsOracle(t, s)
		}
	}
}

func TestSignsBesideHexFigures(t *testing.T) {
	for _, sign := range []string{"/", ":", "@", "G", "`", "g"} {
		for at := range 4 {
			wantNoText(t, `"\u`+"0041"[:at]+sign+"0041"[at+1:]+`"`)
			wantNoText(t, `"\ud83d\u`+"de00"[:at]+sign+"de00"[at+1:]+`"`)
			wantNoText(t, `"\u`+"d83d"[:at]+sign+"d83d"[at+1:]+`\ude00"`)
		}
		for at := range 6 {
			wantNoText(t, `"\u{`+"000041"[:at]+sign+"000041"[at+1:]+`}"`)
		}
		wantNoText(t, `"\u{`+sign+`}"`)
	}
	for _, sign := range []string{"0", "9", "A", "F", "a", "f"} {
		wantUnescaped(t, `"\u000`+sign+`"`, scalarBytes(hexOf(sign)))
		wantUnescaped(t, `"\u`+sign+`000"`, scalarBytes(hexOf(sign)*4096))
		wantUnescaped(t, `"\u{`+sign+`}"`, scalarBytes(hexOf(sign)))
		wantUnescaped(t, `"\u{`+sign+sign+`}"`, scalarBytes(hexOf(sign)*17))
	}
}

func TestEveryNumberOfFourFigures(t *testing.T) {
	for n := range 65536 {
		for _, form := range []string{`"\u%04x"`, `"\u%04X"`, `"a\u%04xb"`} {
			s := fmt.Sprintf(form, n)
			sign := scalarBytes(n)
			want := strings.TrimSuffix(strings.TrimPrefix(fmt.Sprintf(form, 0), `"`), `"`)
			want = strings.Replace(want, `\u0000`, sign, 1)
			got, ok := impl.Unescaped(s)
			if ok != (sign != "") || ok && got != want || !ok && got != "" {
				t.Fatalf("Unescaped(%q): %q, %v", s, got, ok)
			}
		}
	}
}

func TestEveryPairOfHalves(t *testing.T) {
	for first := 55296; first <= 56319; first++ {
		for second := 56320; second <= 57343; second++ {
			s := `"\u` + strconv.FormatInt(int64(first), 16) + `\u` + strconv.FormatInt(int64(second), 16) + `"`
			want := scalarBytes(65536 + 1024*(first-55296) + second - 56320)
			if got, ok := impl.Unescaped(s); !ok || got != want {
				t.Fatalf("Unescaped(%q): %q, %v, want %q", s, got, ok, want)
			}
		}
	}
}

func TestNumbersThatMakeNoPair(t *testing.T) {
	edges := []int{0, 65, 55295, 55296, 55297, 56318, 56319, 56320, 56321, 57342, 57343, 57344, 65535}
	for _, first := range edges {
		for _, second := range edges {
			wantAsOracle(t, fmt.Sprintf(`"\u%04x\u%04X"`, first, second))
			wantAsOracle(t, fmt.Sprintf(`"\u{%x}\u%04X"`, first, second))
			wantAsOracle(t, fmt.Sprintf(`"\u%04x\u{%X}"`, first, second))
			for _, third := range edges {
				wantAsOracle(t, fmt.Sprintf(`"\u%04x\u%04x\u%04x"`, first, second, third))
			}
		}
	}
	for second := range 65536 {
		s := fmt.Sprintf(`"\ud83d\u%04x"`, second)
		if _, ok := impl.Unescaped(s); ok != (56320 <= second && second <= 57343) {
			t.Fatalf("Unescaped(%q): %v", s, ok)
		}
	}
}

func TestNumbersInBraces(t *testing.T) {
	for n := 0; n <= 0x110100; n++ {
		got, ok := impl.Unescaped(`"\u{` + strconv.FormatInt(int64(n), 16) + `}"`)
		if want := scalarBytes(n); got != want || ok != (want != "") {
			t.Fatalf("the number %d in braces: %q, %v", n, got, ok)
		}
	}
	for many := range 12 {
		for _, figure := range []string{"0", "1", "a", "F"} {
			wantAsOracle(t, `"\u{`+strings.Repeat(figure, many)+`}"`)
			wantAsOracle(t, `"\u{`+strings.Repeat("0", many)+figure+`}"`)
			wantAsOracle(t, `"\u{`+strings.Repeat(figure, many)+`"`)
		}
	}
}

func TestUnescapedAtTheLimits(t *testing.T) {
	// Signs told in several ways, and how many bytes each of them is.
	for sign, bytes := range map[string]int{"a": 1, `\n`: 1, `\"`: 1, `\\`: 1, `\u0041`: 1, `\u{41}`: 1, `\u{041}`: 1, "é": 2, `\u00e9`: 2, "€": 3, `\u20ac`: 3, "😀": 4, `\ud83d\ude00`: 4, `\u{1f600}`: 4} {
		for many := 0; many <= 220; many++ {
			s := `"` + strings.Repeat(sign, many) + `"`
			got, ok := impl.Unescaped(s)
			if ok != (many*bytes <= 200 && len(s) <= 1300) || ok && len(got) != many*bytes || !ok && got != "" {
				t.Errorf("%d times %q: %d bytes, %v", many, sign, len(got), ok)
			}
		}
	}
	full := strings.Repeat("a", 198)
	for rest, fits := range map[string]bool{"": true, "bb": true, "bbb": false, "é": true, "bé": false, `\u00e9`: true, "€": false, "😀": false, `\n\n`: true, `\n\n\n`: false} {
		if _, ok := impl.Unescaped(`"` + full + rest + `"`); ok != fits {
			t.Errorf("198 bytes and %q: %v", rest, ok)
		}
	}
}

func TestUnescapedOf1300Bytes(t *testing.T) {
	// 1300 bytes can hold no more than MaxString only as escapes with noughts in braces.
	for bytes, fits := range map[int]bool{1299: true, 1300: true, 1301: false, 1302: false} {
		s := `"` + strings.Repeat(`\u{000041}`, 129)
		s += strings.Repeat("a", bytes-len(s)-1) + `"`
		got, ok := impl.Unescaped(s)
		if len(s) != bytes || ok != fits || ok && got != strings.Repeat("A", 129)+strings.Repeat("a", bytes-1292) || !ok && got != "" {
			t.Errorf("a text in quotes of %d bytes: %q, %v", len(s), got, ok)
		}
	}
	for _, many := range []int{1300, 1301, 1302, 65536 + 4, 200000} {
		wantNoText(t, `"`+strings.Repeat("a", many-2)+`"`)
	}
}

func TestUnescapedOfNoText(t *testing.T) {
	for _, wrong := range wrongTexts {
		for _, s := range []string{wrong, `"` + wrong + `"`, `"a` + wrong + `"`, `"` + wrong + `a"`, `"\n` + wrong + `é"`, `"\` + wrong + `"`, wrong + `"a"`, `"a"` + wrong, `"\u00` + wrong + `"`, `"\u{4` + wrong + `}"`, `"\ud83d` + wrong + `"`} {
			wantNoText(t, s)
		}
	}
}

func TestEveryShortTextInQuotes(t *testing.T) {
	for _, signs := range [][]string{
		{`"`, `\`, "u", "{", "}", "4", "n", "\x0a"},
		{`\u`, `\`, "{", "}", "d83d", "de00", "0", "41", `"`},
		{`\ud83d`, `\ude00`, `\u`, "de00", "{", "}", "a", `\\`},
		{`"`, `\`, "/", "b", "r", "f", "t", "\t", "é"},
	} {
		eachText(signs, 5, func(s string) {
			wantAsOracle(t, s)
			wantAsOracle(t, `"`+s+`"`)
		})
	}
}

func TestUnescapedBesideTheLibrary(t *testing.T) {
	// The library's lists and names have the same escapes, but for braces, and take no byte 9.
	eachText([]string{`"`, `\`, "u", "00e9", `\ud83d`, `\ude00`, "n", "/", "\x7f", "\n"}, 5, func(inner string) {
		s := `"` + inner + `"`
		var want string
		wantOk := json.Unmarshal([]byte(s), &want) == nil
		if strings.Contains(want, "\ufffd") {
			// A half alone, which the library takes for another sign.
			want, wantOk = "", false
		}
		if got, ok := impl.Unescaped(s); ok != wantOk || got != want {
			t.Errorf("Unescaped(%q): %q, %v, want %q, %v", s, got, ok, want, wantOk)
		}
	})
}

func TestStringEnds(t *testing.T) {
	for _, c := range []struct {
		s    string
		at   int
		want int
	}{
		{`""`, 0, 2}, {`"a"`, 0, 3}, {`"a"b`, 0, 3}, {`"a\"b"c`, 0, 6}, {`"é"`, 0, 4}, {`"""`, 0, 2}, {`"a""b"`, 0, 3}, {`"a""b"`, 2, 4}, {`"a""b"`, 3, 6},
		{`x"a"`, 1, 4}, {`x"a" y`, 1, 4}, {`x"a"`, 0, -1}, {`x"a"`, 2, -1}, {`x"a"`, 3, -1}, {`"a"`, 2, -1}, {`"a"`, 1, -1},
		{`"a"`, -1, -1}, {`"a"`, 3, -1}, {`"a"`, 4, -1}, {`"a"`, -3, -1}, {`"a"`, 1 << 40, -1}, {`"a"`, -1 << 63, -1}, {`"a"`, 1<<63 - 1, -1},
		{"", 0, -1}, {"", -1, -1}, {"", 1, -1}, {`"`, 0, -1}, {`"`, 1, -1}, {`""`, 1, -1}, {"a", 0, -1}, {`\`, 0, -1}, {"'a'", 0, -1},
		{`"a`, 0, -1}, {`"a\"`, 0, -1}, {`"\"`, 0, -1}, {`"\`, 0, -1}, {`"\\`, 0, -1},
		{`"a"b"`, 0, 3}, {`"a\"b"`, 0, 6}, {`"a\\"b"`, 0, 5}, {`"a\\\"b"`, 0, 8}, {`"a\\\\"b"`, 0, 7}, {`"a\\\\\"b"`, 0, 10},
		{`"\"b"`, 0, 5}, {`"\\"b"`, 0, 4}, {`"\\\"b"`, 0, 7}, {`"\\\"`, 0, -1}, {`"\\\\"`, 0, 6},
		{`"\n"`, 0, 4}, {`"\\n"`, 0, 5}, {`"\n\"b"`, 0, 7}, {`"\a\\"b"`, 0, 6}, {`"\a\"b"`, 0, 7}, {`"\\a\"b"`, 0, 8}, {`"\\a"b"`, 0, 5}, {`"\q"`, 0, 4}, {`"\u{"`, 0, 5}, {`"\ud83d"`, 0, 8},
		{`\"a"`, 1, 4}, {`\""`, 1, 3}, {`\\"a"`, 2, 5}, {`\"\"a"`, 1, 6}, {`\"\\"a"`, 1, 5}, {`\\\"a"`, 3, 6}, {`"\"a"`, 2, 5}, {`"\"`, 2, -1},
		{"\"a\nb\"", 0, -1}, {"\"a\rb\"", 0, -1}, {"\"\n\"", 0, -1}, {"\"\r\"", 0, -1}, {"\"\r\n\"", 0, -1}, {"\"a\n", 0, -1}, {"\"a\\\nb\"", 0, -1}, {"\"a\\\rb\"", 0, -1}, {"\"\\\\\n\"", 0, -1}, {"\"\\\"\n\"", 0, -1},
		{"\"a\"\n", 0, 3}, {"\"a\"\r", 0, 3}, {"\n\"a\"", 1, 4}, {"\r\"a\"\n\"", 1, 4}, {"\"\"\n", 0, 2}, {"\"\"\r", 0, 2}, {"\"\n\"a\"", 2, 5},
		{"\"\x00\x01\x09\x0b\x1f\"", 0, 7}, {"\"\x0b\x0c\x0e\"", 0, 5}, {"\"\x80\xff\"", 0, 4}, {"\"\xc3\"", 0, 3}, {"\xff\"\xe2\"\xff", 1, 4}, {"\"\x8a\x8d\"", 0, 4}, {"\"\xe2\x80\xa8\"", 0, 5}, {"\"\\\xff\"", 0, 4},
	} {
		wantEnd(t, c.s, c.at, c.want)
	}
}

func TestStringEndOfWrongTexts(t *testing.T) {
	for _, wrong := range wrongTexts {
		s := `"` + wrong + `"`
		wantEnd(t, s, 0, len(s))
		wantEnd(t, s+wrong, 0, len(s))
		wantEnd(t, wrong+s, len(wrong), len(wrong)+len(s))
		wantEnd(t, wrong+s, 0, -1)
		wantEnd(t, `"`+wrong, 0, -1)
	}
}

func TestEveryShortTextAndItsEnds(t *testing.T) {
	eachText([]string{`"`, `\`, "a", "\n", "\r", "\xc3"}, 6, func(s string) {
		for at := -2; at <= len(s)+2; at++ {
			if got, want := impl.StringEnd(s, at), stringEndOracle(s, at); got != want {
				t.Errorf("StringEnd(%q, %d): %d, want %d", s, at, got, want)
			}
		}
	})
	for b := range 256 {
		sign := string([]byte{byte(b)})
		for _, s := range []string{sign, sign + `a"`, `"` + sign, `"` + sign + `"`, `"\` + sign + `"`, `"\\` + sign + `"`, `"a"` + sign, `"` + sign + `\""`, `"\` + sign + `\""`} {
			for at := range len(s) {
				wantEnd(t, s, at, stringEndOracle(s, at))
			}
		}
	}
}

func TestStringEndAfterManyBackslashes(t *testing.T) {
	for many := range 300 {
		s := `"` + strings.Repeat(`\`, many) + `"` + `b"`
		want := many + 2
		if many%2 == 1 {
			want = many + 4
		}
		wantEnd(t, s, 0, want)
		wantEnd(t, strings.Repeat(`\`, many)+`"b"`, many, many+3)
	}
	wantEnd(t, `"`+strings.Repeat("a", 100000)+`"`, 0, 100002)
}
