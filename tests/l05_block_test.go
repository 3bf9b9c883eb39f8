package tests

import (
	"math"
	"regexp"
	"slices"
	"strings"
	"testing"
	"unicode/utf8"

	"loop.example/g00964/impl"
)

// The chapter's words, written another way, to hold the program against.
var (
	lineEndForm   = regexp.MustCompile(`\r\n|\r|\n`)
	bareForm      = regexp.MustCompile(`\A[ \t]*\z`)
	bareAheadForm = regexp.MustCompile(`\A(?:[ \t]*\n)+`)
	bareAfterForm = regexp.MustCompile(`(?:\n[ \t]*)+\z`)
	barredForm    = regexp.MustCompile(`[\x00-\x08\x0b\x0c\x0e-\x1f]`)
)

func indentOracle(line string) int {
	many := 0
	for many < len(line) && strings.Contains(" \t", line[many:many+1]) {
		many++
	}
	return many
}

func mayMoveOut(lines []string) bool {
	some := false
	for _, line := range lines {
		if bareForm.MatchString(line) {
			continue
		}
		some = true
		if line[0] != ' ' && line[0] != '\t' {
			return false
		}
	}
	return some
}

// The lines are moved by one byte at a time, as long as each of them can be.
func blockValueOracle(raw string) string {
	lines := lineEndForm.Split(raw, -1)
	for mayMoveOut(lines[1:]) {
		for i := 1; i < len(lines); i++ {
			if lines[i] != "" {
				lines[i] = lines[i][1:]
			}
		}
	}
	value := strings.Join(lines, "\n")
	value = bareAheadForm.ReplaceAllString(value, "")
	value = bareAfterForm.ReplaceAllString(value, "")
	if bareForm.MatchString(value) {
		return ""
	}
	return value
}

func blockEndOracle(s string, at int) int {
	if at < 0 || at+3 > len(s) || at+3 < 0 || s[at:at+3] != `"""` {
		return -1
	}
	behind := strings.ReplaceAll(s[at+3:], `\"""`, "....")
	closing := strings.Index(behind, `"""`)
	if closing < 0 {
		return -1
	}
	return at + 3 + closing + 3
}

func blockTextOracle(s string) (string, bool) {
	if len(s) > 1000 || blockEndOracle(s, 0) != len(s) || !utf8.ValidString(s) || barredForm.MatchString(s) {
		return "", false
	}
	value := blockValueOracle(strings.Join(strings.Split(s[3:len(s)-3], `\"""`), `"""`))
	if len(value) > 200 {
		return "", false
	}
	return value, true
}

func wantLines(t *testing.T, s string, want ...string) {
	t.Helper()
	if got := impl.LinesIn(s); !slices.Equal(got, want) {
		t.Errorf("LinesIn(%q): %q, want %q", s, got, want)
	}
}

func wantValue(t *testing.T, raw string, want string) {
	t.Helper()
	if got := impl.BlockValue(raw); got != want {
		t.Errorf("BlockValue(%q): %q, want %q", raw, got, want)
	}
}

func wantBlockEnd(t *testing.T, s string, at int, want int) {
	t.Helper()
	if got := impl.BlockEnd(s, at); got != want {
		t.Errorf("BlockEnd(%q, %d): %d, want %d", s, at, got, want)
	}
}

func wantBlock(t *testing.T, s string, want string) {
	t.Helper()
	if got, ok := impl.BlockText(s); !ok || got != want {
		t.Errorf("BlockText(%q): %q, %v, want %q", s, got, ok, want)
	}
}

func wantNoBlock(t *testing.T, s string) {
	t.Helper()
	if got, ok := impl.BlockText(s); ok || got != "" {
		t.Errorf("BlockText(%q): %q, %v, want false", s, got, ok)
	}
}

func wantBlockAsOracle(t *testing.T, s string) {
	t.Helper()
	want, wantOk := blockTextOracle(s)
	if got, ok := impl.BlockText(s); got != want || ok != wantOk {
		t.Errorf("BlockText(%q): %q, %v, want %q, %v", s, got, ok, want, wantOk)
	}
}

func inBlock(raw string) string { return `"""` + raw + `"""` }

func TestBlockLimit(t *testing.T) {
	if impl.MaxBlock != 1000 {
		t.Errorf("MaxBlock is %d", impl.MaxBlock)
	}
}

func TestLinesOfTexts(t *testing.T) {
	wantLines(t, "", "")
	wantLines(t, "a", "a")
	wantLines(t, " a\tb ", " a\tb ")
	wantLines(t, "a\nb", "a", "b")
	wantLines(t, "a\r\nb\rc\nd", "a", "b", "c", "d")
	wantLines(t, "a\n\nb", "a", "", "b")
	wantLines(t, "é\r\n€\r😀", "é", "€", "😀")
	wantLines(t, "\xff\n\x80\r\xc3", "\xff", "\x80", "\xc3")
	wantLines(t, `a\nb\r`, `a\nb\r`)
}

func TestEndsOfLines(t *testing.T) {
	ends := map[string]int{
		"\n": 1, "\r": 1, "\r\n": 1, "\n\r": 2, "\r\r": 2, "\n\n": 2,
		"\r\r\n": 2, "\r\n\n": 2, "\n\r\n": 2, "\r\n\r": 2, "\r\n\r\n": 2, "\n\r\r": 3, "\n\n\r": 3, "\r\r\r": 3, "\n\n\n": 3, "\r\r\n\n": 3, "\n\r\n\r": 3,
	}
	for end, many := range ends {
		none := make([]string, many-1)
		wantLines(t, end, append(slices.Clone(none), "", "")...)
		wantLines(t, end+"a", append(append([]string{""}, none...), "a")...)
		wantLines(t, "a"+end+"b", append(append([]string{"a"}, none...), "b")...)
		wantLines(t, "a"+end, append(append([]string{"a"}, none...), "")...)
	}
	for _, other := range []string{"\x0b", "\x0c", "\x1c", "\x1d", "\x1e", "\xc2\x85", "\xe2\x80\xa8", "\xe2\x80\xa9", "\x00", " ", "\t"} {
		wantLines(t, "a"+other+"b", "a"+other+"b")
	}
}

func TestEveryByteInLines(t *testing.T) {
	for b := range 256 {
		sign := string([]byte{byte(b)})
		for _, s := range []string{sign, "a" + sign + "b", sign + "\r\n" + sign, "\r" + sign + "\n", sign + sign} {
			wantLines(t, s, lineEndForm.Split(s, -1)...)
		}
	}
}

func TestLinesAreNewMemory(t *testing.T) {
	s := "a\nb\r\nc"
	impl.LinesIn(s)[1] = "x"
	wantLines(t, s, "a", "b", "c")
}

func TestIndents(t *testing.T) {
	for line, want := range map[string]int{
		"": 0, " ": 1, "    ": 4, "\t": 1, "\t\t\t": 3, " \t \t": 4, "\t \t ": 4,
		"a": 0, "a ": 0, "a b": 0, "a\t": 0, " a": 1, "\ta": 1, " \ta": 2, "\t a": 2, "   a   ": 3, " a  b": 1,
		"\x0ba": 0, "\x0ca": 0, "\xc2\xa0a": 0, " \x0ba": 1, "\t\x0ca": 1, "  \xc2\xa0 a": 2, "\xe3\x80\x80a": 0, "\xef\xbb\xbfa": 0, "\xe2\x80\x83a": 0,
		"\na": 0, " \n a": 1, "\ra": 0, "\t\r\ta": 1, " \x00 a": 1, "\xff a": 0, " \xff a": 1, "\xa0a": 0, "_ a": 0, `\ta`: 0,
		strings.Repeat(" ", 3000) + "a": 3000, strings.Repeat("\t ", 3000): 6000,
	} {
		if got := impl.Indent(line); got != want {
			t.Errorf("Indent(%q): %d, want %d", line, got, want)
		}
	}
}

func TestEveryByteInIndents(t *testing.T) {
	for b := range 256 {
		sign := string([]byte{byte(b)})
		for _, line := range []string{sign, sign + " ", " " + sign, "\t" + sign + " a", " " + sign + sign + "a"} {
			if got := impl.Indent(line); got != indentOracle(line) {
				t.Errorf("Indent(%q): %d, want %d", line, got, indentOracle(line))
			}
		}
	}
}

func TestBlockValues(t *testing.T) {
	for raw, want := range map[string]string{
		"":                                 "",
		"a":                                "a",
		"   a":                             "   a",
		"\ta":                              "\ta",
		"a   ":                             "a   ",
		" \t a b \t":                       " \t a b \t",
		"\n    a\n      b\n\n  ":           "a\n  b",
		"a\n  b\n    c\n   d":              "a\nb\n  c\n d",
		"a\n    b\n   c\n  d":              "a\n  b\n c\nd",
		"a\n    b\n  c\n    d":             "a\n  b\nc\n  d",
		"a\n    b\nc\n    d":               "a\n    b\nc\n    d",
		"a\nb":                             "a\nb",
		"a\n  b":                           "a\nb",
		" a\n  b\n  c":                     " a\nb\nc",
		"a\n  b\n  c":                      "a\nb\nc",
		"  a\n  b\n  c":                    "  a\nb\nc",
		"      a\n  b\n    c":              "      a\nb\n  c",
		"\n    Hello,\n      World!\n\n  ": "Hello,\n  World!",
		"\n  a  \n  b\t":                   "a  \nb\t",
		"a\n  \u00e9\n   \u20ac":           "a\né\n €",
		"a\n  \xff\n   \xc3":               "a\n\xff\n \xc3",
		"a\n  \x00\n   \x01":               "a\n\x00\n \x01",
		"\n\xc2\xa0a\n b":                  "\xc2\xa0a\n b",
		"\n\x0ba\n\x0cb":                   "\x0ba\n\x0cb",
		"\n \x0b\n \x0c\n":                 "\x0b\n\x0c",
		`\n  a\n  b`:                       `\n  a\n  b`,
		"\n  a\\\n  b":                     "a\\\nb",
		"\n  \"a\"\n  \"\"\"\n":            "\"a\"\n\"\"\"",
	} {
		wantValue(t, raw, want)
		if oracle := blockValueOracle(raw); oracle != want {
			t.Errorf("the oracle has %q for %q", oracle, raw)
		}
	}
}

func TestLinesOfNothingElse(t *testing.T) {
	for raw, want := range map[string]string{
		" ":                          "",
		"\t":                         "",
		" \t \t":                     "",
		"\n":                         "",
		"\r\n":                       "",
		"\n\n\n":                     "",
		" \n\t\n  \t":                "",
		"   \n \r\t\r\n":             "",
		"\n\n  a":                    "a",
		" \n\t\n  a":                 "a",
		"\n      \n  a":              "a",
		"\n \n  a":                   "a",
		"      \n  a":                "a",
		"a\n\n":                      "a",
		"a\n \n\t":                   "a",
		"  a\n      ":                "  a",
		"a\n  b\n":                   "a\nb",
		"a\n  b\n ":                  "a\nb",
		"a\n  b\n  ":                 "a\nb",
		"a\n  b\n     \n\t\t\t\t":    "a\nb",
		"a\n  b\n\n  c":              "a\nb\n\nc",
		"a\n  b\n \n  c":             "a\nb\n\nc",
		"a\n  b\n  \n  c":            "a\nb\n\nc",
		"a\n  b\n   \n  c":           "a\nb\n \nc",
		"a\n  b\n  \t \n  c":         "a\nb\n\t \nc",
		"a\n  b\n\t\t\t\t\n  c":      "a\nb\n\t\t\nc",
		"a\n  b\n\n \n    \n\n  c":   "a\nb\n\n\n  \n\nc",
		"a\n \n  b":                  "a\n\nb",
		"a\n     \n  b":              "a\n   \nb",
		"a\n     \nb":                "a\n     \nb",
		"  \n    \n    a\n    \n  ":  "a",
		"\n    a\n  \n      b\n    ": "a\n\n  b",
		"\n\n  a\n\n  b\n\n":         "a\n\nb",
		" \n\n":                      "",
		"\n\n a\n\n\n b \n\n\n":      "a\n\n\nb ",
	} {
		wantValue(t, raw, want)
		if oracle := blockValueOracle(raw); oracle != want {
			t.Errorf("the oracle has %q for %q", oracle, raw)
		}
	}
}

func TestBytes9BesideBlanks(t *testing.T) {
	for raw, want := range map[string]string{
		"\n\ta\n\tb":            "a\nb",
		"\n\ta\n b":             "a\nb",
		"\n\ta\n    b":          "a\n   b",
		"\n    a\n\tb":          "   a\nb",
		"\n \ta\n\t b":          "a\nb",
		"\n \t a\n\t\tb":        " a\nb",
		"\n\t\ta\n  \tb":        "a\n\tb",
		"\t\ta\n\tb\n \tc":      "\t\ta\nb\n\tc",
		"\n\t \ta\n \t b\n\t":   "a\nb",
		"\n \ta\n \n\t \t\n\tb": "\ta\n\n \t\nb",
	} {
		wantValue(t, raw, want)
		if oracle := blockValueOracle(raw); oracle != want {
			t.Errorf("the oracle has %q for %q", oracle, raw)
		}
	}
}

func TestValuesWithOtherEndsOfLines(t *testing.T) {
	for raw, want := range map[string]string{
		"\r    a\r      b\r\r  ":           "a\n  b",
		"\r\n    a\r\n      b\r\n\r\n  ":   "a\n  b",
		"\r\n    a\r      b\n  c\n\r  ":    "  a\n    b\nc",
		"a\r\n  b\n\r  c\r   d":            "a\nb\n\nc\n d",
		"a\r\r\n  b":                       "a\n\nb",
		"\r\n\r\n\r\n":                     "",
		"a\r\n":                            "a",
		"\ra":                              "a",
		"a\r  b\r\n   \n  c\r\n     \r  d": "a\nb\n \nc\n   \nd",
	} {
		wantValue(t, raw, want)
		if oracle := blockValueOracle(raw); oracle != want {
			t.Errorf("the oracle has %q for %q", oracle, raw)
		}
	}
}

func TestEveryShortValue(t *testing.T) {
	eachText([]string{" ", "\t", "\n", "\r", "a"}, 8, func(raw string) {
		if got, want := impl.BlockValue(raw), blockValueOracle(raw); got != want {
			t.Errorf("BlockValue(%q): %q, want %q", raw, got, want)
		}
	})
	eachText([]string{" ", "\n"}, 6, func(raw string) {
		for _, first := range []string{"", "a", "  a", "      a"} {
			for _, last := range []string{"b", "b\n", "b\n   c", "\n  b \n    c\n "} {
				if got, want := impl.BlockValue(first+raw+last), blockValueOracle(first+raw+last); got != want {
					t.Errorf("BlockValue(%q): %q, want %q", first+raw+last, got, want)
				}
			}
		}
	})
}

func TestEveryShortTextInLines(t *testing.T) {
	eachText([]string{" ", "\n", "\r", "a"}, 7, func(s string) {
		lines := impl.LinesIn(s)
		if !slices.Equal(lines, lineEndForm.Split(s, -1)) {
			t.Errorf("LinesIn(%q): %q", s, lines)
		}
	})
}

var wholeLines = [][]string{
	{"a"},
	{"a", "b"},
	{"a", "  b", "c"},
	{"type A {", "  b: Int", "", "  c: [A]", "}"},
	{"a", "", "", "\tb"},
	{"  a", "b", "  c"},
	{"    a", "  b", "\tc", "d"},
	{"a", "   b ", "\t", "  ", "c\t"},
	{"é", "  €", "😀"},
	{"  a", "", "b", "", "    c"},
	{"-", "\\", "\"", "  \"\""},
}

func TestLinesThatAreMovedInAreTheseLines(t *testing.T) {
	ins := []string{"", " ", "  ", "\t", "\t\t", " \t", "\t ", "    ", strings.Repeat(" ", 15), strings.Repeat("\t ", 9)}
	for _, lines := range wholeLines {
		want := strings.Join(lines, "\n")
		for _, in := range ins {
			for _, end := range []string{"\n", "\r", "\r\n"} {
				raw := end + in + strings.Join(lines, end+in)
				wantValue(t, raw, want)
				wantValue(t, raw+end, want)
				wantValue(t, raw+end+in, want)
				wantValue(t, "   "+end+"\t"+raw+end+" "+end+in+in+end, want)
				wantBlock(t, inBlock(raw+end), want)
				wantBlock(t, inBlock(raw+end+in), want)
				if !mayMoveOut(lines[1:]) {
					wantValue(t, raw[len(end)+len(in):], want)
				}
			}
		}
	}
}

func TestFirstLinesStayAsTheyAre(t *testing.T) {
	for _, ahead := range []string{"", " ", "  ", "   ", "      ", "\t", "\t\t\t"} {
		for _, in := range []string{"", " ", "  ", "   ", "      ", "\t", "\t\t\t"} {
			wantValue(t, ahead+"a", ahead+"a")
			wantValue(t, ahead+"a\n"+in+"b", ahead+"a\nb")
			wantValue(t, ahead+"a\n"+in+"b\n"+in+" c", ahead+"a\nb\n c")
			wantValue(t, ahead+"\n"+in+"b\n"+in+" c", "b\n c")
			wantValue(t, ahead+"\n"+in+" b\n"+in+"c", " b\nc")
		}
	}
}

func TestLongValues(t *testing.T) {
	line := "\n" + strings.Repeat(" ", 40) + "a"
	raw := strings.Repeat(line, 5000)
	wantValue(t, raw, strings.TrimSuffix(strings.Repeat("a\n", 5000), "\n"))
	wantValue(t, strings.Repeat("\n", 20000)+"a"+strings.Repeat("\n ", 20000), "a")
	wantValue(t, strings.Repeat(" \t", 100000), "")
}

func TestBlockEnds(t *testing.T) {
	for s, want := range map[string]int{
		"": -1, `"`: -1, `""`: -1, `"""`: -1, `""""`: -1, `"""""`: -1, `""""""`: 6, `"""""""`: 6, `""""""""`: 6, `"""""""""`: 6,
		"a": -1, `"a"`: -1, `""a""`: -1, `a"""b"""`: -1, ` """a"""`: -1, `'''a'''`: -1, `\"""a"""`: -1,
		`"""a"""`: 7, `"""a""" b`: 7, `"""a""""`: 7, `"""a"""""`: 7, `"""a""""""`: 7, `"""a"""b"""`: 7,
		`"""a`: -1, `"""a"`: -1, `"""a""`: -1, `"""a"" "`: -1, `"""a" "" """`: 12, `"""a"b""c"""`: 12,
		`""""a"""`: 8, `"""""a"""`: 9, `""" """`: 7, `"""a" """`: 9, `"""a"" """`: 10,
		`"""\"""`: -1, `"""\""""`: -1, `"""\"""""`: -1, `"""\""""""`: 10, `"""\"""a"""`: 11, `"""a\""" b"""`: 13,
		`"""\"""\"""`: -1, `"""\"""\""""""`: 14, `"""a\"""\"""b"""`: 16, `"""a\"""b\"""c"""`: 17,
		`"""a\"""`: -1, `"""a\""""`: -1, `"""a\"""""`: -1, `"""a\""""""`: 11, `"""a\"""""""`: 11,
		`"""\\"""`: -1, `"""\\""""""`: 11, `"""\\\"""`: -1, `"""\\\""""""`: 12, `"""\\\\"""a"""`: 14,
		`"""\ """`: 8, `"""\"a"""`: 9, `"""\""a"""`: 10, `"""\n"""`: 8, `"""\" """`: 9, `"""\"" """`: 10, `"""\`: -1, `"""a\`: -1,
		`"""\a\"""b"""`: 13, `"""a"\"""b"""`: 13, `"""a""\"""b"""`: 14,
		"\"\"\"\n\r\x00\xff\"\"\"": 10, "\"\"\"\n\n": -1,
	} {
		wantBlockEnd(t, s, 0, want)
		if oracle := blockEndOracle(s, 0); oracle != want {
			t.Errorf("the oracle has %d for %q", oracle, s)
		}
	}
}

func TestBlockEndsWithin(t *testing.T) {
	s := `a """b""" """c\"""d""" e`
	for at, want := range map[int]int{
		0: -1, 1: -1, 2: 9, 3: -1, 4: -1, 5: -1, 6: 13, 7: -1, 10: 22, 13: -1, 14: -1, 15: 22, 19: -1, 22: -1, 23: -1, 24: -1, 25: -1, -1: -1, -2: -1, -3: -1, -24: -1,
	} {
		wantBlockEnd(t, s, at, want)
	}
	for _, at := range []int{math.MinInt, math.MinInt + 1, -1000, 1000, math.MaxInt - 3, math.MaxInt - 2, math.MaxInt - 1, math.MaxInt} {
		wantBlockEnd(t, s, at, -1)
		wantBlockEnd(t, "", at, -1)
		wantBlockEnd(t, `""""""`, at, -1)
	}
	wantBlockEnd(t, `\"""a"""`, 1, 8)
	wantBlockEnd(t, `""""""`, 1, -1)
	wantBlockEnd(t, `"""""""`, 1, 7)
	wantBlockEnd(t, `""""""""`, 1, 7)
	wantBlockEnd(t, `""""""""`, 2, 8)
	wantBlockEnd(t, `""""""`, 3, -1)
	wantBlockEnd(t, `""""""`, 5, -1)
	wantBlockEnd(t, `""""""`, 6, -1)
	wantBlockEnd(t, `""""""`, 7, -1)
	wantBlockEnd(t, `a"""`, 3, -1)
	wantBlockEnd(t, `é""""""`, 2, 8)
}

func TestEveryShortBlockEnd(t *testing.T) {
	eachText([]string{`"`, `\`, "a"}, 9, func(s string) {
		for _, text := range []string{s, `"""` + s} {
			for at := -1; at <= len(text)+1; at++ {
				if got, want := impl.BlockEnd(text, at), blockEndOracle(text, at); got != want {
					t.Errorf("BlockEnd(%q, %d): %d, want %d", text, at, got, want)
				}
			}
		}
	})
}

func TestLongBlockEnds(t *testing.T) {
	for _, within := range []string{"a", `\"""`, `"" `, `\`, "\n", "\xff"} {
		for _, many := range []int{1, 500, 3000} {
			s := "\"\"\"" + strings.Repeat(within, many) + "\n\"\"\"" + within
			wantBlockEnd(t, s, 0, len(s)-len(within))
			wantBlockEnd(t, s[:len(s)-len(within)-1], 0, -1)
		}
	}
}

func TestTextsOfBlocks(t *testing.T) {
	for s, want := range map[string]string{
		`""""""`:               "",
		`""" """`:              "",
		"\"\"\"\n\"\"\"":       "",
		`"""a"""`:              "a",
		`""" a """`:            " a ",
		`"""a b"""`:            "a b",
		`"""é€😀"""`:            "é€😀",
		"\"\"\"\x7f\"\"\"":     "\x7f",
		"\"\"\"a\tb\"\"\"":     "a\tb",
		"\"\"\"a\nb\"\"\"":     "a\nb",
		"\"\"\"a\rb\"\"\"":     "a\nb",
		"\"\"\"a\r\nb\"\"\"":   "a\nb",
		"\"\"\"a\n\rb\"\"\"":   "a\n\nb",
		"\"\"\"\n a\n\"\"\"":   "a",
		"\"\"\"a\n  b\n\"\"\"": "a\nb",
		"\"\"\"\r\n    Hello,\r\n      World!\r\n\r\n    Yours,\r\n      A.\r\n  \"\"\"": "Hello,\n  World!\n\nYours,\n  A.",
		`"""x \""" y"""`:                    `x """ y`,
		`"""\""""""`:                        `"""`,
		`"""\"""\""""""`:                    `""""""`,
		`"""a\"""b\"""c"""`:                 `a"""b"""c`,
		`"""\"""a"""`:                       `"""a`,
		`"""a\""""""`:                       `a"""`,
		`"""\\""""""`:                       `\"""`,
		`"""\\\""""""`:                      `\\"""`,
		`"""\\\"""\"""a"""`:                 `\\""""""a`,
		`"""\ """`:                          `\ `,
		`"""\a"""`:                          `\a`,
		`"""a\\b"""`:                        `a\\b`,
		`"""\n\t\u0041\u{41}\/"""`:          `\n\t\u0041\u{41}\/`,
		`"""\"a"""`:                         `\"a`,
		`"""\""a"""`:                        `\""a`,
		`"""\" \"" """`:                     `\" \"" `,
		`"""a" """`:                         `a" `,
		`"""a"" """`:                        `a"" `,
		`""""a"""`:                          `"a`,
		`"""""a"""`:                         `""a`,
		`"""a"b""c"""`:                      `a"b""c`,
		"\"\"\"a\"\n\"\"\"":                 `a"`,
		"\"\"\"\n  \\\"\"\"\n    a\n\"\"\"": "\"\"\"\n  a",
		"\"\"\"  \\\"\"\"\n  a\n    b\\\"\"\"\"\"\"": "  \"\"\"\na\n  b\"\"\"",
		"\"\"\"\xc2\x80\xc2\x85\xc2\xa0\"\"\"":       "\xc2\x80\xc2\x85\xc2\xa0",
		"\"\"\"\xef\xbb\xbf\xe2\x80\xa8\"\"\"":       "\xef\xbb\xbf\xe2\x80\xa8",
		"\"\"\"\xef\xbf\xbd\xf4\x8f\xbf\xbf\"\"\"":   "\xef\xbf\xbd\xf4\x8f\xbf\xbf",
	} {
		wantBlock(t, s, want)
		if oracle, ok := blockTextOracle(s); !ok || oracle != want {
			t.Errorf("the oracle has %q, %v for %q", oracle, ok, s)
		}
	}
}

func TestNoBlocks(t *testing.T) {
	for _, s := range []string{
		"", "a", `"`, `""`, `"""`, `""""`, `"""""`, `"""""""`, `""""""""`, `"""""""""`, `"a"`, `""a""`, `'''a'''`, "```a```",
		`"""a`, `"""a"`, `"""a""`, `a"""`, `"a"""`, `""a"""`, "\"\"\"\n", `"""\"""`, `"""a\"""`, `"""a\""""`, `"""a\"""""`, `"""\\"""`, `"""\\\"""`, `"""\`,
		`"""a""""`, `"""a"""""`, `"""a""""""`, `"""a"""b"""`, `"""a""" """b"""`, `"""a""""""b"""`,
		` """a"""`, "\n\"\"\"a\"\"\"", `a"""a"""`, `\"""a"""`, `"""a""" `, "\"\"\"a\"\"\"\n", `"""a"""a`, `"""a"""\`, "\"\"\"a\"\"\"\x00", "\xef\xbb\xbf\"\"\"a\"\"\"",
	} {
		wantNoBlock(t, s)
		if oracle, ok := blockTextOracle(s); ok {
			t.Errorf("the oracle has %q for %q", oracle, s)
		}
	}
}

func TestEveryByteInBlocks(t *testing.T) {
	for b := range 256 {
		sign := string([]byte{byte(b)})
		ok := b >= 32 && b < 128 || b == 9 || b == 10 || b == 13
		for _, raw := range []string{"a" + sign + "b", "a\n  " + sign + "b", "\n\n" + sign + "c\n"} {
			if _, got := impl.BlockText(inBlock(raw)); got != ok {
				t.Errorf("BlockText(%q): %v", inBlock(raw), got)
			}
		}
		for _, s := range []string{
			inBlock(sign), inBlock("a" + sign + "b"), inBlock(sign + "\n" + sign + "a\n" + sign), inBlock("\n " + sign + "\n  b"), inBlock(`\` + sign + "a"), inBlock(`\` + sign + `"""`), inBlock(`"` + sign + `"`), inBlock(`a\` + sign + `""""""`),
			sign + inBlock("a"), inBlock("a") + sign, sign + `""a"""`, `"` + sign + `"a"""`, `""` + sign + `a"""`, `"""a` + sign + `""`, `"""a"` + sign + `"`, `"""a""` + sign, `"""a""` + sign + `"`,
		} {
			wantBlockAsOracle(t, s)
		}
	}
}

func TestBlocksOfNoText(t *testing.T) {
	for _, wrong := range wrongTexts {
		for _, raw := range []string{wrong, "a" + wrong, wrong + "a", "\n  é" + wrong + "\n  b", "a\n" + wrong, `\"""` + wrong, wrong + "\n"} {
			wantNoBlock(t, inBlock(raw))
		}
	}
}

func TestBarredBytesWhereTheyWouldBeTakenAway(t *testing.T) {
	for _, sign := range []string{"\x00", "\x08", "\x0b", "\x0c", "\x0e", "\x1f"} {
		for _, raw := range []string{sign, sign + "\n  a", "a\n" + sign, " " + sign + " \n  a", "a\n" + sign + "\nb", "a\n " + sign + " b"} {
			wantNoBlock(t, inBlock(raw))
		}
	}
}

func TestBlocksAtTheirLimit(t *testing.T) {
	for _, fill := range []string{" ", "\t", "\n", "\r", "\r\n", "\n ", "   \n"} {
		for _, text := range []string{"", "a", "\na\n  b\n"} {
			for _, many := range []int{990, 999, 1000, 1001, 1002, 1010} {
				raw := strings.Repeat(fill, many)[:many-len(text)-7]
				for _, s := range []string{inBlock(raw + "\n" + text), inBlock(text + "\n" + raw)} {
					wantBlockAsOracle(t, s)
					if _, ok := impl.BlockText(s); ok != (many <= 1000) {
						t.Errorf("BlockText of %d bytes: %v", len(s), ok)
					}
				}
			}
		}
	}
	wantBlock(t, inBlock("a"+strings.Repeat("\n", 993)), "a")
	wantNoBlock(t, inBlock("a"+strings.Repeat("\n", 994)))
	wantBlock(t, inBlock("a\n"+strings.Repeat(" ", 991)+"b"), "a\nb")
	wantNoBlock(t, inBlock("a\n"+strings.Repeat(" ", 992)+"b"))
	for _, many := range []int{256, 1024, 1280, 65536, 200000} {
		wantBlockAsOracle(t, inBlock("a"+strings.Repeat("\n", many)))
	}
}

func TestValuesAtTheirLimit(t *testing.T) {
	for _, sign := range []string{"a", `"b`, `\`, "é", "€", "😀", "a\n", "  c"} {
		for many := 0; many <= 205; many++ {
			raw := strings.Repeat(sign, many) + "z"
			s := inBlock(raw)
			wantBlockAsOracle(t, s)
			if _, ok := impl.BlockText(s); ok != (len(raw) <= 200) {
				t.Errorf("BlockText of a value of %d bytes: %v", len(raw), ok)
			}
		}
	}
	full := strings.Repeat("a", 200)
	wantBlock(t, inBlock(full), full)
	wantNoBlock(t, inBlock(full+"a"))
	wantBlock(t, inBlock("\n\n    "+full+"\n\n"+strings.Repeat(" ", 780)), full)
	wantNoBlock(t, inBlock("\n\n    "+full+"a\n\n"))
	wantNoBlock(t, inBlock(" "+full))
	wantNoBlock(t, inBlock(full+" "))
	wantNoBlock(t, inBlock(strings.Repeat("a", 456)))
}

func TestValuesShorterThanTheirBlocks(t *testing.T) {
	wantBlock(t, inBlock(strings.Repeat(`\"""`, 66)+"aa"), strings.Repeat(`"""`, 66)+"aa")
	wantNoBlock(t, inBlock(strings.Repeat(`\"""`, 66)+"aaa"))
	wantNoBlock(t, inBlock(strings.Repeat(`\"""`, 67)))
	line := strings.Repeat(" ", 90) + strings.Repeat("a", 19) + "\r\n"
	told := strings.Repeat("a", 19) + "\n"
	wantBlock(t, inBlock("\r\n"+strings.Repeat(line, 8)), strings.TrimSuffix(strings.Repeat(told, 8), "\n"))
	line, told = "\r\n \ta", "\na"
	wantBlock(t, inBlock(strings.Repeat(line, 100)), strings.Repeat(told, 100)[1:])
	wantBlock(t, inBlock("b"+strings.Repeat(line, 99)+"c"), "b"+strings.Repeat(told, 99)+"c")
	wantNoBlock(t, inBlock("b"+strings.Repeat(line, 100)))
	moved := "\n" + strings.Repeat(" ", 300) + "a\n" + strings.Repeat(" ", 497)
	wantBlock(t, inBlock(moved+"b"), "a\n"+strings.Repeat(" ", 197)+"b")
	wantNoBlock(t, inBlock(moved+" b"))
}

func TestEveryShortBlock(t *testing.T) {
	eachText([]string{`"`, `\`, "a", "\n", " "}, 7, func(raw string) {
		wantBlockAsOracle(t, inBlock(raw))
	})
	eachText([]string{`"""`, `\"""`, `"`, `\`, "\n  a", "é"}, 5, func(s string) {
		wantBlockAsOracle(t, s)
		wantBlockAsOracle(t, inBlock(s))
	})
}

func TestShortTextsComeBackFromBlocks(t *testing.T) {
	eachText([]string{"a", " ", "\n", `"`, `\`, "é"}, 6, func(text string) {
		lines := strings.Split(text, "\n")
		if bareForm.MatchString(lines[0]) || bareForm.MatchString(lines[len(lines)-1]) || mayMoveOut(lines) {
			return
		}
		kept := strings.ReplaceAll(text, `"""`, `\"""`)
		for _, in := range []string{"", "  ", "\t"} {
			wantBlock(t, inBlock("\n"+in+strings.ReplaceAll(kept, "\n", "\n"+in)+"\n"+in), text)
		}
	})
}
