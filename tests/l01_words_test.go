package tests

import (
	"fmt"
	"math"
	"slices"
	"strings"
	"testing"

	"loop.example/g00964/impl"
)

func everyByte() string {
	b := make([]byte, 256)
	for i := range b {
		b[i] = byte(i)
	}
	return string(b)
}

func TestWordsLimits(t *testing.T) {
	got := []int{impl.MaxText, impl.MaxNumber, impl.MaxWords, impl.MaxParts}
	if !slices.Equal(got, []int{20000, 1000000000, 600, 12}) {
		t.Errorf("limits are %v", got)
	}
}

func TestHexWritesTwoFiguresForEachByte(t *testing.T) {
	for i := range 256 {
		text := string([]byte{byte(i)})
		got, ok := impl.Hex(text)
		if want := fmt.Sprintf("%02x", i); !ok || got != want {
			t.Errorf("Hex of byte %d: %q %v, want %q", i, got, ok, want)
		}
	}
	for text, want := range map[string]string{
		"":                 "",
		"a":                "61",
		"\x0f\xf0":         "0ff0",
		"\x00\x00\x10":     "000010",
		"\x9a\xa9\x90\x09": "9aa99009",
		"é":                "c3a9",
	} {
		if got, ok := impl.Hex(text); !ok || got != want {
			t.Errorf("Hex(%q): %q %v, want %q", text, got, ok, want)
		}
	}
}

func TestHexRefusesWhatIsTooLong(t *testing.T) {
	longest := strings.Repeat("\xa5", impl.MaxText)
	if got, ok := impl.Hex(longest); !ok || got != strings.Repeat("a5", impl.MaxText) {
		t.Error("a text of MaxText bytes has its figures")
	}
	for _, n := range []int{impl.MaxText + 1, 2 * impl.MaxText, 10 * impl.MaxText} {
		if got, ok := impl.Hex(strings.Repeat("a", n)); ok || got != "" {
			t.Errorf("a text of %d bytes: %d figures, %v", n, len(got), ok)
		}
	}
}

func TestUnhexReadsWhatHexWrites(t *testing.T) {
	texts := []string{"", "a", "\x00", "\xff\x00\xff", "naïve", "\xc3", everyByte()}
	for i := range 256 {
		texts = append(texts, string([]byte{byte(i)}), string([]byte{byte(i), byte(255 - i), 7}))
	}
	texts = append(texts, strings.Repeat("\x5f", impl.MaxText), (strings.Repeat(everyByte(), 80))[:impl.MaxText])
	for _, text := range texts {
		figures, _ := impl.Hex(text)
		if back, ok := impl.Unhex(figures); !ok || back != text {
			t.Errorf("a text of %d bytes does not come back: %v", len(text), ok)
		}
	}
}

func TestUnhexTakesSmallFiguresAlone(t *testing.T) {
	for high := range 256 {
		for low := range 256 {
			text := string([]byte{byte(high), byte(low)})
			const figures = "0123456789abcdef"
			h, l := strings.IndexByte(figures, byte(high)), strings.IndexByte(figures, byte(low))
			want, wantOk := "", false
			if h >= 0 && l >= 0 {
				want, wantOk = string([]byte{byte(16*h + l)}), true
			}
			if got, ok := impl.Unhex(text); got != want || ok != wantOk {
				t.Fatalf("Unhex(%q): %q %v, want %q %v", text, got, ok, want, wantOk)
			}
		}
	}
}

func TestUnhexRefusesWhatHexNeverWrites(t *testing.T) {
	for _, text := range []string{
		"0", "f", "616", "61626", "FF", "aF", "Fa", "0g", "g0", "0x", "0x61", " 61", "61 ", "6 1", "6162 ", "61\n", "-1", "+1", "é", "61é", "6162zz", "zz6162",
		strings.Repeat("0", 2*impl.MaxText-1),
		strings.Repeat("0", 2*impl.MaxText+1),
		strings.Repeat("0", 2*impl.MaxText+2),
		strings.Repeat("61", impl.MaxText-1) + "6G",
	} {
		if got, ok := impl.Unhex(text); ok || got != "" {
			t.Errorf("Unhex of %d bytes, %.10q: %d bytes, %v", len(text), text, len(got), ok)
		}
	}
	if got, ok := impl.Unhex(""); !ok || got != "" {
		t.Errorf("nothing is the Hex of nothing: %q %v", got, ok)
	}
}

func TestDecimalOfEveryKindOfInt(t *testing.T) {
	for n, want := range map[int]string{
		0:                 "0",
		1:                 "1",
		9:                 "9",
		10:                "10",
		-1:                "-1",
		-9:                "-9",
		-10:               "-10",
		-30:               "-30",
		100:               "100",
		1000000000:        "1000000000",
		-1000000001:       "-1000000001",
		math.MaxInt32 + 1: "2147483648",
		math.MaxInt:       "9223372036854775807",
		math.MinInt:       "-9223372036854775808",
		math.MinInt + 1:   "-9223372036854775807",
	} {
		if got := impl.Decimal(n); got != want {
			t.Errorf("Decimal(%d): %q, want %q", n, got, want)
		}
	}
	for ten := 1; ten <= math.MaxInt/10; ten *= 10 {
		for _, n := range []int{ten - 1, ten, ten + 1, -ten - 1, -ten, -ten + 1, 7 * ten} {
			if got := impl.Decimal(n); got != fmt.Sprint(n) {
				t.Errorf("Decimal(%d): %q", n, got)
			}
		}
	}
}

func TestReadDecimalReadsWhatDecimalWrites(t *testing.T) {
	numbers := []int{impl.MaxNumber - 1, impl.MaxNumber}
	for n := range 20000 {
		numbers = append(numbers, n)
	}
	for n := 1; n < impl.MaxNumber; n = 3*n + 1 {
		numbers = append(numbers, n, impl.MaxNumber-n)
	}
	for ten := 1; ten <= impl.MaxNumber; ten *= 10 {
		numbers = append(numbers, ten-1, ten)
	}
	for _, n := range numbers {
		if back, ok := impl.ReadDecimal(impl.Decimal(n)); !ok || back != n {
			t.Errorf("%d does not come back: %d %v", n, back, ok)
		}
	}
}

func TestReadDecimalAtItsEdges(t *testing.T) {
	for text, want := range map[string]int{"0": 0, "7": 7, "10": 10, "999999999": 999999999, "1000000000": impl.MaxNumber} {
		if got, ok := impl.ReadDecimal(text); !ok || got != want {
			t.Errorf("ReadDecimal(%q): %d %v", text, got, ok)
		}
	}
	for _, n := range []int{impl.MaxNumber + 1, 2 * impl.MaxNumber, 10 * impl.MaxNumber, math.MaxInt, -1, -7, -impl.MaxNumber, math.MinInt} {
		if got, ok := impl.ReadDecimal(impl.Decimal(n)); ok || got != 0 {
			t.Errorf("%d is out of range, but is read: %d %v", n, got, ok)
		}
	}
}

func TestReadDecimalRefusesWhatDecimalNeverWrites(t *testing.T) {
	for _, text := range []string{
		"", "00", "000", "01", "007", "0000000001", "00000000000000000000000000007", "-0", "+0", "+1", "-01", "--1", "-", "+",
		" 1", "1 ", "1 2", "\t1", "1\n", "1_000", "_1", "1,000", "1.0", "1.", ".5", "1e3", "0x1", "0b1", "0o7", "a", "1a", "a1", "x",
		"\x00", "1\x00", "١", "１", "½", "/", ":",
		"9223372036854775808", "18446744073709551616", "18446744073709551617", "340282366920938463463374607431768211457",
		strings.Repeat("9", 10000), strings.Repeat("0", 10000),
	} {
		if got, ok := impl.ReadDecimal(text); ok || got != 0 {
			t.Errorf("ReadDecimal(%.40q): %d %v", text, got, ok)
		}
	}
}

func TestPartsOfALine(t *testing.T) {
	for line, want := range map[string][]string{
		"":                    {},
		" ":                   {},
		"      ":              {},
		"a":                   {"a"},
		" a":                  {"a"},
		"a ":                  {"a"},
		"  a bc ":             {"a", "bc"},
		"a  b   c":            {"a", "b", "c"},
		"abc ab a ab":         {"abc", "ab", "a", "ab"},
		"! ~ !~":              {"!", "~", "!~"},
		"build 1":             {"build", "1"},
		"a,b;c \"d e\" 'f'":   {"a,b;c", "\"d", "e\"", "'f'"},
		"1 2 3 4 5 6 7 8 9 0": {"1", "2", "3", "4", "5", "6", "7", "8", "9", "0"},
	} {
		if got, ok := impl.PartsOf(line); !ok || !slices.Equal(got, want) {
			t.Errorf("PartsOf(%q): %q %v, want %q", line, got, ok, want)
		}
	}
}

func TestPartsOfTakesBytesFrom32To126(t *testing.T) {
	for i := range 256 {
		sign := string([]byte{byte(i)})
		for _, line := range []string{sign, sign + "b", "a" + sign, "a" + sign + "b", " " + sign + " ", "a b " + sign} {
			got, ok := impl.PartsOf(line)
			want := []string{}
			if 32 <= i && i <= 126 {
				want = slices.DeleteFunc(strings.Split(line, " "), func(s string) bool { return s == "" })
			}
			if ok != (32 <= i && i <= 126) || !slices.Equal(got, want) {
				t.Errorf("PartsOf(%q): %q %v", line, got, ok)
			}
		}
	}
	for _, line := range []string{"a\tb", "a\nb", "é", "a\u00a0b", "a\u2003b", "\xff"} {
		if got, ok := impl.PartsOf(line); ok || len(got) != 0 {
			t.Errorf("PartsOf(%q): %q %v", line, got, ok)
		}
	}
}

func TestPartsOfALongLine(t *testing.T) {
	for _, line := range []string{
		strings.Repeat("a", impl.MaxWords),
		strings.Repeat(" ", impl.MaxWords),
		strings.Repeat(" ", impl.MaxWords-2) + "ab",
		"ab" + strings.Repeat(" ", impl.MaxWords-2),
	} {
		want := []string{}
		if word := strings.Trim(line, " "); word != "" {
			want = []string{word}
		}
		if got, ok := impl.PartsOf(line); !ok || !slices.Equal(got, want) {
			t.Errorf("a line of MaxWords bytes, %.5q: %q %v", line, got, ok)
		}
		for _, longer := range []string{line + " ", " " + line, line + "c"} {
			if got, ok := impl.PartsOf(longer); ok || len(got) != 0 {
				t.Errorf("a line of one byte more, %.5q: %q %v", longer, got, ok)
			}
		}
	}
}

func TestPartsOfALineOfManyParts(t *testing.T) {
	most := strings.Repeat("a ", impl.MaxParts)
	for _, line := range []string{most, " " + most, strings.TrimSpace(most), strings.ReplaceAll(most, " ", "   ")} {
		if got, ok := impl.PartsOf(line); !ok || len(got) != impl.MaxParts || got[impl.MaxParts-1] != "a" {
			t.Errorf("PartsOf(%q): %q %v", line, got, ok)
		}
	}
	for _, line := range []string{most + "b", most + "b ", " " + most + "b", most + most, strings.Repeat("a ", impl.MaxWords/2)} {
		if got, ok := impl.PartsOf(line); ok || len(got) != 0 {
			t.Errorf("PartsOf(%q): %q %v", line, got, ok)
		}
	}
}

func TestPartsOfAnswersNewMemory(t *testing.T) {
	one, _ := impl.PartsOf("a b c")
	_ = append(one[:1], "x", "y")
	two, _ := impl.PartsOf("a b c")
	if !slices.Equal(two, []string{"a", "b", "c"}) || one[0] != "a" {
		t.Errorf("an answer has changed: %q", two)
	}
}

func TestBroughtStaysBetween(t *testing.T) {
	numbers := []int{math.MinInt, math.MinInt + 1, math.MaxInt - 1, math.MaxInt}
	for n := -6; n <= 6; n++ {
		numbers = append(numbers, n)
	}
	for _, n := range numbers {
		for _, least := range numbers {
			for _, most := range numbers {
				want := least
				if least <= most {
					want = min(max(n, least), most)
				}
				if got := impl.Brought(n, least, most); got != want {
					t.Fatalf("Brought(%d, %d, %d): %d, want %d", n, least, most, got, want)
				}
			}
		}
	}
}

func TestBroughtAtItsEdges(t *testing.T) {
	for _, c := range [][4]int{
		{5, 1, 9, 5}, {1, 1, 9, 1}, {9, 1, 9, 9}, {0, 1, 9, 1}, {10, 1, 9, 9}, {3, 4, 4, 4}, {4, 4, 4, 4}, {5, 4, 4, 4},
		{5, 7, 3, 7}, {2, 7, 3, 7}, {9, 7, 3, 7}, {7, 7, 6, 7}, {0, math.MaxInt, math.MinInt, math.MaxInt}, {-3, -5, -1, -3},
	} {
		if got := impl.Brought(c[0], c[1], c[2]); got != c[3] {
			t.Errorf("Brought(%d, %d, %d): %d, want %d", c[0], c[1], c[2], got, c[3])
		}
	}
}
