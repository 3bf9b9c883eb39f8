package tests

import (
	"math/big"
	"regexp"
	"strconv"
	"strings"
	"testing"

	"loop.example/g00964/impl"
)

// The chapter's words, written another way, to hold the program against.
var (
	nameForm  = regexp.MustCompile(`\A[A-Za-z_][A-Za-z_0-9]*\z`)
	intForm   = regexp.MustCompile(`\A-?(0|[1-9][0-9]*)\z`)
	floatForm = regexp.MustCompile(`\A-?(0|[1-9][0-9]*)(\.[0-9]+|[eE][+-]?[0-9]+|\.[0-9]+[eE][+-]?[0-9]+)\z`)
)

var wholeTexts = []string{
	"0", "-0", "1", "-1", "9", "-9", "10", "-10", "19", "90", "100", "1000000000000", "907", "-1234567890",
	"2147483647", "2147483648", "-2147483648", "-2147483649",
	strings.Repeat("9", 40), "1" + strings.Repeat("0", 39), "-" + strings.Repeat("9", 39), "-1" + strings.Repeat("0", 38),
}

var otherTexts = []string{
	"0.0", "-0.0", "1.5", "-1.5", "0.5", "10.01", "9.9", "0.00", "1.000", "1.0001", "12.0900",
	"0e0", "-0e0", "1e5", "1E5", "1e+5", "1E+5", "1e-5", "1E-5", "-1e5", "1e0", "1e00", "1e007", "1E-00", "1e+09", "10e10",
	"1.5e3", "1.5E3", "1.5e+3", "1.5E+3", "1.5e-3", "1.5E-3", "-0.0e-0", "0.01e010", "-12.034E+056",
	"0." + strings.Repeat("0", 38), "-0." + strings.Repeat("9", 37), "1e" + strings.Repeat("7", 38), "-1E-" + strings.Repeat("0", 36),
	strings.Repeat("9", 38) + ".1", strings.Repeat("9", 36) + ".1e1", "-" + strings.Repeat("9", 36) + "e+1",
}

var noNumbers = []string{
	"", "-", "+", ".", "e", "E", "--", "-.", "-e", ".e", "e1", "E1", "-e1",
	"00", "01", "-00", "-01", "007", "-010", "00.5", "01.5", "-01.5", "00e1", "01e1", "-01E1", "00.0e0", "01.5e3", "0000",
	"+0", "+1", "+1.5", "+1e5", "--1", "-+1", "+-1", "++1", "--1.5", "1-", "1+", "1-1", "1+1",
	".5", "-.5", "1.", "-1.", "0.", ".", "1.e5", "-1.e5", ".e5", ".5e5", "1.-5", "1.+5", "1.E5",
	"1..5", "1.5.", "1.5.5", "..5", "1.5..", "1e5.5.5",
	"1e", "1E", "1e+", "1e-", "1E+", "1E-", "1.5e", "1.5E", "1.5e+", "1.5E-", "1e++1", "1e--1", "1e+-1", "1e-+1", "1ee1", "1eE1", "1e1e1", "1.5e3e3", "1e1E", "1e5-", "1e5+",
	"1e5.5", "1E5.0", "1e.5", "1e-5.5", "1.5e3.5", "1e5.",
	" 1", "1 ", "1 1", " 1.5", "1.5 ", "1. 5", "1 .5", "1 e5", "1e 5", "1e5 ", "- 1", "\t1", "1\n", "1\r", "1.5\n", "\n", " ", "0 ", "-0\x00", "0\x00", "\x000",
	"1a", "a1", "0a", "0x10", "0b1", "0o7", "1f", "1.5f", "1e5f", "1_000", "1_0.5", "1.0_0", "1e1_0", "_1", "1,5", "1'000", "1.5a", "-a", "-x1", "Inf", "NaN", "-Inf", "inf", "0x1p4", "1i", "1l", "0-", "0+",
	"/", ":", "1/", "1:", "/1", ":1", "1.5/", "1.5:", "1e5/", "1e5:", "1./", "1.:", "1e/", "1e:", "-/", "-:",
	"\x80", "1\x80", "\xff", "1\xff", "1.5\xff", "1e5\x80", "\xb1", "1\xb1", "1.\xb5", "1e\xb5", "٣", "1٣", "−1", "1.٣", "１", "1\xc2\xa0",
}

func TestFiguresLimits(t *testing.T) {
	if impl.MaxName != 30 || impl.MaxFigures != 40 {
		t.Errorf("MaxName %d, MaxFigures %d", impl.MaxName, impl.MaxFigures)
	}
}

func TestNamesThatAreWritten(t *testing.T) {
	names := []string{
		"a", "z", "A", "Z", "_", "__", "a0", "z9", "_0", "_9", "A_Z", "a1b2", "__typename", "Query", "userById", "e1", "E", "true", "null", "x_",
		strings.Repeat("a", 29), strings.Repeat("a", 30), strings.Repeat("_", 30), strings.Repeat("Z", 30), "a" + strings.Repeat("0", 29), "_" + strings.Repeat("9", 29),
	}
	for _, name := range names {
		if !impl.NameOk(name) {
			t.Errorf("NameOk(%q) is false", name)
		}
	}
}

func TestWhatIsNoName(t *testing.T) {
	names := []string{
		"", "0", "9", "0a", "9z", "1_", "00", "-", "-a", "a-", "a-b", "a b", " a", "a ", " ", "a.b", ".a", "a,", "a!", "$a", "@a", "a\n", "\na", "a\x00", "\x00", "a\t",
		"/", ":", "@", "[", "`", "{", "a/", "a:", "a@", "a[", "a`", "a{", "/a", ":a", "[a", "`a", "{a", "^", "a^", "\\", "]", "a]a",
		"\x80", "a\x80", "\xff", "a\xff", "\xe1", "a\xe1", "é", "aé", "ａ", "a٣", "\u017f", "\u212a", "a\xdf", "\xc1", "\xda\x80",
		strings.Repeat("a", 31), strings.Repeat("_", 31), strings.Repeat("a", 60), strings.Repeat("a", 30) + "\n", strings.Repeat("a", 29) + "-", "1" + strings.Repeat("a", 29), strings.Repeat("a", 256+5), strings.Repeat("a", 65536+5),
	}
	for _, name := range names {
		if impl.NameOk(name) {
			t.Errorf("NameOk(%q)", name)
		}
	}
}

func TestEveryByteOfAName(t *testing.T) {
	for b := range 256 {
		sign := string([]byte{byte(b)})
		if got, want := impl.NameOk(sign), nameForm.MatchString(sign); got != want {
			t.Errorf("NameOk(%q): %v", sign, got)
		}
		for _, name := range []string{"a" + sign, "_" + sign + "a", "Z9" + sign, sign + "a", strings.Repeat("b", 29) + sign} {
			if got, want := impl.NameOk(name), nameForm.MatchString(name); got != want {
				t.Errorf("NameOk(%q): %v", name, got)
			}
		}
	}
}

func TestEveryPlaceOfAName(t *testing.T) {
	for many := 1; many <= 35; many++ {
		name := strings.Repeat("n", many)
		if got, want := impl.NameOk(name), many <= 30; got != want {
			t.Errorf("a name of %d bytes: %v", many, got)
		}
		for at := range many {
			for _, wrong := range []string{"-", ".", " ", "{", "\xff"} {
				if text := name[:at] + wrong + name[at+1:]; impl.NameOk(text) {
					t.Errorf("NameOk(%q)", text)
				}
			}
			text := name[:at] + "7" + name[at+1:]
			if got, want := impl.NameOk(text), at > 0 && many <= 30; got != want {
				t.Errorf("NameOk(%q): %v", text, got)
			}
		}
	}
}

func TestWholeNumbers(t *testing.T) {
	for _, text := range wholeTexts {
		if !impl.IntOk(text) || impl.FloatOk(text) {
			t.Errorf("%q: IntOk %v, FloatOk %v", text, impl.IntOk(text), impl.FloatOk(text))
		}
	}
}

func TestOtherNumbers(t *testing.T) {
	for _, text := range otherTexts {
		if impl.IntOk(text) || !impl.FloatOk(text) || impl.Fits32(text) {
			t.Errorf("%q: IntOk %v, FloatOk %v, Fits32 %v", text, impl.IntOk(text), impl.FloatOk(text), impl.Fits32(text))
		}
	}
}

func TestWhatIsNoNumber(t *testing.T) {
	for _, text := range noNumbers {
		if impl.IntOk(text) || impl.FloatOk(text) || impl.Fits32(text) {
			t.Errorf("%q: IntOk %v, FloatOk %v, Fits32 %v", text, impl.IntOk(text), impl.FloatOk(text), impl.Fits32(text))
		}
	}
}

func TestNamesAreNoNumbers(t *testing.T) {
	for _, number := range append(append([]string{}, wholeTexts...), otherTexts...) {
		if impl.NameOk(number) || impl.Word(number) {
			t.Errorf("the number %q is a name or word", number)
		}
	}
	for _, name := range []string{"a", "_", "e", "E", "e1", "E1", "_1", "_0", "x0", "true", "false", "null", "Inf", "NaN", "nan", "infinity", strings.Repeat("e", 30)} {
		if impl.IntOk(name) || impl.FloatOk(name) || impl.Fits32(name) || !impl.NameOk(name) {
			t.Errorf("the name %q is a number, or none", name)
		}
	}
}

func TestNumbersAtTheirGreatestLength(t *testing.T) {
	for many := 1; many <= 90; many++ {
		fits := many <= 40
		figures := strings.Repeat("8", many)
		if got := impl.IntOk(figures); got != fits {
			t.Errorf("IntOk of %d figures: %v", many, got)
		}
		if got := impl.IntOk("-" + figures[1:]); got != (fits && many > 1) {
			t.Errorf("IntOk of - and %d figures: %v", many-1, got)
		}
		for _, form := range []string{"0.N", "-0.N", "1e1N", "1E+1N", "-1.5e-N", "N.5", "Ne1", "-N.5e-3"} {
			text := strings.Replace(form, "N", figures, 1)
			if got, want := impl.FloatOk(text), len(text) <= 40; got != want || impl.IntOk(text) {
				t.Errorf("FloatOk of %d bytes, as %s: %v", len(text), form, got)
			}
		}
	}
	for _, many := range []int{256 + 3, 65536 + 3} {
		if text := strings.Repeat("1", many); impl.IntOk(text) || impl.FloatOk(text+".5") || impl.Fits32(text) {
			t.Errorf("a number of %d figures", many)
		}
	}
}

// Each text of few signs of numbers, and signs beside them, is held against the chapter's words.
func TestEveryShortTextOfSigns(t *testing.T) {
	look := func(text string) {
		whole, other := intForm.MatchString(text), floatForm.MatchString(text)
		if impl.IntOk(text) != whole || impl.FloatOk(text) != other {
			t.Fatalf("%q: IntOk %v, want %v, FloatOk %v, want %v", text, impl.IntOk(text), whole, impl.FloatOk(text), other)
		}
		if impl.Fits32(text) != whole {
			t.Fatalf("Fits32(%q): %v", text, impl.Fits32(text))
		}
		if impl.NameOk(text) != nameForm.MatchString(text) {
			t.Fatalf("NameOk(%q): %v", text, impl.NameOk(text))
		}
	}
	var grow func(text string, signs string, more int)
	grow = func(text string, signs string, more int) {
		look(text)
		if more == 0 {
			return
		}
		for i := range len(signs) {
			grow(text+signs[i:i+1], signs, more-1)
		}
	}
	grow("", "-+.01e", 7)
	grow("", "-.09eE_a /:", 4)
}

func TestEveryByteWithinANumber(t *testing.T) {
	for b := range 256 {
		sign := string([]byte{byte(b)})
		for _, form := range []string{"N", "-N", "1N", "N1", "-1N", "-N1", "1N1", "0N", "0N0", "1.N", "1.5N", "1N5", "1.N5", "1eN", "1eN5", "1e5N", "1e+N", "1e-5N", "1.5N3", "1.5eN", "1.5e3N"} {
			text := strings.Replace(form, "N", sign, 1)
			if got, want := impl.IntOk(text), intForm.MatchString(text); got != want {
				t.Errorf("IntOk(%q): %v", text, got)
			}
			if got, want := impl.FloatOk(text), floatForm.MatchString(text); got != want {
				t.Errorf("FloatOk(%q): %v", text, got)
			}
		}
	}
}

func TestNumbersThatFit(t *testing.T) {
	for text, want := range map[string]bool{
		"0": true, "-0": true, "1": true, "-1": true, "9": true, "10": true, "-10": true, "65536": true, "999999999": true, "1000000000": true, "-1999999999": true,
		"2147483646": true, "2147483647": true, "2147483648": false, "2147483649": false, "2147483650": false, "2147483657": false, "2200000000": false, "3000000000": false,
		"-2147483647": true, "-2147483648": true, "-2147483649": false, "-2147483650": false, "-2147483658": false, "-3000000000": false,
		"4294967295": false, "4294967296": false, "4294967297": false, "-4294967296": false, "-4294967295": false, "9999999999": false, "10000000000": false,
		"9223372036854775807": false, "9223372036854775808": false, "-9223372036854775808": false, "-9223372036854775809": false, "18446744073709551615": false, "18446744073709551616": false, "18446744073709551617": false, "-18446744073709551616": false,
		"340282366920938463463374607431768211456": false, "340282366920938463463374607431768211457": false,
		strings.Repeat("9", 40): false, "1" + strings.Repeat("0", 39): false, "-" + strings.Repeat("9", 39): false, "-1" + strings.Repeat("0", 38): false,
		"1" + strings.Repeat("0", 40): false, strings.Repeat("0", 40): false, strings.Repeat("0", 39) + "1": false,
		"1.0": false, "1e0": false, "0.0": false, "-0.0": false, "1e1": false, "01": false, "-01": false, "+1": false, "": false, "-": false, " 1": false, "1 ": false, "1_0": false, "0x1": false, "a": false,
		"02147483647": false, "+2147483647": false, "-02147483648": false,
	} {
		if got := impl.Fits32(text); got != want {
			t.Errorf("Fits32(%q): %v", text, got)
		}
	}
}

func TestNumbersAboutTheEdgesOfWhatFits(t *testing.T) {
	least, most := big.NewInt(-2147483648), big.NewInt(2147483647)
	for shift := range 120 {
		for near := int64(-3); near <= 3; near++ {
			n := new(big.Int).Add(new(big.Int).Lsh(big.NewInt(1), uint(shift)), big.NewInt(near))
			for range 2 {
				want := n.Cmp(least) >= 0 && n.Cmp(most) <= 0
				if got := impl.Fits32(n.String()); got != want || !impl.IntOk(n.String()) {
					t.Errorf("Fits32(%s): %v", n, got)
				}
				n.Neg(n)
			}
		}
	}
	for n := -2147483648 - 50; n <= -2147483648+50; n++ {
		if got := impl.Fits32(strconv.Itoa(n)); got != (n >= -2147483648) {
			t.Errorf("Fits32 of %d: %v", n, got)
		}
		if got := impl.Fits32(strconv.Itoa(-n)); got != (-n <= 2147483647) {
			t.Errorf("Fits32 of %d: %v", -n, got)
		}
	}
}

func TestTheThreeWords(t *testing.T) {
	for _, word := range []string{"true", "false", "null"} {
		if !impl.Word(word) || !impl.NameOk(word) {
			t.Errorf("Word(%q) is false", word)
		}
		for at := range len(word) {
			for b := range 256 {
				other := word[:at] + string([]byte{byte(b)}) + word[at+1:]
				if got := impl.Word(other); got != (other == word) {
					t.Errorf("Word(%q): %v", other, got)
				}
				if longer := word[:at] + string([]byte{byte(b)}) + word[at:]; impl.Word(longer) {
					t.Errorf("Word(%q)", longer)
				}
			}
			if shorter := word[:at] + word[at+1:]; impl.Word(shorter) {
				t.Errorf("Word(%q)", shorter)
			}
		}
		for _, wrong := range []string{strings.ToUpper(word), strings.ToUpper(word[:1]) + word[1:], word + word, word + " ", " " + word, word + "\n", word + "\x00", "\"" + word + "\"", word + "s", "un" + word} {
			if impl.Word(wrong) {
				t.Errorf("Word(%q)", wrong)
			}
		}
	}
	for _, wrong := range []string{"", " ", "nil", "none", "yes", "no", "on", "undefined", "0", "1", "truefalse", "truenull", "nulll", "t", "f", "n"} {
		if impl.Word(wrong) {
			t.Errorf("Word(%q)", wrong)
		}
	}
}
