package tests

import (
	"math"
	"slices"
	"strings"
	"testing"

	"loop.example/g00964/impl"
)

// scalarBytes is worked out from the bits alone, so that it stands for itself beside the program.
func scalarBytes(n int) string {
	tail := func(shift int) byte { return byte(128 + n>>shift&63) }
	switch {
	case n < 0 || n > 1114111 || 55296 <= n && n <= 57343:
		return ""
	case n < 128:
		return string([]byte{byte(n)})
	case n < 2048:
		return string([]byte{byte(192 + n>>6), tail(0)})
	case n < 65536:
		return string([]byte{byte(224 + n>>12), tail(6), tail(0)})
	}
	return string([]byte{byte(240 + n>>18), tail(12), tail(6), tail(0)})
}

var wrongTexts = []string{
	"\x80", "\xbf", "\xc0", "\xc1", "\xf5", "\xff", "\xfe",
	"\xc3", "\xe2", "\xe2\x82", "\xf0", "\xf0\x9f", "\xf0\x9f\x98", "\xc3a", "\xe2\x82a", "\xe2a\x82", "\xf0\x9f\x98a", "\xf0\x9fa\x98",
	"\xc0\x80", "\xc1\xbf", "\xc0\xaf", "\xe0\x80\x80", "\xe0\x9f\xbf", "\xe0\x81\xa1", "\xf0\x80\x80\x80", "\xf0\x8f\xbf\xbf", "\xf0\x82\x82\xac",
	"\xed\xa0\x80", "\xed\xaf\xbf", "\xed\xb0\x80", "\xed\xbf\xbf", "\xed\xa0\xbd\xed\xb8\x80",
	"\xf4\x90\x80\x80", "\xf4\xbf\xbf\xbf", "\xf5\x80\x80\x80", "\xf7\xbf\xbf\xbf", "\xf8\x88\x80\x80\x80", "\xfc\x84\x80\x80\x80\x80",
	"\xc3\xc3\xa9", "\xe2\x82\xc3", "\xc3\x28", "\xc3\xc0", "\xe2\x82\xff", "\xe2\xff\xac", "\xf0\x9f\x98\xc0", "\xef\xbf", "\xef\xbf\xbc\xbd",
}

func TestRunesLimit(t *testing.T) {
	if impl.MaxRune != 1114111 {
		t.Errorf("MaxRune is %d", impl.MaxRune)
	}
}

func TestRuneTextOfEveryScalar(t *testing.T) {
	for n := -10; n <= impl.MaxRune+10; n++ {
		if got := impl.RuneText(n); got != scalarBytes(n) {
			t.Fatalf("RuneText(%d): %q, want %q", n, got, scalarBytes(n))
		}
	}
}

func TestRuneTextAtItsEdges(t *testing.T) {
	for n, want := range map[int]string{
		0: "\x00", 65: "A", 127: "\x7f",
		128: "\xc2\x80", 233: "\xc3\xa9", 2047: "\xdf\xbf",
		2048: "\xe0\xa0\x80", 8364: "\xe2\x82\xac", 55295: "\xed\x9f\xbf", 57344: "\xee\x80\x80", 65533: "\xef\xbf\xbd", 65535: "\xef\xbf\xbf",
		65536: "\xf0\x90\x80\x80", 128512: "\xf0\x9f\x98\x80", impl.MaxRune: "\xf4\x8f\xbf\xbf",
	} {
		if got := impl.RuneText(n); got != want {
			t.Errorf("RuneText(%d): %q, want %q", n, got, want)
		}
	}
}

func TestRuneTextOfWhatIsNoScalar(t *testing.T) {
	numbers := []int{-1, -2, -65, -128, 55296, 56319, 56320, 57343, impl.MaxRune + 1, 2 * impl.MaxRune, math.MinInt, math.MinInt + 1, math.MaxInt, math.MaxInt - 1, math.MinInt32, math.MaxInt32, math.MinInt32 - 1}
	for shift := 21; shift < 63; shift++ {
		numbers = append(numbers, 1<<shift, 1<<shift+65, 1<<shift+8364, -(1 << shift), -(1<<shift)+65)
	}
	for _, n := range numbers {
		if got := impl.RuneText(n); got != "" {
			t.Errorf("RuneText(%d): %q", n, got)
		}
	}
}

func TestEachScalarComesBackFromItsBytes(t *testing.T) {
	for n := range impl.MaxRune + 1 {
		text := scalarBytes(n)
		if text == "" {
			continue
		}
		back, many := impl.RuneAt(text, 0)
		if back != n || many != len(text) {
			t.Fatalf("RuneAt the beginning of the text of %d: %d %d", n, back, many)
		}
		if all := impl.RunesOf(text); !impl.TextOk(text) || len(all) != 1 || all[0] != n {
			t.Fatalf("RunesOf the text of %d: %v", n, all)
		}
	}
}

func TestRuneAtEveryPlace(t *testing.T) {
	const text = "a\xc3\xa9\x00\xe2\x82\xac\xf0\x9f\x98\x80\xef\xbf\xbdz\x7f"
	want := [][2]int{
		{97, 1}, {233, 2}, {-1, 0}, {0, 1}, {8364, 3}, {-1, 0}, {-1, 0}, {128512, 4}, {-1, 0}, {-1, 0}, {-1, 0}, {65533, 3}, {-1, 0}, {-1, 0}, {122, 1}, {127, 1},
	}
	for at, w := range want {
		if n, many := impl.RuneAt(text, at); n != w[0] || many != w[1] {
			t.Errorf("RuneAt %d: %d %d, want %v", at, n, many, w)
		}
	}
	for _, at := range []int{-1, -2, math.MinInt, len(text), len(text) + 1, len(text) + 100, math.MaxInt} {
		if n, many := impl.RuneAt(text, at); n != -1 || many != 0 {
			t.Errorf("RuneAt %d: %d %d", at, n, many)
		}
	}
}

func TestRuneAtOfNothing(t *testing.T) {
	for _, at := range []int{-1, 0, 1, math.MinInt, math.MaxInt} {
		if n, many := impl.RuneAt("", at); n != -1 || many != 0 {
			t.Errorf("RuneAt %d of nothing: %d %d", at, n, many)
		}
	}
}

func TestRuneAtTheLastByte(t *testing.T) {
	for text, want := range map[string][2]int{
		"a": {97, 1}, "ab": {98, 1}, "é": {-1, 0}, "aé": {-1, 0}, "a\xc3": {-1, 0}, "\xc3\xa9\xff": {-1, 0}, "\xffb": {98, 1},
	} {
		if n, many := impl.RuneAt(text, len(text)-1); n != want[0] || many != want[1] {
			t.Errorf("RuneAt the last byte of %q: %d %d, want %v", text, n, many, want)
		}
	}
}

func TestRuneAtLooksForwardAlone(t *testing.T) {
	for _, wrong := range wrongTexts {
		for _, n := range []int{0, 65, 233, 8364, 65533, 128512} {
			text := wrong + scalarBytes(n) + wrong
			if got, many := impl.RuneAt(text, len(wrong)); got != n || many != len(scalarBytes(n)) {
				t.Errorf("RuneAt %d of %q: %d %d, want %d", len(wrong), text, got, many, n)
			}
		}
	}
}

func TestEveryByteAtABeginning(t *testing.T) {
	for b := range 256 {
		alone := string([]byte{byte(b)})
		n, many := impl.RuneAt(alone, 0)
		if b < 128 && (n != b || many != 1 || !impl.TextOk(alone)) {
			t.Errorf("byte %d is itself: %d %d", b, n, many)
		}
		if b >= 128 && (n != -1 || many != 0 || impl.TextOk(alone)) {
			t.Errorf("byte %d alone is nothing: %d %d", b, n, many)
		}
		if b < 128 || 194 <= b && b <= 244 {
			continue
		}
		for _, more := range []string{"\x80", "\xbf", "a", "\x80\x80", "\xbf\xbf", "\x80\x80\x80", "\xa0\xa0\xa0", "\xbf\xbf\xbf\xbf"} {
			if n, many := impl.RuneAt(alone+more, 0); n != -1 || many != 0 || impl.TextOk(alone+more) {
				t.Errorf("byte %d begins nothing: %d %d", b, n, many)
			}
		}
	}
}

// Each run of two and of three bytes, and of four at the edges of what a byte may be there, is a scalar or none.
func TestEveryBeginningIsOneScalarOrNone(t *testing.T) {
	scalars := make(map[string]int, impl.MaxRune)
	for n := range impl.MaxRune + 1 {
		if text := scalarBytes(n); text != "" {
			scalars[text] = n
		}
	}
	look := func(text string) {
		want, wantMany := -1, 0
		for many := 1; many <= len(text); many++ {
			if n, ok := scalars[text[:many]]; ok {
				want, wantMany = n, many
			}
		}
		if n, many := impl.RuneAt(text, 0); n != want || many != wantMany {
			t.Fatalf("RuneAt the beginning of %q: %d %d, want %d %d", text, n, many, want, wantMany)
		}
		if ok := impl.TextOk(text); ok && wantMany == 0 || !ok && wantMany == len(text) {
			t.Fatalf("TextOk(%q): %v", text, ok)
		}
	}
	edges := []byte{0, 97, 127, 128, 143, 144, 159, 160, 191, 192, 194, 224, 255}
	for first := range 256 {
		for second := range 256 {
			look(string([]byte{byte(first), byte(second)}))
			for _, third := range edges {
				look(string([]byte{byte(first), byte(second), third}))
				for _, fourth := range edges {
					look(string([]byte{byte(first), byte(second), third, fourth}))
				}
			}
		}
	}
}

func TestTextsOfScalars(t *testing.T) {
	for text, want := range map[string][]int{
		"":                             {},
		"a":                            {97},
		"\x00\x00":                     {0, 0},
		"naïve":                        {110, 97, 239, 118, 101},
		"a\xf0\x9f\x98\x80":            {97, 128512},
		"\xe2\x82\xac\xc3\xa9\x7f":     {8364, 233, 127},
		"\xef\xbf\xbd":                 {65533},
		"\xef\xbf\xbda\xef\xbf\xbd":    {65533, 97, 65533},
		"\xed\x9f\xbf\xee\x80\x80":     {55295, 57344},
		"\xf4\x8f\xbf\xbf\xef\xbb\xbf": {1114111, 65279},
	} {
		if got := impl.RunesOf(text); !impl.TextOk(text) || !slices.Equal(got, want) {
			t.Errorf("RunesOf(%q): %v, want %v", text, got, want)
		}
	}
}

func TestATextIsItsScalars(t *testing.T) {
	edges := []int{0, 10, 65, 127, 128, 2047, 2048, 55295, 57344, 65533, 65535, 65536, impl.MaxRune}
	for _, one := range edges {
		for _, two := range edges {
			for _, three := range edges {
				want := []int{one, two, three}
				text := impl.RuneText(one) + impl.RuneText(two) + impl.RuneText(three)
				if got := impl.RunesOf(text); !impl.TextOk(text) || !slices.Equal(got, want) {
					t.Fatalf("RunesOf(%q): %v, want %v", text, got, want)
				}
			}
		}
	}
}

func TestALongText(t *testing.T) {
	text, want := strings.Builder{}, []int{}
	for n := 1; n < impl.MaxRune; n += 37 {
		if scalarBytes(n) != "" {
			text.WriteString(scalarBytes(n))
			want = append(want, n)
		}
	}
	if got := impl.RunesOf(text.String()); !impl.TextOk(text.String()) || !slices.Equal(got, want) {
		t.Errorf("a text of %d bytes is %d scalars, want %d", text.Len(), len(got), len(want))
	}
	if wrong := text.String() + "\x80"; impl.TextOk(wrong) || len(impl.RunesOf(wrong)) != 0 {
		t.Error("one wrong byte at the end of a long text")
	}
}

func TestOneWrongByteMakesNoText(t *testing.T) {
	for _, wrong := range wrongTexts {
		for _, text := range []string{wrong, "a" + wrong, wrong + "a", "é" + wrong + "é", "a\xf0\x9f\x98\x80" + wrong, "\xef\xbf\xbd" + wrong, wrong + "\xef\xbf\xbd"} {
			if impl.TextOk(text) {
				t.Errorf("TextOk(%q)", text)
			}
			if got := impl.RunesOf(text); len(got) != 0 {
				t.Errorf("RunesOf(%q): %v", text, got)
			}
		}
	}
}

func TestHalvesOfPairsAreNoText(t *testing.T) {
	for second := 0xa0; second <= 0xbf; second++ {
		for third := 0x80; third <= 0xbf; third++ {
			half := string([]byte{0xed, byte(second), byte(third)})
			n, many := impl.RuneAt(half, 0)
			if n != -1 || many != 0 || impl.TextOk(half) || len(impl.RunesOf(half)) != 0 {
				t.Fatalf("a half of a pair, %q: %d %d", half, n, many)
			}
		}
	}
}

func TestRunesOfAnswersNewMemory(t *testing.T) {
	one := impl.RunesOf("abc")
	one[0] = 0
	_ = append(one[:1], 1, 2, 3)
	if two := impl.RunesOf("abc"); !slices.Equal(two, []int{97, 98, 99}) {
		t.Errorf("an answer has changed: %v", two)
	}
}
