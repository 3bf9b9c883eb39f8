package tests

import (
	"fmt"
	"math"
	"reflect"
	"slices"
	"strings"
	"testing"
	"unsafe"

	"loop.example/g00964/impl"
)

// The chapter's words as a table: each token is of a class, and these pairs of classes are apart.
var apartClasses = []string{"nn", "nd", "dn", "dd", "d.", "tt"}

func classOf(token impl.Token) string {
	if token.Kind == 1 && token.Text == "..." {
		return "."
	}
	return map[int]string{1: "s", 2: "n", 3: "d", 4: "d", 5: "t"}[token.Kind]
}

func apartOracle(a impl.Token, b impl.Token) bool {
	return slices.Contains(apartClasses, classOf(a)+classOf(b))
}

// pieceOf has the text of a right token, and nothing for another one.
func pieceOf(token impl.Token) string {
	right := map[int]bool{
		1: slices.Contains(allSigns, token.Text),
		2: nameOracle(token.Text),
		3: numberOracle(token.Text) == 3,
		4: numberOracle(token.Text) == 4,
	}
	switch {
	case token.Kind == 5:
		return escapedOracle(token.Text)
	case right[token.Kind]:
		return token.Text
	}
	return ""
}

func shortOracle(list []impl.Token) string {
	text := ""
	for i, token := range list {
		piece := pieceOf(token)
		if piece == "" || i >= 2500 {
			return ""
		}
		if i > 0 && apartOracle(list[i-1], token) {
			text += " "
		}
		text += piece
	}
	if len(text) > 12000 {
		return ""
	}
	return text
}

func shownTokens(list []impl.Token) string {
	return fmt.Sprintf("%.300s", fmt.Sprint(list))
}

func wantApartTokens(t *testing.T, apart bool, a impl.Token, b impl.Token) {
	t.Helper()
	if got := impl.Apart(a, b); got != apart {
		t.Errorf("Apart(%v, %v): %v", a, b, got)
	}
}

func wantShortText(t *testing.T, text string, list ...impl.Token) {
	t.Helper()
	if got := impl.ShortText(list); got != text {
		t.Errorf("ShortText(%s): %.300q, want %.300q", shownTokens(list), got, text)
	}
}

func wantSameList(t *testing.T, same bool, a []impl.Token, b []impl.Token) {
	t.Helper()
	if impl.SameTokens(a, b) != same || impl.SameTokens(b, a) != same {
		t.Errorf("SameTokens is not %v: %s and %s", same, shownTokens(a), shownTokens(b))
	}
}

// wantBack is for right lists whose short text fits a source: they come back from it, in their order.
func wantBack(t *testing.T, list ...impl.Token) {
	t.Helper()
	text := shortOracle(list)
	wantShortText(t, text, list...)
	got, fault := impl.TokensOf(text)
	if fault != (impl.Fault{}) || len(got) != len(list) || !impl.SameTokens(list, got) || !impl.SameTokens(got, list) {
		t.Errorf("TokensOf(%.300q): %s, %v, want %s", text, shownTokens(got), fault, shownTokens(list))
	}
	for i := range min(len(got), len(list)) {
		if got[i].Kind != list[i].Kind || got[i].Text != list[i].Text {
			t.Errorf("TokensOf(%.300q): %v, want %v", text, got[i], list[i])
		}
	}
}

func wantShortened(t *testing.T, s string, text string) {
	t.Helper()
	if got, fault := impl.Shorten(s); got != text || fault != (impl.Fault{}) {
		t.Errorf("Shorten(%.300q): %.300q, %v, want %.300q", s, got, fault, text)
	}
	if got, fault := impl.Shorten(text); got != text || fault != (impl.Fault{}) {
		t.Errorf("Shorten(%.300q): %.300q, %v, and not the same again", text, got, fault)
	}
}

func wantNotShortened(t *testing.T, s string, code int, at int) {
	t.Helper()
	if got, fault := impl.Shorten(s); got != "" || fault != (impl.Fault{Code: code, At: at}) {
		t.Errorf("Shorten(%.300q): %.300q, %v, want nothing and {%d %d}", s, got, fault, code, at)
	}
}

func wantShortenedAsOracle(t *testing.T, s string) {
	t.Helper()
	tokens, wrong := tokensOracle(s)
	if wrong.Code != 0 {
		wantNotShortened(t, s, wrong.Code, wrong.At)
		return
	}
	short := shortOracle(tokens)
	wantShortened(t, s, short)
	spaced := strings.Join(sampleTokens(s), " ")
	if len(short) > len(spaced) {
		t.Errorf("Shorten(%.300q) has %d bytes, and %d with a blank between all", s, len(short), len(spaced))
	}
	if len(spaced) <= 12000 {
		wantShortened(t, spaced, short)
	}
}

func wantTidied(t *testing.T, s string, text string) {
	t.Helper()
	if got, fault := impl.Tidy(s); got != text || fault != (impl.Fault{}) {
		t.Errorf("Tidy(%.300q): %.300q, %v, want %.300q", s, got, fault, text)
	}
	if got, fault := impl.Tidy(text); got != text || fault != (impl.Fault{}) {
		t.Errorf("Tidy(%.300q): %.300q, %v, and not the same again", text, got, fault)
	}
}

func wantNotTidied(t *testing.T, s string, code int, at int) {
	t.Helper()
	if got, fault := impl.Tidy(s); got != "" || fault != (impl.Fault{Code: code, At: at}) {
		t.Errorf("Tidy(%.300q): %.300q, %v, want nothing and {%d %d}", s, got, fault, code, at)
	}
}

func wantTidiedAsOracle(t *testing.T, s string) {
	t.Helper()
	if _, wrong := parseOracle(s); wrong.Code != 0 {
		wantNotTidied(t, s, wrong.Code, wrong.At)
		return
	}
	d, _ := impl.Parse(s)
	if text := printOracle(d); text != "" {
		wantTidied(t, s, text)
		return
	}
	wantNotTidied(t, s, impl.FtLong, 0)
}

// wantDocBack is for right documents that have a print: they come back from it, as short as can be and tidied again.
func wantDocBack(t *testing.T, d impl.Doc) {
	t.Helper()
	text := impl.Print(d)
	tokens, fault := impl.TokensOf(text)
	if text == "" || fault.Code != 0 {
		t.Errorf("Print(%.300s): %.300q, %v", shownDoc(d), text, fault)
	}
	short := impl.ShortText(tokens)
	wantShortened(t, text, short)
	wantTidied(t, text, text)
	wantTidied(t, short, text)
	for _, s := range []string{text, short} {
		got, fault := impl.Parse(s)
		if fault.Code != 0 || !impl.SameDoc(got, d) || !impl.SameDoc(d, got) {
			t.Errorf("Parse(%.300q): %.300s, %v, want %.300s", s, shownDoc(got), fault, shownDoc(d))
		}
	}
	if again, fault := impl.TokensOf(short); fault.Code != 0 || !impl.SameTokens(tokens, again) {
		t.Errorf("TokensOf(%.300q) are not those of %.300q", short, text)
	}
	if spaced := len(strings.Join(sampleTokens(text), " ")); len(short) > spaced || len(short) > len(text) {
		t.Errorf("%.300q has %d bytes, its print %d, and %d with a blank between all", short, len(short), len(text), spaced)
	}
}

func wantDocBackAsOracle(t *testing.T, d impl.Doc) {
	t.Helper()
	wantDocBack(t, d)
	text := printOracle(d)
	tokens, _ := tokensOracle(text)
	wantShortened(t, text, shortOracle(tokens))
	wantTidied(t, shortOracle(tokens), text)
	for _, gap := range []string{" ", "\n,", "#{\"\r"} {
		if loose := gap + strings.Join(docPieces(d), gap); len(loose) <= 12000 && len(tokens) < 2400 {
			wantTidied(t, loose, text)
		}
	}
}

var (
	points    = tok(impl.TkSign, "...", 0)
	zeroToken = impl.Token{}
)

// Kinds that are none, those among them that a narrow number would take for one.
var noTokenKinds = []int{0, 6, 7, 8, -1, -2, -3, -4, -5, -6, 255, 256, 256 + 1, 256 + 2, 256 + 3, 256 + 4, 256 + 5, 1<<16 + 3, 1<<32 + 1, 1<<32 + 2, 1<<32 + 5, math.MinInt, math.MinInt + 3, math.MaxInt}

func TestEachKindBesideEachKind(t *testing.T) {
	name, whole, other, text := tok(2, "a", 0), tok(3, "1", 0), tok(4, "1.5", 0), tok(5, "a", 0)
	for _, pair := range [][2]impl.Token{{name, name}, {name, whole}, {name, other}, {whole, name}, {whole, whole}, {whole, other}, {other, name}, {other, whole}, {other, other}, {whole, points}, {other, points}, {text, text}} {
		wantApartTokens(t, true, pair[0], pair[1])
	}
	for _, pair := range [][2]impl.Token{{name, text}, {whole, text}, {other, text}, {text, name}, {text, whole}, {text, other}, {name, points}, {points, name}, {points, whole}, {points, other}, {points, text}, {text, points}, {points, points}} {
		wantApartTokens(t, false, pair[0], pair[1])
	}
	for _, sign := range allSigns {
		for _, one := range []impl.Token{name, whole, other, text} {
			wantApartTokens(t, sign == "..." && one.Kind != 2 && one.Kind != 5, one, tok(1, sign, 0))
			wantApartTokens(t, false, tok(1, sign, 0), one)
		}
		for _, beside := range allSigns {
			wantApartTokens(t, false, tok(1, sign, 0), tok(1, beside, 0))
		}
	}
}

func TestApartOfAnyTwoTokens(t *testing.T) {
	tokens := someTokens()
	for _, a := range tokens {
		for _, b := range tokens {
			wantApartTokens(t, apartOracle(a, b), a, b)
			// Where they stand says nothing.
			a.At, b.At = b.At+7, math.MinInt
			wantApartTokens(t, apartOracle(a, b), a, b)
			a.At, b.At = math.MaxInt, -1
			wantApartTokens(t, apartOracle(a, b), a, b)
		}
	}
}

// Of the Text nothing counts but whether a sign is the one of three points.
func TestApartHangsOnTheKind(t *testing.T) {
	texts := append([]string{"", "a", "1", "1.5", "...", "..", "....", "... ", " ...", "!", "{", "\"", "-", "e", "\xff", "…", strings.Repeat("a", 300)}, allSigns...)
	for _, text := range texts {
		for _, beside := range texts {
			for kind := 1; kind <= 5; kind++ {
				for other := 1; other <= 5; other++ {
					a, b := tok(kind, text, 0), tok(other, beside, 0)
					wantApartTokens(t, apartOracle(a, b), a, b)
				}
			}
		}
	}
	// What is no sign is not the one of three points.
	for _, number := range []impl.Token{tok(3, "1", 0), tok(4, "1.5", 0)} {
		wantApartTokens(t, true, number, tok(1, "...", 0))
		wantApartTokens(t, false, number, tok(5, "...", 0))
		wantApartTokens(t, false, tok(5, "...", 0), number)
		wantApartTokens(t, true, number, tok(2, "...", 0))
		wantApartTokens(t, false, number, tok(1, "..", 0))
		wantApartTokens(t, false, number, tok(1, "....", 0))
		wantApartTokens(t, false, number, tok(1, "", 0))
		wantApartTokens(t, false, tok(1, "...", 0), number)
	}
	wantApartTokens(t, false, tok(2, "a", 0), tok(1, "...", 0))
	wantApartTokens(t, false, tok(5, "...", 0), tok(1, "...", 0))
}

func TestApartOfKindsThatAreNone(t *testing.T) {
	for _, kind := range noTokenKinds {
		for _, text := range []string{"", "a", "1", "1.5", "...", "{"} {
			none := tok(kind, text, 0)
			for _, one := range append(someTokens(), zeroToken) {
				wantApartTokens(t, false, none, one)
				wantApartTokens(t, false, one, none)
			}
			for _, other := range noTokenKinds {
				wantApartTokens(t, false, none, tok(other, text, 0))
			}
		}
	}
}

func TestTwoTextsSideBySide(t *testing.T) {
	texts := []string{"", "a", "\"", "\"\"", "\"\"\"", "\\", "\\\"\"\"", " ", "...", "\n", "é", "#", strings.Repeat("\x01", 200)}
	for _, a := range texts {
		for _, b := range texts {
			one, other := tok(5, a, 0), tok(5, b, 0)
			wantApartTokens(t, true, one, other)
			wantShortText(t, escapedOracle(a)+" "+escapedOracle(b), one, other)
			wantBack(t, one, other)
			for _, c := range texts {
				wantBack(t, one, other, tok(5, c, 0))
				wantBack(t, one, tok(2, "a", 0), other, tok(1, "!", 0), tok(5, c, 0), tok(3, "1", 0))
			}
			wantShortened(t, escapedOracle(a)+","+escapedOracle(b), escapedOracle(a)+" "+escapedOracle(b))
		}
		if a != "" {
			wantShortened(t, escapedOracle(a)+escapedOracle(a), escapedOracle(a)+" "+escapedOracle(a))
			wantShortened(t, escapedOracle(a)+`""`, escapedOracle(a)+` ""`)
		}
	}
	// Without the blank they would be a block.
	wantShortText(t, `"" ""`, tok(5, "", 0), tok(5, "", 0))
	wantShortText(t, `"" "" ""`, tok(5, "", 0), tok(5, "", 0), tok(5, "", 0))
	wantShortText(t, `"" "a"`, tok(5, "", 0), tok(5, "a", 0))
	wantShortened(t, `""""""""`, `"" ""`)
	wantShortened(t, `"""""" """"""`, `"" ""`)
	wantShortened(t, `"a""""b"""`, `"a" "b"`)
}

func TestShortTextsWrittenOut(t *testing.T) {
	wantShortText(t, "")
	if impl.ShortText(nil) != "" || impl.ShortText([]impl.Token{}) != "" || impl.ShortText(make([]impl.Token, 0, 5)) != "" {
		t.Error("ShortText of no token is not empty")
	}
	for _, token := range someTokens() {
		wantShortText(t, pieceOf(token), token)
		wantBack(t, token)
		token.At = -9
		wantShortText(t, pieceOf(token), token)
	}
	name, whole, other, text, brace := tok(2, "a", 0), tok(3, "-1", 0), tok(4, "1.5", 0), tok(5, "b\n", 0), tok(1, "{", 0)
	for want, list := range map[string][]impl.Token{
		`a`:                         {name},
		`a a`:                       {name, name},
		`a -1`:                      {name, whole},
		`-1 a`:                      {whole, name},
		`-1 -1 1.5 1.5 a`:           {whole, whole, other, other, name},
		`a...a`:                     {name, points, name},
		`-1 ...-1`:                  {whole, points, whole},
		`1.5 ...1.5`:                {other, points, other},
		`......`:                    {points, points},
		`{a{-1{1.5{"b\n"`:           {brace, name, brace, whole, brace, other, brace, text},
		`"b\n"a"b\n"`:               {text, name, text},
		`"b\n"-1"b\n"1.5`:           {text, whole, text, other},
		`"b\n" "b\n"..."b\n"{"b\n"`: {text, text, points, text, brace, text},
		`a"b\n"...-1 ...{`:          {name, text, points, whole, points, brace},
		`{{{`:                       {brace, brace, brace},
	} {
		wantShortText(t, want, list...)
		wantBack(t, list...)
		wantShortened(t, want, want)
	}
}

func TestAllSignsSideBySide(t *testing.T) {
	list := []impl.Token{}
	for _, sign := range allSigns {
		list = append(list, tok(1, sign, 0))
	}
	wantShortText(t, "!$&()...:=@[]{|}", list...)
	wantBack(t, list...)
	for _, sign := range allSigns {
		wantShortText(t, "a"+sign+"a"+sign+"\"a\""+sign+sign+"1"+map[bool]string{true: " "}[sign == "..."]+sign+"1", tok(2, "a", 0), tok(1, sign, 0), tok(2, "a", 0), tok(1, sign, 0), tok(5, "a", 0), tok(1, sign, 0), tok(1, sign, 0), tok(3, "1", 0), tok(1, sign, 0), tok(3, "1", 0))
	}
}

func TestPairsOfTokensComeBackFromTheirShortText(t *testing.T) {
	tokens := someTokens()
	for _, a := range tokens {
		for _, b := range tokens {
			wantBack(t, a, b)
		}
	}
}

// fewTokens has one or two of each class.
func fewTokens() []impl.Token {
	return []impl.Token{tok(1, "{", 0), tok(1, "!", 0), points, tok(2, "a", 0), tok(2, "e5", 0), tok(3, "0", 0), tok(3, "-1", 0), tok(4, "1e5", 0), tok(4, "-0.5", 0), tok(5, "", 0), tok(5, "\"", 0), tok(5, "a\\", 0)}
}

func eachList[T any](signs []T, most int, see func([]T)) {
	var grow func([]T)
	grow = func(list []T) {
		see(list)
		if len(list) == most {
			return
		}
		for _, sign := range signs {
			grow(append(slices.Clone(list), sign))
		}
	}
	grow(nil)
}

func TestTokensInEveryOrderComeBack(t *testing.T) {
	eachList(fewTokens(), 4, func(list []impl.Token) { wantBack(t, list...) })
}

func TestLongListsComeBack(t *testing.T) {
	tokens := someTokens()
	for step := range 40 {
		list := []impl.Token{}
		for i := range tokens {
			token := tokens[(i*(2*step+1)+step)%len(tokens)]
			token.At = i*step - 7
			list = append(list, token)
		}
		wantBack(t, list...)
		slices.Reverse(list)
		wantBack(t, list...)
		for at := range list {
			if at%9 == step%9 {
				wantBack(t, list[at:]...)
				wantBack(t, list[:at]...)
			}
		}
	}
}

// notOkTokens has, for each kind and for none, what is no token.
func notOkTokens() []impl.Token {
	tokens := []impl.Token{zeroToken, tok(1, "", 0), tok(1, "..", 0), tok(1, "a", 0), tok(1, "!!", 0), tok(2, "", 0), tok(2, "1a", 0), tok(2, "é", 0), tok(2, "...", 0), tok(2, tooLongName, 0), tok(2, "a b", 0), tok(3, "", 0), tok(3, "01", 0), tok(3, "1.5", 0), tok(3, "a", 0), tok(3, "-", 0), tok(4, "", 0), tok(4, "1", 0), tok(4, "1.", 0), tok(4, ".5", 0), tok(5, "\xff", 0), tok(5, "a\xc3", 0), tok(5, strings.Repeat("a", 201), 0), tok(5, strings.Repeat("é", 101), 0), tok(2, strings.Repeat("a", 20000), 0)}
	for _, kind := range noTokenKinds {
		for _, text := range []string{"", "a", "1", "1.5", "..."} {
			tokens = append(tokens, tok(kind, text, 0))
		}
	}
	return tokens
}

func TestShortTextOfWhatIsNoToken(t *testing.T) {
	right := []impl.Token{tok(1, "{", 0), tok(2, "a", 0), tok(3, "1", 0), tok(4, "1.5", 0), tok(5, "x", 0)}
	for _, wrong := range notOkTokens() {
		if pieceOf(wrong) != "" {
			t.Errorf("%v is right", wrong)
		}
		wantShortText(t, "", wrong)
		wantShortText(t, "", wrong, wrong)
		for _, one := range right {
			wantShortText(t, "", wrong, one)
			wantShortText(t, "", one, wrong)
			wantShortText(t, "", one, wrong, one)
		}
		for _, list := range wrongAt(wrong, right...) {
			wantShortText(t, "", list...)
		}
		many := slices.Repeat(right, 400)
		many[1999] = wrong
		wantShortText(t, "", many...)
	}
}

func TestShortTextOfManyTokens(t *testing.T) {
	for _, one := range []impl.Token{tok(1, "!", 0), points, tok(2, "a", 0), tok(3, "1", 0), tok(4, "1e5", 0), tok(5, "", 0), tok(5, "a", 0)} {
		for _, many := range []int{1, 2, 2499, 2500} {
			list := slices.Repeat([]impl.Token{one}, many)
			gap := map[bool]string{true: " "}[one.Kind != 1]
			wantShortText(t, strings.TrimSuffix(strings.Repeat(pieceOf(one)+gap, many), " "), list...)
			wantBack(t, list...)
		}
		for _, many := range []int{2501, 2502, 3000, 5000, 100000} {
			wantShortText(t, "", slices.Repeat([]impl.Token{one}, many)...)
		}
	}
	// The one that is too many counts wherever it stands.
	signs := slices.Repeat([]impl.Token{tok(1, "!", 0)}, 2500)
	for _, one := range fewTokens() {
		for _, at := range []int{0, 1, 1250, 2499, 2500} {
			wantShortText(t, "", slices.Insert(slices.Clone(signs), at, one)...)
		}
		wantBack(t, append(slices.Clone(signs[:2499]), one)...)
		wantBack(t, append([]impl.Token{one}, signs[:2499]...)...)
	}
	for _, wrong := range []impl.Token{zeroToken, tok(2, "", 0)} {
		wantShortText(t, "", append(slices.Clone(signs), wrong)...)
		wantShortText(t, "", append(slices.Clone(signs[:2499]), wrong)...)
	}
}

func TestShortTextsAtTheirGreatestLength(t *testing.T) {
	name, sign := tok(2, strings.Repeat("n", 30), 0), tok(1, "!", 0)
	long := tok(5, strings.Repeat("\x01", 200), 0)
	fill := func(one impl.Token, many int, rest ...impl.Token) []impl.Token {
		return append(slices.Repeat([]impl.Token{one}, many), rest...)
	}
	short := func(bytes int) impl.Token { return tok(2, strings.Repeat("a", bytes), 0) }
	for _, one := range []struct {
		list []impl.Token
		long int
	}{
		// The blanks between the names count, and those between texts and numbers.
		{fill(name, 387), 11996},
		{fill(name, 387, short(1)), 11998},
		{fill(name, 387, short(2)), 11999},
		{fill(name, 387, short(3)), 12000},
		{fill(name, 387, short(4)), 12001},
		{fill(name, 387, short(5)), 12002},
		{fill(name, 387, short(1), short(1)), 12000},
		{fill(name, 387, short(1), short(2)), 12001},
		{fill(name, 388), 12027},
		{fill(name, 387, tok(3, "-10", 0)), 12000},
		{fill(name, 387, tok(4, "1e10", 0)), 12001},
		{fill(long, 9, tok(5, strings.Repeat("\x01", 195)+"a", 0)), 12000},
		{fill(long, 9, tok(5, strings.Repeat("\x01", 195)+"ab", 0)), 12001},
		{fill(long, 9, tok(5, strings.Repeat("\x01", 196), 0)), 12005},
		{fill(long, 10), 12029},
		{fill(tok(3, "1", 0), 2500), 4999},
		{fill(tok(4, "1.25", 0), 2400), 11999},
		{fill(tok(4, "1.25", 0), 2399, tok(3, "12345", 0)), 12000},
		{fill(tok(4, "1.25", 0), 2399, tok(3, "123456", 0)), 12001},
		{fill(tok(4, "1.25", 0), 2400, sign), 12000},
		{fill(tok(4, "1.25", 0), 2400, sign, sign), 12001},
		{fill(tok(3, "12345678", 0), 1333, points), 12000},
		{fill(tok(3, "12345678", 0), 1333, points, sign), 12001},
		{fill(tok(3, "12345678", 0), 1333, sign, sign, sign), 11999},
		// Nothing between counts where there is nothing.
		{slices.Repeat([]impl.Token{sign, name}, 387), 11997},
		{append(slices.Repeat([]impl.Token{sign, name}, 387), points), 12000},
		{append(slices.Repeat([]impl.Token{sign, name}, 387), points, sign), 12001},
		{append(slices.Repeat([]impl.Token{sign, name}, 387), sign, sign, sign), 12000},
		{append(slices.Repeat([]impl.Token{sign, name}, 387), sign, sign, sign, sign), 12001},
		{append(slices.Repeat([]impl.Token{sign, name}, 387), tok(5, "a", 0)), 12000},
		{append(slices.Repeat([]impl.Token{sign, name}, 387), tok(5, "ab", 0)), 12001},
		{append(slices.Repeat([]impl.Token{sign, name}, 387), short(2)), 12000},
		{append(slices.Repeat([]impl.Token{sign, name}, 387), short(3)), 12001},
		{slices.Repeat([]impl.Token{sign, long, name}, 9), 11097},
		{slices.Repeat([]impl.Token{sign, long, name}, 10), 12330},
	} {
		want := shortOracle(one.list)
		if len(want) != one.long && (one.long <= 12000 || want != "") {
			t.Errorf("%s has %d bytes, not %d", shownTokens(one.list), len(want), one.long)
		}
		wantShortText(t, want, one.list...)
		if one.long <= 12000 {
			wantBack(t, one.list...)
			wantShortened(t, want, want)
		}
	}
}

func TestShortenWrittenOut(t *testing.T) {
	for s, want := range map[string]string{
		"query Q { a(b: 1, c: -2) ... on T { d } }": "query Q{a(b:1 c:-2)...on T{d}}",
		"{a,b}":    "{a b}",
		"{ a }":    "{a}",
		"a b":      "a b",
		"a  b":     "a b",
		"a-1":      "a -1",
		"1-1":      "1 -1",
		"1 ... a":  "1 ...a",
		"1.5\n...": "1.5 ...",
		"a ...":    "a...",
		"... 1":    "...1",
		"... -1":   "...-1",
		"... a":    "...a",
		`"a""b"`:   `"a" "b"`,
		`1"a"1`:    `1"a"1`,
		`a "b" c`:  `a"b"c`,
		"type T implements A & B {\n  f(a: Int = 1, b: [String!]): U! @d\n}\n\nunion U = A | B\n": "type T implements A&B{f(a:Int=1 b:[String!]):U!@d}union U=A|B",
		"\"\"\"\n  Told.\n    More.\n  \"\"\"\ntype T @d":                                         `"Told.\n  More."type T@d`,
		"{\n  a(b: \"x\") { # one\n    ...F\n    ... @skip(if: true) { c }\n  }\n}\n":             `{a(b:"x"){...F...@skip(if:true){c}}}`,
		"query($a: [Int!]! = [1, 2.5, -3], $b: B = {c: D, e: \"f\"}) {g}":                         `query($a:[Int!]!=[1 2.5 -3]$b:B={c:D e:"f"}){g}`,
		"directive @d(a: Int, \"b\" c: D) repeatable on | FIELD | ENUM":                           `directive@d(a:Int"b"c:D)repeatable on|FIELD|ENUM`,
	} {
		wantShortened(t, s, want)
		wantShortenedAsOracle(t, s)
	}
	// It asks for tokens, not for a document.
	wantShortened(t, "} ) a ] 1 , 1 ! ! \"\" ... {", `})a]1 1!!""...{`)
}

func TestShortenOfNothing(t *testing.T) {
	for _, s := range append([]string{"", "   ", ",,,", " , ,", "#", "# a b {", "#a\n#b\r", "\n\n", "\xef\xbb\xbf", "\xef\xbb\xbf \n,#a", strings.Repeat(" ", 12000), strings.Repeat(",", 12000), "#" + strings.Repeat("a", 11999), strings.Repeat("#\n", 6000)}, allGaps...) {
		wantShortened(t, s, "")
	}
	for _, gap := range allGaps {
		for _, other := range allGaps {
			wantShortened(t, gap+other, "")
		}
		wantShortened(t, gap+"a"+gap, "a")
		wantShortened(t, gap+"a"+gap+"1"+gap+"..."+gap+"\"x\""+gap+"\"\""+gap+"{"+gap, `a 1 ..."x" ""{`)
	}
	wantNotShortened(t, strings.Repeat(" ", 12001), impl.FtLong, 0)
}

func TestShortenOfPairsWithGaps(t *testing.T) {
	tokens := append(fewTokens(), tok(5, strings.Repeat("\x01", 200), 0), tok(1, "$", 0), tok(2, longestName, 0))
	for _, gap := range append(allGaps, "") {
		for _, a := range tokens {
			for _, b := range tokens {
				if gap == "" && (apartOracle(a, b) || a.Kind == 5) {
					continue
				}
				wantShortened(t, pieceOf(a)+gap+pieceOf(b), shortOracle([]impl.Token{a, b}))
			}
		}
	}
}

func TestShortenOfBlocks(t *testing.T) {
	for raw, want := range map[string]string{
		`a`:                        `"a"`,
		``:                         `""`,
		` `:                        `""`,
		"\n":                       `""`,
		"\n  a\n    b\n  ":         `"a\n  b"`,
		"a\r\n b\rc":               `"a\n b\nc"`,
		`\"""`:                     `"\"\"\""`,
		`a\"""b`:                   `"a\"\"\"b"`,
		`\n\u0041`:                 `"\\n\\u0041"`,
		`"a`:                       `"\"a"`,
		"\ta\tb":                   `"\ta\tb"`,
		"\x7f":                     `"\u007f"`,
		"é€😀":                      `"é€😀"`,
		"#,{...}":                  `"#,{...}"`,
		strings.Repeat("a", 200):   `"` + strings.Repeat("a", 200) + `"`,
		strings.Repeat(`\"""`, 66): `"` + strings.Repeat(`\"\"\"`, 66) + `"`,
		strings.Repeat("\n", 99) + "a" + strings.Repeat("\na", 99) + "\n": `"` + strings.Repeat(`a\n`, 99) + `a"`,
	} {
		wantShortened(t, inBlock(raw), want)
		wantShortened(t, inBlock(raw)+inBlock(raw), want+" "+want)
		wantShortened(t, inBlock(raw)+"\n"+inBlock(raw)+" a "+inBlock(raw)+" 1 ...", want+" "+want+"a"+want+"1 ...")
		wantShortened(t, "{ "+inBlock(raw)+" }", "{"+want+"}")
		wantShortenedAsOracle(t, inBlock(raw))
	}
}

func TestShortenOfEscapes(t *testing.T) {
	for quoted, want := range map[string]string{
		``: ``, `a`: `a`, `\"`: `\"`, `\\`: `\\`, `\/`: `/`, `/`: `/`, `\b`: `\b`, `\t`: `\t`, `\n`: `\n`, `\f`: `\f`, `\r`: `\r`, "\t": `\t`, "\x7f": `\u007f`,
		`\u0041`: `A`, `\u00e9`: `é`, `\u00E9`: `é`, `\u{e9}`: `é`, `\u{1F600}`: `😀`, `\ud83d\ude00`: `😀`, `\u20ac`: `€`, `\u{0}`: `\u0000`, `\u0000`: `\u0000`, `\u001F`: `\u001f`, `\u007F`: `\u007f`, `\u{7f}`: `\u007f`,
		`\u0008\u0009\u000a\u000c\u000d`: `\b\t\n\f\r`, `\u0022`: `\"`, `\u005c`: `\\`, `\u{2f}`: `/`, `\u0080`: "\u0080", `\uffff`: "\uffff", `\u{10ffff}`: "\U0010ffff", `\uFEFF`: "\ufeff", `\u000B`: `\u000b`,
	} {
		s, text := `"`+quoted+`"`, `"`+want+`"`
		wantShortened(t, s, text)
		wantShortened(t, "a "+s+" , "+s+" ... 1", "a"+text+" "+text+"...1")
		wantShortened(t, `"x`+quoted+`y`+quoted+`"`, `"x`+want+`y`+want+`"`)
		wantShortenedAsOracle(t, s)
	}
	for n := range 0x300 {
		wantShortened(t, fmt.Sprintf(`"\u%04X"  "\u{%x}"`, n, n), escapedOracle(string(rune(n)))+" "+escapedOracle(string(rune(n))))
	}
}

// Texts whose tokens have a longer text than they are themselves: a sign of one byte is written as six.
func TestShortenThatMakesLonger(t *testing.T) {
	raw := func(signs int, behind string) string { return `"` + strings.Repeat("\x7f", signs) + behind + `"` }
	told := func(signs int, behind string) string {
		return `"` + strings.Repeat(`\u007f`, signs) + behind + `"`
	}
	wantShortened(t, raw(1, ""), told(1, ""))
	wantShortened(t, raw(200, ""), told(200, ""))
	wantShortened(t, raw(200, "")+raw(200, ""), told(200, "")+" "+told(200, ""))
	wantShortened(t, "\"\t\"", `"\t"`)
	wantShortened(t, `a-1`, `a -1`)
	wantShortened(t, strings.Repeat(raw(200, ""), 9), strings.TrimSuffix(strings.Repeat(told(200, "")+" ", 9), " "))
	nine, toldNine := strings.Repeat(raw(200, ""), 9), strings.Repeat(told(200, "")+" ", 9)
	for behind, long := range map[string]int{"": 11999, "a": 12000, "ab": 12001, "abc": 12002} {
		want := toldNine + told(195, behind)
		if len(want) != long {
			t.Errorf("%d bytes, not %d", len(want), long)
		}
		if long > 12000 {
			// There is no fault in the tokens: only their short text is too long.
			wantNotShortened(t, nine+raw(195, behind), 0, 0)
			wantNotShortened(t, nine+" "+raw(195, behind), 0, 0)
			continue
		}
		wantShortened(t, nine+raw(195, behind), want)
		wantShortened(t, nine+",\n"+raw(195, behind)+"#", want)
	}
	// A blank that is put in counts, too: there is none in the text.
	signs := toldNine + told(194, "")
	wantShortened(t, nine+raw(194, "")+"{a-1}", signs+"{a -1}")
	wantShortened(t, nine+raw(194, "")+"{a-12}", signs+"{a -12}")
	if len(signs) != 11993 {
		t.Errorf("%d bytes", len(signs))
	}
	wantNotShortened(t, nine+raw(194, "")+"{a-12!}", 0, 0)
	wantShortened(t, nine+raw(194, "")+"{a,12}", signs+"{a 12}")
	wantNotShortened(t, strings.Repeat(raw(200, ""), 10), 0, 0)
	wantNotShortened(t, strings.Repeat(raw(200, ""), 59), 0, 0)
	wantShortened(t, strings.Repeat("a-1!", 600), strings.Repeat("a -1!", 600))
	wantShortened(t, strings.Repeat("-1", 2500), strings.TrimSuffix(strings.Repeat("-1 ", 2500), " "))
	wantNotShortened(t, strings.Repeat("-123", 2400)+"-12", 0, 0)
	wantShortened(t, strings.Repeat("-123", 2400), strings.TrimSuffix(strings.Repeat("-123 ", 2400), " "))
	wantShortened(t, strings.Repeat("-123", 2400)+"!", strings.TrimSuffix(strings.Repeat("-123 ", 2400), " ")+"!")
}

func TestShortenAtTheLimits(t *testing.T) {
	signs := strings.Repeat("{"+strings.Repeat("n", 30), 387)
	for behind, long := range map[string]int{"..": 0, "!": 11998, "!!": 11999, "...": 12000, "!!!": 12000, "\"a\"": 12000, ",ab": 12000} {
		s := signs + behind
		if long == 0 {
			wantNotShortened(t, s, impl.FtSign, len(signs))
			continue
		}
		if len(s) != long {
			t.Errorf("%d bytes, not %d", len(s), long)
		}
		wantShortened(t, s, strings.ReplaceAll(s, ",", " "))
		wantNotShortened(t, s+"!!!!!", impl.FtLong, 0)
	}
	wantNotShortened(t, signs+"!!!!", impl.FtLong, 0)
	wantShortened(t, strings.Repeat(" ", 11999)+"a", "a")
	wantNotShortened(t, strings.Repeat(" ", 12000)+"a", impl.FtLong, 0)
	wantNotShortened(t, strings.Repeat("a ", 6001), impl.FtLong, 0)
	for _, each := range []string{"!", "a ", "1,", "1.5\n", `"" `, "...", "{#\n", "-1"} {
		for _, many := range []int{2499, 2500, 2501, 2502} {
			s := strings.Repeat(each, many)
			wantShortenedAsOracle(t, s)
			if many > 2500 {
				wantNotShortened(t, s, impl.FtMany, 2500*len(each))
			}
		}
	}
}

// Each fault that a text can have, by its place.
var faultTexts = []struct {
	s        string
	code, at int
}{
	{strings.Repeat(" ", 12001), 1, 0}, {"{a}" + strings.Repeat(" ", 11998), 1, 0}, {strings.Repeat("\xff", 12001), 1, 0}, {strings.Repeat("!", 12001), 1, 0},
	{"\xff", 2, 0}, {"{a}\xff", 2, 3}, {"a % 01 \" \xc3", 2, 9}, {"\"\xed\xa0\x80\"", 2, 1}, {"#\x80", 2, 1},
	{"%", 3, 0}, {"{a} %", 3, 4}, {"{a}.", 3, 3}, {"{é}", 3, 1}, {"{a} " + strings.Repeat("n", 31), 3, 4}, {"{a}\xef\xbb\xbf", 3, 3}, {"{a\x00}", 3, 2}, {"{a ? 01", 3, 3},
	{"01", 4, 0}, {"{a(b: 01)}", 4, 6}, {"{a} 1a", 4, 4}, {"{a} -", 4, 4}, {"{a} 1...", 4, 4}, {"{a} 1. %", 4, 4}, {"1e", 4, 0},
	{"\"", 5, 0}, {"{a} \"b", 5, 4}, {"{a} \"\\x\" %", 5, 4}, {"{a} \"\"\"", 5, 4}, {"\"\n\"", 5, 0}, {"{a}\"" + strings.Repeat("a", 201) + "\"", 5, 3}, {"{a} \"\"\"\x01\"\"\"", 5, 4},
	{strings.Repeat("!", 2501), 6, 2500}, {strings.Repeat("{a} ", 834), 6, 3333}, {strings.Repeat("! ", 2501) + "%", 6, 5000},
}

func TestFaultsOfTokensInShorten(t *testing.T) {
	for _, one := range faultTexts {
		wantNotShortened(t, one.s, one.code, one.at)
		wantNotTidied(t, one.s, one.code, one.at)
		wantShortenedAsOracle(t, one.s)
		wantTidiedAsOracle(t, one.s)
	}
	for _, s := range slices.Concat(wrongTexts, noNumbers, wholeTexts, otherTexts) {
		for _, around := range [][2]string{{"", ""}, {"{a(b: ", ")}"}, {"a ", " ..."}, {"\"x\" ", "\n"}} {
			wantShortenedAsOracle(t, around[0]+s+around[1])
			wantTidiedAsOracle(t, around[0]+s+around[1])
		}
	}
}

func TestShortenOfEveryShortText(t *testing.T) {
	eachText([]string{"a", "1", "-", "1.5", "...", "e", "{", `"x"`, " ", ","}, 5, func(s string) { wantShortenedAsOracle(t, s) })
	eachText([]string{`"`, `""`, `"""`, `\`, "a", "\n", "#", " ", "1"}, 5, func(s string) { wantShortenedAsOracle(t, s) })
}

func TestSameTokensHoldsKindsAndTexts(t *testing.T) {
	tokens := someTokens()
	for i, a := range tokens {
		for j, b := range tokens {
			wantSameList(t, i == j, []impl.Token{a}, []impl.Token{b})
			wantSameList(t, i == j, []impl.Token{points, a, points}, []impl.Token{points, b, points})
			// The order counts.
			wantSameList(t, i == j, []impl.Token{a, b}, []impl.Token{b, a})
		}
		// Of one Kind or one Text alone.
		for _, kind := range append([]int{1, 2, 3, 4, 5}, noTokenKinds...) {
			wantSameList(t, kind == a.Kind, []impl.Token{a}, []impl.Token{tok(kind, a.Text, a.At)})
			wantSameList(t, kind == a.Kind, []impl.Token{points, points, a}, []impl.Token{points, points, tok(kind, a.Text, a.At)})
		}
		for _, text := range []string{a.Text + "a", a.Text + "\x00", " " + a.Text, a.Text + " ", strings.ToUpper(a.Text) + "Z", "\xff"} {
			wantSameList(t, false, []impl.Token{a}, []impl.Token{tok(a.Kind, text, a.At)})
			wantSameList(t, false, []impl.Token{a, points, points}, []impl.Token{tok(a.Kind, text, a.At), points, points})
		}
		// Where they stand does not count.
		for _, at := range []int{1, -1, 12000, math.MinInt, math.MaxInt} {
			wantSameList(t, true, []impl.Token{a}, []impl.Token{tok(a.Kind, a.Text, at)})
			wantSameList(t, true, []impl.Token{points, a, a}, []impl.Token{tok(1, "...", at), tok(a.Kind, a.Text, at), tok(a.Kind, a.Text, -at)})
		}
	}
}

func TestSameTokensOfAnyKinds(t *testing.T) {
	// What is no token is the same as itself too, wherever it stands.
	tokens := notOkTokens()
	for i, a := range tokens {
		for _, b := range tokens[i%5:] {
			same := a.Kind == b.Kind && a.Text == b.Text
			wantSameList(t, same, []impl.Token{a}, []impl.Token{b})
			b.At = 77
			wantSameList(t, same, []impl.Token{a, a}, []impl.Token{a, b})
		}
	}
	wantSameList(t, true, []impl.Token{zeroToken}, []impl.Token{zeroToken})
	wantSameList(t, true, []impl.Token{zeroToken}, []impl.Token{{At: 5}})
	wantSameList(t, false, []impl.Token{zeroToken}, []impl.Token{{Kind: 1}})
	wantSameList(t, false, []impl.Token{zeroToken}, []impl.Token{{Text: "a"}})
	wantSameList(t, false, []impl.Token{zeroToken}, nil)
	wantSameList(t, false, []impl.Token{zeroToken, zeroToken}, []impl.Token{zeroToken})
}

func TestSameTokensOfListsOfOtherLengths(t *testing.T) {
	wantSameList(t, true, nil, nil)
	wantSameList(t, true, nil, []impl.Token{})
	wantSameList(t, true, []impl.Token{}, []impl.Token{})
	wantSameList(t, true, make([]impl.Token, 0, 3), nil)
	list := someTokens()
	wantSameList(t, true, list, slices.Clone(list))
	wantSameList(t, false, list, nil)
	for at := range list {
		wantSameList(t, false, list, list[:at])
		wantSameList(t, false, list, list[at+1:])
		wantSameList(t, false, list, slices.Insert(slices.Clone(list), at, list[at]))
		wantSameList(t, false, list, slices.Delete(slices.Clone(list), at, at+1))
		wantSameList(t, true, list[:at], slices.Clone(list[:at]))
		other := slices.Clone(list)
		other[at].Text += "x"
		wantSameList(t, false, list, other)
		other[at].Text, other[at].Kind = list[at].Text, other[at].Kind+1
		wantSameList(t, false, list, other)
		if at > 0 {
			swapped := slices.Clone(list)
			swapped[at-1], swapped[at] = swapped[at], swapped[at-1]
			wantSameList(t, false, list, swapped)
		}
	}
	wantSameList(t, false, list, append(slices.Clone(list), zeroToken))
	// There is no limit to what is held against each other.
	many := slices.Repeat(list, 100)
	wantSameList(t, true, many, slices.Clone(many))
	wantSameList(t, false, many, many[:len(many)-1])
	last := slices.Clone(many)
	last[len(last)-1].Text += "x"
	wantSameList(t, false, many, last)
}

func TestTokensOfTextsThatSayTheSame(t *testing.T) {
	for _, s := range docSamples {
		pieces := sampleTokens(s)
		first, _ := impl.TokensOf(s)
		for turn := range 6 {
			other, _ := impl.TokensOf(joined(pieces, turn))
			wantSameList(t, true, first, other)
			wantSameList(t, false, first, other[1:])
		}
		short, _ := impl.Shorten(s)
		again, _ := impl.TokensOf(short)
		wantSameList(t, true, first, again)
	}
	one, _ := impl.TokensOf(`{a "b" 1 1.5}`)
	for _, s := range []string{`{a "b" 1 1.5`, `{a "b" 1 1.5}}`, `{b "b" 1 1.5}`, `{a "c" 1 1.5}`, `{a b 1 1.5}`, `{a "b" 2 1.5}`, `{a "b" 1 1.50}`, `{a "b" 1.0 1.5}`, `{a "b" 1.5 1}`, `{"b" a 1 1.5}`, `[a "b" 1 1.5}`, `{a "b" "1" 1.5}`, `{"a" "b" 1 1.5}`, ``} {
		other, fault := impl.TokensOf(s)
		if fault.Code != 0 {
			t.Errorf("%q: %v", s, fault)
		}
		wantSameList(t, false, one, other)
	}
	for _, s := range []string{`{a"b"1,1.5}`, "{\na #x\n\"\"\"b\"\"\"\n1\n1.5}", `{a "\u0062" 1 1.5,,}`, "\xef\xbb\xbf{a \"b\" 1 1.5}"} {
		other, _ := impl.TokensOf(s)
		wantSameList(t, true, one, other)
	}
}

func TestFullItemsComeBackAsShortAsCanBe(t *testing.T) {
	for _, item := range append(fullItems(), plainOp, plainFrag, plainDef) {
		wantDocBackAsOracle(t, docOf(item))
		wantDocBackAsOracle(t, docOf(plainOp, item))
		wantDocBackAsOracle(t, docOf(item, plainOp, item))
	}
}

// Of each kind of item each part is otherwise, one by one: what is right still comes back.
func TestDocumentsWithOnePartOtherwiseComeBack(t *testing.T) {
	right := map[int]int{}
	for _, item := range fullItems() {
		d := docOf(item)
		eachOther(reflect.ValueOf(&d).Elem(), "", func(string) {
			if impl.Print(d) != "" {
				right[item.Kind]++
				wantDocBack(t, d)
			}
		})
	}
	if right[1] < 300 || right[2] < 100 || right[3] < 1000 {
		t.Errorf("%v", right)
	}
}

func TestQuestionsAndPiecesComeBackAsShortAsCanBe(t *testing.T) {
	seen, dirs := map[string]int{}, manyDirs()
	for i, o := range manyOps() {
		if i%11 > 4 {
			continue
		}
		f := piece(selNames[(i+3)%len(selNames)]+"n", selNames[(i/5)%len(selNames)], o.Sels...)
		f.Name = f.Name[:min(len(f.Name), 30)]
		if i%3 == 1 {
			f.Dirs = dirs[i%len(dirs)]
		}
		for _, d := range []impl.Doc{docOf(opItem(o)), docOf(fragItem(f)), docOf(fragItem(f), opItem(o), plainOp)} {
			if impl.Print(d) == "" {
				seen["long"]++
				continue
			}
			seen[fmt.Sprint(d.Items[0].Kind, o.Kind, len(o.Vars) > 0, len(o.Dirs) > 0)]++
			if i%15 == 0 {
				wantDocBackAsOracle(t, d)
			} else {
				wantDocBack(t, d)
			}
		}
	}
	// Each kind with variables and without, with directives and without, and a piece ahead of each.
	if delete(seen, "long"); len(seen) != 2*3*4 {
		t.Errorf("%v", seen)
	}
}

func TestDefinitionsComeBackAsShortAsCanBe(t *testing.T) {
	seen := map[int]map[string]int{}
	for i, d := range manyDefs() {
		if i/8%5 > 1 || impl.Print(docOf(defItem(d))) == "" {
			continue
		}
		if seen[d.Kind] == nil {
			seen[d.Kind] = map[string]int{}
		}
		seen[d.Kind][defParts(d)]++
		wantDocBack(t, docOf(defItem(d)))
		if i%13 == 0 {
			wantDocBackAsOracle(t, docOf(defItem(d)))
		}
	}
	for kind, want := range map[int]int{1: 4 + 1, 2: 16 + 7, 3: 16 + 7, 4: 8 + 3, 5: 8 + 3, 6: 8 + 3, 7: 8, 8: 4 + 3} {
		if len(seen[kind]) != want {
			t.Errorf("of kind %d there is %v", kind, seen[kind])
		}
	}
}

func TestDocumentsOfSeveralItemsComeBackAsShortAsCanBe(t *testing.T) {
	items := append(fullItems(), plainOp, plainFrag, plainDef, opItem(question(2, "", field("b"))), opItem(question(3, "query", field("b"))))
	for kind := 1; kind <= 8; kind++ {
		items = append(items, defItem(least(kind)))
		if kind != 7 {
			items = append(items, defItem(added(steeredDef(bare(kind), oneDir...))), defItem(added(described("", steeredDef(least(kind), oneDir...)))))
		}
	}
	for i, item := range items {
		for _, other := range items {
			wantDocBack(t, docOf(item, other))
		}
		for many := 3; many <= 12; many += 3 {
			wantDocBackAsOracle(t, docOf(append(slices.Clone(items[i:]), items...)[:many]...))
		}
	}
	for _, item := range []impl.Item{plainOp, plainFrag, plainDef} {
		wantDocBackAsOracle(t, docOf(slices.Repeat([]impl.Item{item}, 60)...))
	}
}

func TestTidyWrittenOut(t *testing.T) {
	for _, one := range []struct{ s, text string }{
		{"{a,b}", "{\n  a\n  b\n}\n"},
		{"query {a}", "{\n  a\n}\n"},
		{"query{a{b}}", "{\n  a {\n    b\n  }\n}\n"},
		{"query Q{a}", "query Q {\n  a\n}\n"},
		{"mutation{a}", "mutation {\n  a\n}\n"},
		{"{\n  a\n}\n", "{\n  a\n}\n"},
		// One of several that begins with a brace has its word, but the first one.
		{"{a}{b}", "{\n  a\n}\n\nquery {\n  b\n}\n"},
		{"query{a}query{b}{c}", "{\n  a\n}\n\nquery {\n  b\n}\n\nquery {\n  c\n}\n"},
		{"scalar S{a}", "scalar S\n\nquery {\n  a\n}\n"},
		{"fragment F on T{a}{b}", "fragment F on T {\n  a\n}\n\nquery {\n  b\n}\n"},
		{"type T query{a}", "type T\n\nquery {\n  a\n}\n"},
		{"{a}type T{b:C}", "{\n  a\n}\n\ntype T {\n  b: C\n}\n"},
		{"query Q($a:Int=1,$b:[T!]!@c){d:e(f:$a)@g{...H ...on I{j}...@k{l}}}", "query Q($a: Int = 1, $b: [T!]! @c) {\n  d: e(f: $a) @g {\n    ...H\n    ... on I {\n      j\n    }\n    ... @k {\n      l\n    }\n  }\n}\n"},
		// What says nothing is left out.
		{"union U=|A|B", "union U = A | B\n"},
		{"type T implements&A&B", "type T implements A & B\n"},
		{"directive@d on|FIELD|ENUM", "directive @d on FIELD | ENUM\n"},
		{`"" scalar S`, "scalar S\n"},
		{`"""""" type T {"" a: B}`, "type T {\n  a: B\n}\n"},
		{"#x\n,,scalar,S#y", "scalar S\n"},
		{"\xef\xbb\xbfscalar S", "scalar S\n"},
		{"\"\"\"\n  a\n    b\n\"\"\" scalar S", "\"a\\n  b\"\nscalar S\n"},
		{`"\u0041\/" enum E {"x\u{e9}" A,B @d}`, "\"A/\"\nenum E {\n  \"xé\"\n  A\n  B @d\n}\n"},
		{"schema{query:Q,mutation:M}extend schema@d", "schema {\n  query: Q\n  mutation: M\n}\n\nextend schema @d\n"},
		{`input I{"x"a:Int=1,b:[C!]={d:"e"}}`, "input I {\n  \"x\" a: Int = 1\n  b: [C!] = {d: \"e\"}\n}\n"},
		{`interface I{"x"a("y"b:C,d:E=F):G@h}`, "interface I {\n  \"x\"\n  a(\"y\" b: C, d: E = F): G @h\n}\n"},
		{"{a(b:-1,c:1.50,d:[],e:{},f:[true,null E \"\"])}", "{\n  a(b: -1, c: 1.50, d: [], e: {}, f: [true, null, E, \"\"])\n}\n"},
	} {
		wantTidied(t, one.s, one.text)
		wantTidiedAsOracle(t, one.s)
		short, _ := impl.Shorten(one.s)
		wantTidied(t, short, one.text)
		short, _ = impl.Shorten(one.text)
		wantTidied(t, short, one.text)
		for turn := range 6 {
			wantTidied(t, joined(sampleTokens(one.s), turn), one.text)
		}
	}
	for _, s := range docSamples {
		wantTidiedAsOracle(t, s)
		d, _ := impl.Parse(s)
		wantDocBackAsOracle(t, d)
	}
}

func TestTidyOfTextsThatAreNoDocument(t *testing.T) {
	wantNotTidied(t, "", impl.FtSyntax, 0)
	for _, gap := range allGaps {
		wantNotTidied(t, gap, impl.FtSyntax, len(gap))
	}
	for _, one := range []struct {
		s        string
		code, at int
	}{
		{")", 7, 0}, {"{}", 7, 1}, {"{a", 7, 2}, {"{a} )", 7, 4}, {"{a} a", 7, 4}, {"type", 7, 4}, {"\"d\" {a}", 7, 4}, {"extend type T", 7, 13}, {"fragment on on T {a}", 7, 9}, {"{a(b: )}", 7, 6}, {"query($a: B = $c) {d}", 7, 14}, {"type T {a}", 7, 9}, {"enum E {true}", 7, 8}, {"directive @d on field", 7, 16},
		{strings.Repeat("{a", 11), 8, 20}, {"{a(b: " + strings.Repeat("[", 11), 8, 16}, {"type T {a: " + strings.Repeat("[", 9), 8, 19}, {"type T {a: [[[[A!]!]!]!]!", 8, 24},
		{strings.Repeat("{a}", 61), 6, 180}, {strings.Repeat("scalar S ", 60) + ")", 6, 540}, {"{" + strings.Repeat("a ", 121) + "}", 6, 241},
	} {
		wantNotTidied(t, one.s, one.code, one.at)
		wantTidiedAsOracle(t, one.s)
	}
	// Its tokens have a short text all the same.
	wantShortened(t, "{ } )", "{})")
	wantShortened(t, strings.Repeat("{a ", 11), strings.Repeat("{a", 11))
}

func TestTidyOfBrokenDocuments(t *testing.T) {
	for turn, s := range docSamples {
		pieces := sampleTokens(s)
		for at := range pieces {
			wantTidiedAsOracle(t, joined(pieces[:at], turn))
			wantTidiedAsOracle(t, joined(slices.Concat(pieces[:at], pieces[at+1:]), turn))
			wantTidiedAsOracle(t, joined(slices.Concat(pieces[:at+1], pieces[at:]), turn))
			for _, other := range []string{"{", "}", "a", "...", "1", `"x"`, "query", "@"} {
				changed := slices.Clone(pieces)
				changed[at] = other
				wantTidiedAsOracle(t, joined(changed, turn))
				wantShortenedAsOracle(t, joined(changed, turn))
			}
		}
	}
}

// wantTidiedAtLimit is for documents whose print would be so many bytes longer than it may be.
func wantTidiedAtLimit(t *testing.T, by int, s string, text string) {
	t.Helper()
	if len(text) != 12000+by {
		t.Errorf("%d bytes, not by %d", len(text), by)
	}
	if by <= 0 {
		wantTidied(t, s, text)
		return
	}
	wantNotTidied(t, s, impl.FtLong, 0)
}

func TestTidyWhereThePrintIsLong(t *testing.T) {
	for _, long := range []int{11999, 12000, 12001, 12002, 12010} {
		d := docOf(docOfLength(long))
		text := itemOracle(d.Items[0])
		s := strings.Join(docPieces(d), " ")
		if len(text) != long || len(s) > 12000 {
			t.Fatalf("%d and %d bytes", len(text), len(s))
		}
		if got, fault := impl.Parse(s); fault.Code != 0 || !impl.SameDoc(got, d) {
			t.Errorf("one of %d bytes is no document: %v", long, fault)
		}
		if long <= 12000 {
			wantTidied(t, s, text)
			wantDocBackAsOracle(t, d)
		} else {
			wantNotTidied(t, s, impl.FtLong, 0)
			wantNotTidied(t, text, impl.FtLong, 0)
		}
	}
	// The word that is put ahead of a second one, and what is between the two, are as long as they are.
	for by := -1; by <= 1; by++ {
		for _, ahead := range []struct{ s, text string }{{"{b}", "{\n  b\n}\n\nquery "}, {"scalar T ", "scalar T\n\nquery "}, {"query Q{b}", "query Q {\n  b\n}\n\nquery "}} {
			item := docOfLength(12000 + by - len(ahead.text))
			wantTidiedAtLimit(t, by, ahead.s+strings.Join(docPieces(docOf(item)), " "), ahead.text+itemOracle(item))
		}
		for _, behind := range []struct{ s, text string }{{"{b}", "\nquery {\n  b\n}\n"}, {"scalar T", "\nscalar T\n"}, {"mutation{b}", "\nmutation {\n  b\n}\n"}} {
			item := docOfLength(12000 + by - len(behind.text))
			wantTidiedAtLimit(t, by, strings.Join(docPieces(docOf(item)), " ")+behind.s, itemOracle(item)+behind.text)
		}
	}
	// It is what is printed that counts: a short source may have a long print.
	deep := strings.Repeat("{a", 9) + "{" + strings.Repeat("b ", 110) + "}" + strings.Repeat("}", 9)
	wantTidiedAsOracle(t, deep)
	wantTidiedAsOracle(t, strings.Repeat(deep, 3))
	wantTidiedAsOracle(t, strings.Repeat(deep, 4))
	wantNotTidied(t, strings.Repeat(deep, 10), impl.FtLong, 0)
	wantNotTidied(t, `"`+strings.Repeat("\x7f", 200)+`"scalar S`+strings.Repeat("{a(b:\""+strings.Repeat("\x7f", 200)+"\")}", 10), impl.FtLong, 0)
}

func TestTidyWhereThePrintHasManyTokens(t *testing.T) {
	list := func(many int) string { return "{b(e:[" + strings.Repeat("1 ", many-9) + "])}" }
	for _, one := range []struct {
		ahead, behind string
		// How many tokens the source has of the two, and how many the print has.
		own, printed int
	}{
		{"", "", 0, 0}, {"{a}", "", 3, 4}, {"scalar S", "", 2, 3}, {"", "{a}", 3, 4}, {"{a}", "{a}", 6, 8}, {"query", "", 1, 0}, {"query{a}", "", 4, 4}, {"\"\"scalar S", "", 3, 3}, {"union U=|A", "", 5, 5}, {"", "union U=|A", 5, 4}, {"", "scalar S", 2, 2}, {"query Q{a}", "", 5, 6}, {"mutation", "", 1, 1},
	} {
		for printed := 2497; printed <= 2503; printed++ {
			many := printed - one.printed
			s := one.ahead + list(many) + one.behind
			switch {
			case many+one.own > 2500:
				wantTidiedAsOracle(t, s)
			case printed > 2500:
				if _, fault := impl.Parse(s); fault.Code != 0 {
					t.Errorf("%.20q has no document: %v", s, fault)
				}
				wantNotTidied(t, s, impl.FtLong, 0)
			default:
				got, fault := impl.Tidy(s)
				tokens, _ := tokensOracle(got)
				if fault.Code != 0 || len(tokens) != printed {
					t.Errorf("Tidy of %.20q: %v, and %d tokens, not %d", s, fault, len(tokens), printed)
				}
				wantTidiedAsOracle(t, s)
			}
		}
	}
	wantNotTidied(t, list(2501), impl.FtMany, 4992)
}

// tokensWithRoom is the same list, with room behind it in which something stands already.
func tokensWithRoom(list []impl.Token) []impl.Token {
	return append(slices.Clone(list), tok(77, "behind", 7), points, zeroToken)[:len(list)]
}

func TestNothingIsWrittenIntoTokens(t *testing.T) {
	for _, list := range [][]impl.Token{{}, {points}, fewTokens(), someTokens(), notOkTokens(), slices.Repeat(fewTokens(), 100), slices.Repeat([]impl.Token{points}, 2501)} {
		held, other := tokensWithRoom(list), tokensWithRoom(list)
		whole := slices.Clone(held[:len(list)+3])
		for range 2 {
			impl.ShortText(held)
			impl.SameTokens(held, other)
			impl.SameTokens(other, held)
			for i := range held {
				impl.Apart(held[i], held[len(held)-1-i])
			}
		}
		if !slices.Equal(held[:len(list)+3], whole) || !slices.Equal(other[:len(list)+3], whole) {
			t.Errorf("%s has become %s", shownTokens(whole), shownTokens(held[:len(list)+3]))
		}
		wantSameList(t, true, held, list)
	}
}

// shares tells whether two texts have memory in common.
func shares(a string, b string) bool {
	if a == "" || b == "" {
		return false
	}
	from, other := uintptr(unsafe.Pointer(unsafe.StringData(a))), uintptr(unsafe.Pointer(unsafe.StringData(b)))
	return from < other+uintptr(len(b)) && other < from+uintptr(len(a))
}

func TestShortTextsAreNewMemory(t *testing.T) {
	for _, token := range someTokens() {
		// A text of its own for each, so that it is not one of the program's constants.
		token.Text = strings.Clone(token.Text)
		if shares(impl.ShortText([]impl.Token{token}), token.Text) {
			t.Errorf("ShortText of %v alone is its Text", token)
		}
		if shares(impl.ShortText([]impl.Token{token, token}), token.Text) {
			t.Errorf("ShortText of %v twice has its Text in it", token)
		}
	}
	for _, s := range append([]string{"a", "{", "1", `"x"`, "a b", "{\n  a\n}\n", "scalar S\n", "{a}", "query{a}"}, docSamples...) {
		s = strings.Clone(s)
		short, _ := impl.Shorten(s)
		again, _ := impl.Shorten(s)
		tidied, _ := impl.Tidy(s)
		other, _ := impl.Tidy(s)
		if shares(short, s) || shares(tidied, s) || shares(short, again) && short != "" || shares(tidied, other) {
			t.Errorf("what is answered of %q shares memory", s)
		}
	}
}

func TestShorteningKeepsNothing(t *testing.T) {
	list := []impl.Token{tok(2, "a", 0), tok(3, "1", 0)}
	for range 3 {
		wantShortText(t, "a 1", list...)
		wantShortText(t, "", append(list, zeroToken)...)
		wantShortText(t, "")
		wantShortText(t, "", slices.Repeat(list, 1251)...)
		wantShortText(t, "{", tok(1, "{", 0))
		wantShortened(t, "a  1", "a 1")
		wantNotShortened(t, "a 01", impl.FtNumber, 2)
		wantNotShortened(t, "a 1 %", impl.FtSign, 4)
		wantShortened(t, "", "")
		wantTidied(t, "{a}", "{\n  a\n}\n")
		wantNotTidied(t, "{a", impl.FtSyntax, 2)
		wantNotTidied(t, strings.Repeat("{a}", 61), impl.FtMany, 180)
		wantNotTidied(t, "", impl.FtSyntax, 0)
		wantTidied(t, "scalar S{a}", "scalar S\n\nquery {\n  a\n}\n")
		wantSameList(t, true, list, slices.Clone(list))
		wantSameList(t, false, list, list[1:])
	}
	// What was handed in may be changed behind the call: the answer does not.
	held := slices.Clone(list)
	text := impl.ShortText(held)
	held[0].Text, held[1] = "zz", zeroToken
	if text != "a 1" {
		t.Errorf("%q", text)
	}
}
