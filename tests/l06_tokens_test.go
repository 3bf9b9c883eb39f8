package tests

import (
	"math"
	"regexp"
	"slices"
	"strings"
	"testing"
	"unicode/utf8"

	"loop.example/g00964/impl"
)

// The chapter's words, written another way, to hold the program against.
var (
	gapForm       = regexp.MustCompile(`\A(?:[ \t\n\r,]|#[^\n\r]*)*`)
	signForm      = regexp.MustCompile(`\A(?:\.\.\.|[!$&():=@\[\]{|}])`)
	nameRunForm   = regexp.MustCompile(`\A[A-Za-z_][A-Za-z_0-9]*`)
	numberRunForm = regexp.MustCompile(`\A[-0-9](?:[eE][-+]|[A-Za-z_0-9.])*`)
)

var allSigns = []string{"!", "$", "&", "(", ")", "...", ":", "=", "@", "[", "]", "{", "|", "}"}

// The pieces that are passed over; a remark goes as far as its line.
var allGaps = []string{
	" ", "\t", "\n", "\r", ",", "\r\n", "  ", ",,", " , ", "\t\t", "\n\n\r\r", " \t\n\r,",
	"#\n", "#\r", "# a\n", "#a\r", "#a\r\n", "#\"\n", "#\"\"\"\n", "#a#b\n", "##\r", "#%^?\n", "#1a -\n", "#é€😀\n", "#\xef\xbb\xbf\r", "#\x00\x01\x7f\n", "#a\n#b\n", "#\n#\r#\r\n", " #a\n ", ",#,\r,", `#\` + "\n",
}

func tok(kind int, text string, at int) impl.Token {
	return impl.Token{Kind: kind, Text: text, At: at}
}

func numberOracle(raw string) int {
	switch {
	case len(raw) <= 40 && intForm.MatchString(raw):
		return 3
	case len(raw) <= 40 && floatForm.MatchString(raw):
		return 4
	}
	return 0
}

func quotedOracle(s string, at int) (string, int, bool) {
	if strings.HasPrefix(s[at:], `"""`) {
		end := blockEndOracle(s, at)
		if end < 0 {
			return "", 0, false
		}
		text, ok := blockTextOracle(s[at:end])
		return text, end, ok
	}
	end := stringEndOracle(s, at)
	if end < 0 {
		return "", 0, false
	}
	text, ok := unescapedOracle(s[at:end])
	return text, end, ok
}

// The token at a place and the place behind it, or a code of what is wrong.
func tokenOracle(s string, at int) (impl.Token, int, int) {
	rest := s[at:]
	if sign := signForm.FindString(rest); sign != "" {
		return tok(1, sign, at), at + len(sign), 0
	}
	if name := nameRunForm.FindString(rest); name != "" {
		if len(name) > 30 {
			return impl.Token{}, 0, 3
		}
		return tok(2, name, at), at + len(name), 0
	}
	if number := numberRunForm.FindString(rest); number != "" {
		if kind := numberOracle(number); kind != 0 {
			return tok(kind, number, at), at + len(number), 0
		}
		return impl.Token{}, 0, 4
	}
	if rest[0] == '"' {
		if text, end, ok := quotedOracle(s, at); ok {
			return tok(5, text, at), end, 0
		}
		return impl.Token{}, 0, 5
	}
	return impl.Token{}, 0, 3
}

func firstNoScalar(s string) int {
	for at := 0; at < len(s); {
		sign, many := utf8.DecodeRuneInString(s[at:])
		if sign == utf8.RuneError && many < 3 {
			return at
		}
		at += many
	}
	return -1
}

func tokensOracle(s string) ([]impl.Token, impl.Fault) {
	if len(s) > 12000 {
		return nil, impl.Fault{Code: 1}
	}
	if at := firstNoScalar(s); at >= 0 {
		return nil, impl.Fault{Code: 2, At: at}
	}
	tokens := []impl.Token{}
	at := 0
	if strings.HasPrefix(s, "\xef\xbb\xbf") {
		at = 3
	}
	for {
		at += len(gapForm.FindString(s[at:]))
		if at == len(s) {
			return tokens, impl.Fault{}
		}
		token, end, code := tokenOracle(s, at)
		if code == 0 && len(tokens) == 2500 {
			code = 6
		}
		if code != 0 {
			return nil, impl.Fault{Code: code, At: at}
		}
		tokens = append(tokens, token)
		at = end
	}
}

// Long lists are told by their beginning, so that a failure can be read.
func firstOf(tokens []impl.Token) []impl.Token { return tokens[:min(len(tokens), 20)] }

func wantTokens(t *testing.T, s string, want ...impl.Token) {
	t.Helper()
	if got, fault := impl.TokensOf(s); fault != (impl.Fault{}) || !slices.Equal(got, want) {
		t.Errorf("TokensOf(%.300q): %v, %v, want %v", s, firstOf(got), fault, firstOf(want))
	}
}

func wantFault(t *testing.T, s string, code int, at int) {
	t.Helper()
	if got, fault := impl.TokensOf(s); len(got) != 0 || fault != (impl.Fault{Code: code, At: at}) {
		t.Errorf("TokensOf(%.300q): %d tokens, %v, want code %d at %d", s, len(got), fault, code, at)
	}
}

func wantTokensAsOracle(t *testing.T, s string) {
	t.Helper()
	want, wrong := tokensOracle(s)
	if got, fault := impl.TokensOf(s); !slices.Equal(got, want) || fault != wrong {
		t.Errorf("TokensOf(%.300q): %v, %v, want %v, %v", s, firstOf(got), fault, firstOf(want), wrong)
	}
}

func TestTokensLimits(t *testing.T) {
	kinds := [...]int{impl.TkSign, impl.TkName, impl.TkInt, impl.TkFloat, impl.TkString}
	codes := [...]int{impl.FtLong, impl.FtText, impl.FtSign, impl.FtNumber, impl.FtString, impl.FtMany}
	if kinds != [...]int{1, 2, 3, 4, 5} || codes != [...]int{1, 2, 3, 4, 5, 6} {
		t.Errorf("kinds %v, codes %v", kinds, codes)
	}
	if impl.MaxSource != 12000 || impl.MaxTokens != 2500 {
		t.Errorf("MaxSource %d, MaxTokens %d", impl.MaxSource, impl.MaxTokens)
	}
}

func TestSigns(t *testing.T) {
	for _, sign := range allSigns {
		if !impl.SignOk(sign) {
			t.Errorf("SignOk(%q) is false", sign)
		}
		for _, other := range append([]string{".", " ", "a", "\n", "\x00"}, allSigns...) {
			for _, s := range []string{sign + other, other + sign} {
				if impl.SignOk(s) {
					t.Errorf("SignOk(%q)", s)
				}
			}
		}
	}
	for _, s := range []string{"", ".", "..", "....", ".....", "......", ". ..", "... ", " ...", "…", "a", "Z", "_", "0", "-", "+", "a!", "''", `""`, `"`, "#", ",", "\xef\xbb\xbf", "！", "true"} {
		if impl.SignOk(s) {
			t.Errorf("SignOk(%q)", s)
		}
	}
}

func TestEveryByteAsASign(t *testing.T) {
	for b := range 256 {
		sign := string([]byte{byte(b)})
		if got, want := impl.SignOk(sign), slices.Contains(allSigns, sign); got != want {
			t.Errorf("SignOk(%q): %v", sign, got)
		}
		for _, s := range []string{"." + sign + ".", sign + "..", ".." + sign} {
			if got, want := impl.SignOk(s), b == '.'; got != want {
				t.Errorf("SignOk(%q): %v", s, got)
			}
		}
		for c := range 256 {
			if s := string([]byte{byte(b), byte(c)}); impl.SignOk(s) {
				t.Errorf("SignOk(%q)", s)
			}
		}
	}
}

func TestTextsOfTokens(t *testing.T) {
	wantTokens(t, "{a: \"x\" # y\n ...,1.5}", tok(1, "{", 0), tok(2, "a", 1), tok(1, ":", 2), tok(5, "x", 4), tok(1, "...", 13), tok(4, "1.5", 17), tok(1, "}", 20))
	wantTokens(t, "query Q($id: ID! = \"a\\n\") @on(if: true) {\r\n  user(id: $id, n: [-1, 2.5e3]) { ...F }\r\n}",
		tok(2, "query", 0), tok(2, "Q", 6), tok(1, "(", 7), tok(1, "$", 8), tok(2, "id", 9), tok(1, ":", 11), tok(2, "ID", 13), tok(1, "!", 15), tok(1, "=", 17), tok(5, "a\n", 19), tok(1, ")", 24),
		tok(1, "@", 26), tok(2, "on", 27), tok(1, "(", 29), tok(2, "if", 30), tok(1, ":", 32), tok(2, "true", 34), tok(1, ")", 38), tok(1, "{", 40),
		tok(2, "user", 45), tok(1, "(", 49), tok(2, "id", 50), tok(1, ":", 52), tok(1, "$", 54), tok(2, "id", 55), tok(2, "n", 59), tok(1, ":", 60), tok(1, "[", 62), tok(3, "-1", 63), tok(4, "2.5e3", 67), tok(1, "]", 72), tok(1, ")", 73),
		tok(1, "{", 75), tok(1, "...", 77), tok(2, "F", 80), tok(1, "}", 82), tok(1, "}", 85))
	wantTokens(t, "\"\"\"\n  Told.\n  \"\"\"\ntype T implements A & B { f: [Int!]! }\nunion U = | A | B",
		tok(5, "Told.", 0), tok(2, "type", 18), tok(2, "T", 23), tok(2, "implements", 25), tok(2, "A", 36), tok(1, "&", 38), tok(2, "B", 40), tok(1, "{", 42), tok(2, "f", 44), tok(1, ":", 45), tok(1, "[", 47), tok(2, "Int", 48), tok(1, "!", 51), tok(1, "]", 52), tok(1, "!", 53), tok(1, "}", 55),
		tok(2, "union", 57), tok(2, "U", 63), tok(1, "=", 65), tok(1, "|", 67), tok(2, "A", 69), tok(1, "|", 71), tok(2, "B", 73))
}

func TestNothingButGaps(t *testing.T) {
	wantTokens(t, "")
	wantTokens(t, "\xef\xbb\xbf")
	for _, gap := range allGaps {
		wantTokens(t, gap)
		wantTokens(t, "\xef\xbb\xbf"+gap)
		for _, other := range allGaps {
			wantTokens(t, gap+other)
		}
	}
}

func TestGapsBesideTokens(t *testing.T) {
	tokens := []impl.Token{tok(1, "{", 0), tok(1, "...", 0), tok(2, "a", 0), tok(2, "_9", 0), tok(3, "-12", 0), tok(4, "1.5e3", 0), tok(5, "x", 0)}
	for _, gap := range allGaps {
		for _, first := range tokens {
			for _, second := range tokens {
				a, b := impl.TokenText(first), impl.TokenText(second)
				atA, atB := len(gap), 2*len(gap)+len(a)
				wantTokens(t, gap+a+gap+b+gap, tok(first.Kind, first.Text, atA), tok(second.Kind, second.Text, atB))
				wantTokens(t, a+gap+b, first, tok(second.Kind, second.Text, len(a)+len(gap)))
				wantTokens(t, gap+a, tok(first.Kind, first.Text, atA))
				wantTokens(t, b+gap, second)
			}
		}
	}
}

func TestMarkAtTheBeginning(t *testing.T) {
	const mark = "\xef\xbb\xbf"
	wantTokens(t, mark+"a", tok(2, "a", 3))
	wantTokens(t, mark+" \n,#b\n{", tok(1, "{", 9))
	wantTokens(t, mark+"-1", tok(3, "-1", 3))
	wantTokens(t, mark+"\"a\"", tok(5, "a", 3))
	wantTokens(t, mark+"#"+mark)
	wantFault(t, mark+mark, impl.FtSign, 3)
	wantFault(t, mark+mark+"a", impl.FtSign, 3)
	wantFault(t, mark+"%", impl.FtSign, 3)
	wantFault(t, mark+"01", impl.FtNumber, 3)
	wantFault(t, mark+"\"", impl.FtString, 3)
	for _, gap := range allGaps {
		wantFault(t, gap+mark, impl.FtSign, len(gap))
		wantFault(t, gap+mark+"a", impl.FtSign, len(gap))
		wantFault(t, mark+gap+mark, impl.FtSign, 3+len(gap))
	}
	for _, ahead := range []string{"a", "{", "...", "1", "-1.5", `""`, `"a"`, `"""a"""`} {
		wantFault(t, ahead+mark, impl.FtSign, len(ahead))
		wantFault(t, ahead+" "+mark+" a", impl.FtSign, len(ahead)+1)
		wantFault(t, mark+ahead+mark, impl.FtSign, 3+len(ahead))
	}
	wantTokens(t, `"`+mark+`"`, tok(5, mark, 0))
	wantTokens(t, "\"\"\""+mark+"a\"\"\"", tok(5, mark+"a", 0))
	wantTokens(t, "#"+mark+"\na", tok(2, "a", 5))
}

func TestOtherMarksAreNone(t *testing.T) {
	for _, s := range []string{"\xef\xbb\xbe", "\xef\xbb\xba", "\xef\xba\xbf", "\xee\xbb\xbf", "\xef\xbf\xbe", "\xe2\x80\x8b", "\xc2\xa0", "\xe2\x81\xa0", "\xe3\x80\x80"} {
		wantFault(t, s, impl.FtSign, 0)
		wantFault(t, s+"a", impl.FtSign, 0)
	}
	for _, s := range []string{"\xef", "\xef\xbb", "\xef\xbba", "\xff\xfe", "\xfe\xff", "\xbb\xbf"} {
		wantFault(t, s, impl.FtText, 0)
		wantFault(t, s+"a", impl.FtText, 0)
	}
}

func TestRemarks(t *testing.T) {
	for _, s := range []string{"#", "##", "# ", "#a", "#\"", "#\"\"\"", "#{", "#%", "#é€😀", "#\x00\x1f\x7f", "#a#b#", " ,#", "#\n#", "#\r#", "#\r\n#a", "#\t,b"} {
		wantTokens(t, s)
		wantTokens(t, "a "+s, tok(2, "a", 0))
		wantTokens(t, "a"+s, tok(2, "a", 0))
		wantTokens(t, s+"\nb", tok(2, "b", len(s)+1))
		wantTokens(t, s+"\rb", tok(2, "b", len(s)+1))
		wantTokens(t, s+"\r\nb", tok(2, "b", len(s)+2))
		wantTokens(t, s+" b")
		wantTokens(t, s+"\n"+s+"\r"+s+"\r\n"+s)
		wantTokens(t, "1"+s+"\n2", tok(3, "1", 0), tok(3, "2", len(s)+2))
		wantTokens(t, "\"x\""+s+"\n{", tok(5, "x", 0), tok(1, "{", len(s)+4))
		wantFault(t, s+"\n%", impl.FtSign, len(s)+1)
		wantFault(t, s+"\r01", impl.FtNumber, len(s)+1)
	}
	wantTokens(t, "#a\n#b\rc", tok(2, "c", 6))
	wantTokens(t, "a#b\nc#d\re", tok(2, "a", 0), tok(2, "c", 4), tok(2, "e", 8))
	wantTokens(t, `"#" "a#b"`, tok(5, "#", 0), tok(5, "a#b", 4))
	wantTokens(t, "\"\"\"#\na#\"\"\"#\"", tok(5, "#\na#", 0))
	for _, other := range []string{"\x0b", "\x0c", "\xc2\x85", "\xe2\x80\xa8", "\xe2\x80\xa9", "\x00", `\n`, `\r`, "\x1e"} {
		wantTokens(t, "#a"+other+"b")
	}
}

func TestSignsWithNothingBetween(t *testing.T) {
	for _, a := range allSigns {
		wantTokens(t, a, tok(1, a, 0))
		for _, b := range allSigns {
			wantTokens(t, a+b, tok(1, a, 0), tok(1, b, len(a)))
			for _, c := range allSigns {
				wantTokens(t, a+b+c, tok(1, a, 0), tok(1, b, len(a)), tok(1, c, len(a+b)))
			}
		}
		wantTokens(t, a+"x", tok(1, a, 0), tok(2, "x", len(a)))
		wantTokens(t, "x"+a, tok(2, "x", 0), tok(1, a, 1))
		wantTokens(t, a+"-1", tok(1, a, 0), tok(3, "-1", len(a)))
		wantTokens(t, a+`""`, tok(1, a, 0), tok(5, "", len(a)))
		wantTokens(t, `""`+a, tok(5, "", 0), tok(1, a, 2))
		wantTokens(t, `""""""`+a+`"a"`, tok(5, "", 0), tok(1, a, 6), tok(5, "a", 6+len(a)))
		if a != "..." {
			wantTokens(t, "1"+a+"2.5"+a, tok(3, "1", 0), tok(1, a, 1), tok(4, "2.5", 2), tok(1, a, 5))
		}
	}
}

func TestPoints(t *testing.T) {
	wantTokens(t, "...", tok(1, "...", 0))
	wantTokens(t, "......", tok(1, "...", 0), tok(1, "...", 3))
	wantTokens(t, "...a...", tok(1, "...", 0), tok(2, "a", 3), tok(1, "...", 4))
	wantTokens(t, "...1", tok(1, "...", 0), tok(3, "1", 3))
	wantTokens(t, "...-1.5", tok(1, "...", 0), tok(4, "-1.5", 3))
	for s, at := range map[string]int{".": 0, "..": 0, ". ..": 0, ".. .": 0, "..a": 0, ".5": 0, "..5": 0, "....": 3, ".....": 3, ".......": 6, "....5": 3, "a.b": 1, "a..": 1, "a....": 4, "..\n.": 0, ".,..": 0, "... .": 4, "{.}": 1, "…": 0} {
		wantFault(t, s, impl.FtSign, at)
	}
	for _, s := range []string{"1...", "1.", "1..", "1....", "1.5...", "-...", "-.", "0...a", "1e5..."} {
		wantFault(t, s, impl.FtNumber, 0)
	}
}

func TestNamesAsTokens(t *testing.T) {
	for _, name := range []string{"a", "Z", "_", "__", "a1", "_0", "e", "E", "e1", "x9y_8", "true", "null", "query", "A_b_C", "a00", strings.Repeat("a", 29), strings.Repeat("n", 30), "_" + strings.Repeat("9", 29), strings.Repeat("Z_", 15)} {
		wantTokens(t, name, tok(2, name, 0))
		wantTokens(t, " "+name, tok(2, name, 1))
		wantTokens(t, name+"-1", tok(2, name, 0), tok(3, "-1", len(name)))
		wantTokens(t, name+"-0.5", tok(2, name, 0), tok(4, "-0.5", len(name)))
		wantTokens(t, name+`"a"`+name, tok(2, name, 0), tok(5, "a", len(name)), tok(2, name, len(name)+3))
		wantTokens(t, name+`""""""`+name, tok(2, name, 0), tok(5, "", len(name)), tok(2, name, len(name)+6))
		wantTokens(t, name+":"+name, tok(2, name, 0), tok(1, ":", len(name)), tok(2, name, len(name)+1))
		wantTokens(t, name+","+name, tok(2, name, 0), tok(2, name, len(name)+1))
		wantTokens(t, name+"#"+name, tok(2, name, 0))
		wantFault(t, name+"+1", impl.FtSign, len(name))
		wantFault(t, name+".5", impl.FtSign, len(name))
		wantFault(t, name+"é", impl.FtSign, len(name))
		wantFault(t, name+"-", impl.FtNumber, len(name))
		wantFault(t, name+"-"+name, impl.FtNumber, len(name))
	}
	wantTokens(t, "a1", tok(2, "a1", 0))
	wantTokens(t, "a 1", tok(2, "a", 0), tok(3, "1", 2))
}

func TestNamesAtTheirGreatestLength(t *testing.T) {
	for many := 1; many <= 70; many++ {
		for _, sign := range []string{"a", "Z", "_"} {
			for _, name := range []string{strings.Repeat(sign, many), sign + strings.Repeat("7", many-1)} {
				for _, behind := range []string{"", " ", "{", "\n", "#", "-1"} {
					if many > 30 {
						wantFault(t, name+behind, impl.FtSign, 0)
						wantFault(t, "b "+name+behind, impl.FtSign, 2)
					}
					wantTokensAsOracle(t, name+behind)
					wantTokensAsOracle(t, "b,"+name+behind)
				}
			}
		}
	}
	for _, many := range []int{256, 256 + 30, 4096, 12000} {
		wantFault(t, strings.Repeat("a", many), impl.FtSign, 0)
	}
}

func TestNumbersAsTokens(t *testing.T) {
	for kind, numbers := range map[int][]string{impl.TkInt: wholeTexts, impl.TkFloat: otherTexts} {
		for _, number := range numbers {
			wantTokens(t, number, tok(kind, number, 0))
			wantTokens(t, "\t"+number+"\n", tok(kind, number, 1))
			wantTokens(t, "["+number+"]", tok(1, "[", 0), tok(kind, number, 1), tok(1, "]", 1+len(number)))
			wantTokens(t, number+","+number, tok(kind, number, 0), tok(kind, number, len(number)+1))
			wantTokens(t, number+"-1", tok(kind, number, 0), tok(3, "-1", len(number)))
			wantTokens(t, number+`"a"`, tok(kind, number, 0), tok(5, "a", len(number)))
			wantFault(t, number+"+1", impl.FtSign, len(number))
			wantFault(t, number+"é", impl.FtSign, len(number))
			for _, letter := range []string{"a", "z", "A", "Z", "_", "x1", "_0", "name", "e", "E", "e+", "e-", "E+", "ee+5", "f", "l", "n"} {
				wantFault(t, number+letter, impl.FtNumber, 0)
				wantFault(t, "a "+number+letter, impl.FtNumber, 2)
			}
			wantFault(t, number+".", impl.FtNumber, 0)
			wantFault(t, number+"...", impl.FtNumber, 0)
		}
	}
}

func TestNumbersThatRunOn(t *testing.T) {
	for _, s := range []string{
		"-", "--", "--1", "-a", "-name", "-_", "-_1", "-.", "-.5", "-e", "-e5", "-e+5", "-E-5", "- 1", "-,", "-\n1", "-{", "-\"a\"", "-#", "-é", "-+1", "-...",
		"00", "01", "-01", "007", "00.5", "0x1", "0xe+1", "0b1", "1a", "1A", "1_", "1_000", "12ab", "1.", "1.a", "1._", "1.5.5", "1..5", "1.e5", "1.5a", "1.5_", "1.5.", "1.-5",
		"1e", "1E", "1e+", "1e-", "1E+", "1E-", "1e++1", "1e--1", "1e+-1", "1e-+1", "1ee1", "1eE+1", "1e1e1", "1e1e+1", "1e+e-1", "1e5.5", "1e5_", "1e+a", "1e+5a", "1e-_", "1e+.5", "1e.5", "1ae+1", "1_e-1", "1.e+1", "1.5e", "1.5e+", "1.5E-a",
		"0a", "0_", "0e", "-0a", "-0x", "0.", "-0.", "1i", "1n", "1f", "9z9", strings.Repeat("9", 41), "-" + strings.Repeat("9", 40), "0." + strings.Repeat("0", 39), "1e" + strings.Repeat("7", 39), "1e+" + strings.Repeat("7", 38), strings.Repeat("1", 12000),
	} {
		wantFault(t, s, impl.FtNumber, 0)
		if len(s) < 100 {
			wantFault(t, "a,"+s, impl.FtNumber, 2)
			wantFault(t, "a"+" "+s+" % \"", impl.FtNumber, 2)
			wantTokensAsOracle(t, s+" %")
		}
	}
}

func TestPlusAndMinusInNumbers(t *testing.T) {
	wantTokens(t, "1-2", tok(3, "1", 0), tok(3, "-2", 1))
	wantTokens(t, "1-2-3", tok(3, "1", 0), tok(3, "-2", 1), tok(3, "-3", 3))
	wantTokens(t, "-1-1", tok(3, "-1", 0), tok(3, "-1", 2))
	wantTokens(t, "1e5-3", tok(4, "1e5", 0), tok(3, "-3", 3))
	wantTokens(t, "1e-5-3", tok(4, "1e-5", 0), tok(3, "-3", 4))
	wantTokens(t, "1E+5-3.5", tok(4, "1E+5", 0), tok(4, "-3.5", 4))
	wantTokens(t, "1.5-0", tok(4, "1.5", 0), tok(3, "-0", 3))
	wantTokens(t, "0-0", tok(3, "0", 0), tok(3, "-0", 1))
	wantTokens(t, "1.5e3-2.5E-1", tok(4, "1.5e3", 0), tok(4, "-2.5E-1", 5))
	wantTokens(t, "e-1", tok(2, "e", 0), tok(3, "-1", 1))
	wantTokens(t, "E-1.5", tok(2, "E", 0), tok(4, "-1.5", 1))
	wantTokens(t, "1 e-1", tok(3, "1", 0), tok(2, "e", 2), tok(3, "-1", 3))
	for s, at := range map[string]int{"+": 0, "+1": 0, "1+": 1, "1+2": 1, "1.5+2": 3, "1e5+": 3, "1e5+1": 3, "1e+5+": 4, "e+1": 1, "E+1": 1, "a+": 1, "-1+1": 2, "1 +2": 2} {
		wantFault(t, s, impl.FtSign, at)
	}
	for s, at := range map[string]int{"1--2": 1, "1-": 1, "1e5--": 3, "1e+5-": 4, "1-a": 1, "1-e+5": 1, "1-02": 1, "e-": 1, "1e-5-e": 4} {
		wantFault(t, s, impl.FtNumber, at)
	}
}

func TestEveryByteBesideTokens(t *testing.T) {
	for b := range 128 {
		sign := string([]byte{byte(b)})
		for _, ahead := range []string{"", "1", "-", "-1", "0", "1.", "1.5", "1e", "1E", "1e+", "1e5", "a", "_", "e", "...", "..", `"a"`, `"a`, `"`, `""`, `"""`, `""""""`, "#", "#a\n", ",", "{", "\xef\xbb\xbf", "é"} {
			for _, behind := range []string{"", "1", "a", ".", "..", "-", "+5", " ", `"`, `""`, "\n", "e+1", "}"} {
				wantTokensAsOracle(t, ahead+sign+behind)
			}
		}
	}
}

func TestTextsInOneQuote(t *testing.T) {
	for s, want := range map[string]string{
		`""`: "", `"a"`: "a", `" "`: " ", `"a b"`: "a b", `"#"`: "#", `","`: ",", `"{"`: "{", `"..."`: "...", `"1"`: "1", `"'"`: "'",
		`"\""`: `"`, `"\\"`: `\`, `"\/"`: "/", `"\b\t\n\f\r"`: "\b\t\n\f\r", `"\u0041"`: "A", `"\u{1F600}"`: "😀", `"\ud83d\ude00"`: "😀", `"\\\""`: `\"`, `"a\"b\"c"`: `a"b"c`, `"\"\"\""`: `"""`,
		"\"\t\"": "\t", "\"\x7f\"": "\x7f", `"é€😀"`: "é€😀", "\"\xef\xbf\xbd\"": "\xef\xbf\xbd",
		`"` + strings.Repeat("a", 200) + `"`: strings.Repeat("a", 200), `"` + strings.Repeat(`\u0041`, 200) + `"`: strings.Repeat("A", 200),
	} {
		wantTokens(t, s, tok(5, want, 0))
		wantTokens(t, " ,"+s, tok(5, want, 2))
		wantTokens(t, s+"a", tok(5, want, 0), tok(2, "a", len(s)))
		wantTokens(t, s+" "+s, tok(5, want, 0), tok(5, want, len(s)+1))
		wantTokens(t, s+"1.5{", tok(5, want, 0), tok(4, "1.5", len(s)), tok(1, "{", len(s)+3))
		if s != `""` {
			wantTokens(t, s+s, tok(5, want, 0), tok(5, want, len(s)))
			wantTokens(t, s+`""`, tok(5, want, 0), tok(5, "", len(s)))
		}
	}
	wantTokens(t, `"\""""`, tok(5, `"`, 0), tok(5, "", 4))
	wantTokens(t, `"a""""b"""`, tok(5, "a", 0), tok(5, "b", 3))
}

func TestTextsInThreeQuotes(t *testing.T) {
	for s, want := range map[string]string{
		`""""""`: "", `""" """`: "", "\"\"\"\n\"\"\"": "", `"""a"""`: "a", `""" a """`: " a ", "\"\"\"\n  a\n    b\n  \"\"\"": "a\n  b", "\"\"\"a\r\n b\rc\"\"\"": "a\n b\nc",
		`"""\""""""`: `"""`, `"""a\"""b"""`: `a"""b`, `"""\n\u0041"""`: `\n\u0041`, `"""\\ """`: `\\ `, `"""a"b""c"""`: `a"b""c`, `""""a"""`: `"a`, `"""é€😀#,"""`: "é€😀#,", "\"\"\"\t\x7f\"\"\"": "\t\x7f",
		`"""` + strings.Repeat("a", 200) + `"""`: strings.Repeat("a", 200), `"""` + strings.Repeat("\n", 993) + `a"""`: "a",
	} {
		wantTokens(t, s, tok(5, want, 0))
		wantTokens(t, "\n\n"+s, tok(5, want, 2))
		wantTokens(t, s+s, tok(5, want, 0), tok(5, want, len(s)))
		wantTokens(t, s+`"b"`, tok(5, want, 0), tok(5, "b", len(s)))
		wantTokens(t, `"b"`+s, tok(5, "b", 0), tok(5, want, 3))
		wantTokens(t, s+`""`, tok(5, want, 0), tok(5, "", len(s)))
		wantTokens(t, s+"a", tok(5, want, 0), tok(2, "a", len(s)))
		wantFault(t, s+`"`, impl.FtString, len(s))
	}
}

func TestTextsThatAreWrong(t *testing.T) {
	for _, s := range []string{
		`"`, `"a`, `"a b # c`, "\"\n\"", "\"a\n\"", "\"a\rb\"", "\"a\r\n\"", "\"\n", `"\"`, `"a\"`, `"\\\"`, `"a\` + "\n\"", `"\`, `"a'`,
		`"\a"`, `"\x41"`, `"\'"`, `"\ "`, `"\0"`, `"\u"`, `"\u004"`, `"\u004g"`, `"\u{}"`, `"\u{110000}"`, `"\u{d800}"`, `"\u{0000041}"`, `"\ud83d"`, `"\ude00"`, `"\ud83d\u0041"`, `"\ud83da"`,
		"\"\x00\"", "\"\x08\"", "\"\x0b\"", "\"\x1f\"", `"` + strings.Repeat("a", 201) + `"`, `"` + strings.Repeat("é", 101) + `"`, `"` + strings.Repeat(`\u{000041}`, 130) + `"`, `"` + strings.Repeat("a", 11900) + `"`,
		`"""`, `""""`, `"""""`, `"""a`, `"""a"`, `"""a""`, `"""\"""`, `"""a\"""`, `"""a\""""`, `"""a\"""""`, "\"\"\"\n\n", `"""\\"""`,
		"\"\"\"\x00\"\"\"", "\"\"\"a\x08\"\"\"", "\"\"\"\x0b\n\"\"\"", "\"\"\"\x1f\"\"\"", `"""` + strings.Repeat("a", 201) + `"""`, `"""` + strings.Repeat("\n", 995) + `"""`, `"""` + strings.Repeat(" ", 995) + `"""`, `"""` + strings.Repeat("é", 101) + `"""`,
	} {
		wantFault(t, s, impl.FtString, 0)
		wantFault(t, "\xef\xbb\xbf"+s, impl.FtString, 3)
		wantFault(t, "a,"+s, impl.FtString, 2)
		wantFault(t, `"é" `+s, impl.FtString, 5)
		wantFault(t, `""""""`+" "+s, impl.FtString, 7)
		wantTokensAsOracle(t, s+"\n%")
	}
	wantFault(t, `"a""`, impl.FtString, 3)
	wantFault(t, `"""a""""`, impl.FtString, 7)
	wantFault(t, `"""""""`, impl.FtString, 6)
	wantTokens(t, `""""""""`, tok(5, "", 0), tok(5, "", 6))
	wantFault(t, `"""""""""`, impl.FtString, 6)
	wantTokens(t, `""""""""""""`, tok(5, "", 0), tok(5, "", 6))
	wantTokens(t, `"" ""`, tok(5, "", 0), tok(5, "", 3))
}

func TestTokensBehindSignsOfManyBytes(t *testing.T) {
	for n, sign := range []string{"", "é", "€", "😀", "\x7f", "\xef\xbf\xbd", "\xef\xbb\xbf", "\xf4\x8f\xbf\xbf", "é€😀"} {
		for many := range 5 {
			within := strings.Repeat(sign, many)
			for ahead, text := range map[string]string{`"` + within + `" `: within, "\"\"\"" + within + "\"\"\"\n": within} {
				wantTokens(t, ahead+"a", tok(5, text, 0), tok(2, "a", len(ahead)))
				wantTokens(t, ahead+"#"+within+"\n...-1", tok(5, text, 0), tok(1, "...", len(ahead+within)+2), tok(3, "-1", len(ahead+within)+5))
				wantFault(t, ahead+"%", impl.FtSign, len(ahead))
				wantFault(t, ahead+"1a", impl.FtNumber, len(ahead))
				wantFault(t, ahead+"\"", impl.FtString, len(ahead))
				wantFault(t, ahead+"\xff", impl.FtText, len(ahead))
			}
			remark := "#" + within + "\r"
			wantTokens(t, remark+"1.5\""+within+"\""+remark+"{", tok(4, "1.5", len(remark)), tok(5, within, len(remark)+3), tok(1, "{", 2*len(remark)+5+len(within)))
		}
		if n > 0 && sign != "\xef\xbb\xbf" {
			wantFault(t, sign, impl.FtSign, 0)
		}
		if n > 0 {
			wantFault(t, "a "+sign, impl.FtSign, 2)
			wantFault(t, "{"+sign+"}", impl.FtSign, 1)
		}
	}
}

func TestSourcesAtTheirLimit(t *testing.T) {
	for _, fill := range []string{" ", "\t", "\n", "\r", ",", "#", "#a", "#é", " #\n", "#\r", "{", "a ", "!...", "%", "1a", "\"", "\xff", "a\xff"} {
		for _, many := range []int{11999, 12000, 12001, 12002, 24000, 12000 + 65536} {
			s := strings.Repeat(fill, many)[:many]
			wantTokensAsOracle(t, s)
			if many > 12000 {
				wantFault(t, s, impl.FtLong, 0)
			}
		}
	}
	blanks := strings.Repeat(" ", 12000)
	wantTokens(t, blanks)
	wantTokens(t, blanks[1:]+"a", tok(2, "a", 11999))
	wantTokens(t, "a"+blanks[1:], tok(2, "a", 0))
	wantTokens(t, "\xef\xbb\xbf"+blanks[4:]+"a", tok(2, "a", 11999))
	wantFault(t, "\xef\xbb\xbf"+blanks[4:]+" a", impl.FtLong, 0)
	wantFault(t, blanks+"a", impl.FtLong, 0)
	wantFault(t, blanks[1:]+"%", impl.FtSign, 11999)
	wantFault(t, blanks[1:]+"-", impl.FtNumber, 11999)
	wantFault(t, blanks[1:]+"\"", impl.FtString, 11999)
	wantFault(t, blanks[1:]+"\x80", impl.FtText, 11999)
}

func TestLongIsAheadOfAll(t *testing.T) {
	blanks := strings.Repeat(" ", 12000)
	for _, wrong := range []string{"%", "01", "\"", "\xff", strings.Repeat("a", 31), strings.Repeat("!", 2501), "a"} {
		wantFault(t, wrong+blanks, impl.FtLong, 0)
		wantFault(t, blanks+wrong, impl.FtLong, 0)
		wantFault(t, blanks[:6000]+wrong+blanks[:6000], impl.FtLong, 0)
	}
}

func TestTextsThatAreNoScalars(t *testing.T) {
	for _, wrong := range wrongTexts {
		at := firstNoScalar(wrong)
		wantFault(t, wrong, impl.FtText, at)
		for _, ahead := range []string{"a", "a ", "é\"", "\"", "\"é€😀", "#", "#é", "# a\n", "\xef\xbb\xbf", "{", "%", "% ", "01 ", "\"\\x\" ", "\"\n", "...", "\"\"\"", strings.Repeat("a", 31) + " ", strings.Repeat("!", 2501), "\xef\xbf\xbd", "\xf4\x8f\xbf\xbf"} {
			wantFault(t, ahead+wrong, impl.FtText, len(ahead)+at)
			wantFault(t, ahead+wrong+" a\"", impl.FtText, len(ahead)+at)
			wantFault(t, ahead+wrong+" "+wrong, impl.FtText, len(ahead)+at)
		}
	}
	for b := 128; b < 256; b++ {
		wantFault(t, "a "+string([]byte{byte(b)}), impl.FtText, 2)
		wantFault(t, "a "+string([]byte{byte(b)})+" b", impl.FtText, 2)
	}
}

func TestEveryScalarOutsideOfTexts(t *testing.T) {
	for n := 128; n <= impl.MaxRune; n++ {
		sign := scalarBytes(n)
		if sign == "" {
			continue
		}
		if got, fault := impl.TokensOf("a " + sign); len(got) != 0 || fault != (impl.Fault{Code: impl.FtSign, At: 2}) {
			t.Fatalf("TokensOf of a and %q: %v, %v", sign, got, fault)
		}
	}
}

func TestSignsThatAreNone(t *testing.T) {
	for _, s := range []string{"%", "'", "*", "/", ";", "<", ">", "?", `\`, "^", "`", "~", "+", ".", "\x00", "\x01", "\x08", "\x0b", "\x0c", "\x0e", "\x1f", "\x7f", "é", "\xc2\xa0", "\xe2\x80\xa8"} {
		wantFault(t, s, impl.FtSign, 0)
		for _, ahead := range []string{"a", "1", "{", "...", `"a"`, `"""a"""`, " ", "#a\n", "\xef\xbb\xbf"} {
			// A point goes on with the number that stands ahead of it.
			if ahead == "1" && s == "." {
				continue
			}
			wantFault(t, ahead+s, impl.FtSign, len(ahead))
			wantFault(t, ahead+s+s, impl.FtSign, len(ahead))
			wantFault(t, ahead+" "+s+"a", impl.FtSign, len(ahead)+1)
		}
	}
}

func TestTheFirstFaultCounts(t *testing.T) {
	wrong := map[string]int{"%": 3, ".": 3, "é": 3, strings.Repeat("n", 31): 3, "01": 4, "-": 4, "1a": 4, "\"\\x\"": 5, "\"\x01\"": 5, "\"\"\"\x01\"\"\"": 5, "\"a": 5, "\"\"\"a\\\"\"\"": 5}
	for first, code := range wrong {
		for second := range wrong {
			for _, gap := range []string{" ", "\n", ",", " b ", "\n#\n", " 1 {"} {
				// A text that is not closed takes what follows as its own, and may be closed by it.
				if strings.HasPrefix(first, "\"\"\"a") && strings.Contains(second, "\"\"\"") || first == "\"a" && !strings.HasPrefix(gap, "\n") && strings.Contains(second, "\"") {
					wantTokensAsOracle(t, first+gap+second)
					continue
				}
				wantFault(t, first+gap+second, code, 0)
				wantFault(t, "x {\n"+first+gap+second, code, 4)
				wantFault(t, first+gap+strings.Repeat("! ", 2600), code, 0)
			}
		}
	}
}

func TestManyTokens(t *testing.T) {
	for _, each := range []string{"!", "a ", "1,", "1.5\n", `"" `, `"a"`, "...", "{#\n", "-1", "a\r\n"} {
		for _, many := range []int{2499, 2500, 2501, 2502, 3000} {
			s := strings.Repeat(each, many)
			wantTokensAsOracle(t, s)
			got, fault := impl.TokensOf(s)
			if many > 2500 && len(s) <= 12000 {
				wantFault(t, s, impl.FtMany, 2500*len(each))
			} else if len(s) <= 12000 && (len(got) != many || fault != (impl.Fault{})) {
				t.Errorf("%d of %q: %d tokens, %v", many, each, len(got), fault)
			}
		}
	}
}

func TestFaultsAboutTheMostTokens(t *testing.T) {
	wrong := map[string]int{"%": 3, ".": 3, "é": 3, strings.Repeat("n", 31): 3, "01": 4, "-": 4, "1a": 4, "\"": 5, "\"\\x\"": 5, "\"\"\"": 5, "\"\"\"\x01\"\"\"": 5}
	for s, code := range wrong {
		for _, ahead := range []int{0, 1, 2498, 2499, 2500} {
			signs := strings.Repeat("!", ahead)
			wantFault(t, signs+s, code, ahead)
			wantFault(t, signs+" "+s+"\n"+strings.Repeat("!", 2600), code, ahead+1)
		}
		full := strings.Repeat("!", 2501)
		wantFault(t, full+s, impl.FtMany, 2500)
		wantFault(t, full[:2500]+" \n,"+full[:1]+s, impl.FtMany, 2503)
	}
	full := strings.Repeat("!", 2500)
	for _, one := range []string{"!", "...", "a", strings.Repeat("a", 30), "1", "-1.5", `""`, `"a"`, `"""a"""`} {
		wantFault(t, full+one, impl.FtMany, 2500)
		wantFault(t, full+" #é\n"+one+" "+one, impl.FtMany, 2505)
		wantFault(t, "\xef\xbb\xbf"+full+one, impl.FtMany, 2503)
	}
	for _, gap := range allGaps {
		if got, fault := impl.TokensOf(full + gap); len(got) != 2500 || fault != (impl.Fault{}) {
			t.Errorf("2500 tokens and %q: %d, %v", gap, len(got), fault)
		}
	}
	wantFault(t, full+"!\xff", impl.FtText, 2501)
}

func TestTextsThatPrintTokens(t *testing.T) {
	texts := append([]string{"", "a", `"`, `\`, "\n", "é", "\x00", "\x7f", "1.5", "...", "a b", "{", `"a"`, strings.Repeat("a", 200), strings.Repeat("\x01", 200), strings.Repeat("a", 201), strings.Repeat("é", 101)}, wrongTexts...)
	for _, text := range texts {
		for _, at := range []int{0, 7, -1, math.MinInt, math.MaxInt} {
			for _, kind := range []int{impl.TkSign, impl.TkName, impl.TkInt, impl.TkFloat, 0, 6, -1, 7, 256 + 5, math.MinInt, math.MaxInt} {
				if got := impl.TokenText(tok(kind, text, at)); got != text {
					t.Errorf("TokenText of kind %d and %q: %q", kind, text, got)
				}
			}
			if got := impl.TokenText(tok(impl.TkString, text, at)); got != escapedOracle(text) {
				t.Errorf("TokenText of the text %q: %q", text, got)
			}
		}
	}
	for text, want := range map[string]string{"": `""`, "x": `"x"`, "\"\n\x01é": `"\"\n\u0001é"`, "\xff": "", strings.Repeat("a", 201): ""} {
		if got := impl.TokenText(tok(impl.TkString, text, 3)); got != want {
			t.Errorf("TokenText of the text %q: %q, want %q", text, got, want)
		}
	}
}

func TestTokensThatAreRight(t *testing.T) {
	texts := slices.Concat(allSigns, wholeTexts, otherTexts, noNumbers, wrongTexts, []string{
		"a", "_", "Z9", "true", "e5", strings.Repeat("a", 30), strings.Repeat("a", 31), "é", `""`, `"a"`, " ", "..", "....", "!!", "a\n", "\x00", "\xef\xbb\xbf",
		strings.Repeat(" ", 200), strings.Repeat(" ", 201), strings.Repeat("é", 100), strings.Repeat("é", 101), strings.Repeat("\x01", 200), strings.Repeat("9", 41), strings.Repeat("a", 20000),
	})
	for _, text := range texts {
		want := map[int]bool{
			1: signForm.FindString(text) == text && text != "",
			2: nameForm.MatchString(text) && len(text) <= 30,
			3: numberOracle(text) == 3,
			4: numberOracle(text) == 4,
			5: escapedOracle(text) != "",
		}
		for _, kind := range []int{1, 2, 3, 4, 5, 0, 6, 7, -1, -5, 10, 256 + 1, 1<<32 + 2, math.MinInt, math.MaxInt} {
			for _, at := range []int{0, 1, -1, 12000, math.MinInt, math.MaxInt} {
				if got := impl.TokenOk(tok(kind, text, at)); got != want[kind] {
					t.Errorf("TokenOk of kind %d and %.60q at %d: %v", kind, text, at, got)
				}
			}
		}
	}
	if impl.TokenOk(impl.Token{}) {
		t.Error("TokenOk of the zero value")
	}
}

// someTokens has tokens of each kind, at the edges of what it may have.
func someTokens() []impl.Token {
	tokens := []impl.Token{}
	for _, sign := range allSigns {
		tokens = append(tokens, tok(1, sign, 0))
	}
	for _, name := range []string{"a", "_", "Z9_", "e", "E5", "true", strings.Repeat("n", 30)} {
		tokens = append(tokens, tok(2, name, 0))
	}
	for _, number := range wholeTexts {
		tokens = append(tokens, tok(3, number, 0))
	}
	for _, number := range otherTexts {
		tokens = append(tokens, tok(4, number, 0))
	}
	for _, text := range []string{"", "a", `"`, `"""`, `\`, `\"""`, "#", "a\nb", "\r\n", "\x00\x1f\x7f", "é€😀", "\xef\xbb\xbf", " , ", strings.Repeat("a", 200), strings.Repeat("\x01", 200), strings.Repeat(`"`, 200), strings.Repeat("é", 100), "\t"} {
		tokens = append(tokens, tok(5, text, 0))
	}
	return tokens
}

func TestTokensComeBackFromATextOfThem(t *testing.T) {
	tokens := someTokens()
	for _, gap := range allGaps {
		for step := range 8 {
			text, want := "", []impl.Token{}
			for i := range tokens {
				token := tokens[(i*(2*step+1)+step)%len(tokens)]
				if !impl.TokenOk(token) {
					t.Errorf("%v is not right", token)
				}
				token.At = len(text)
				want = append(want, token)
				text += impl.TokenText(token) + gap
			}
			wantTokens(t, text, want...)
		}
	}
}

func TestPairsOfTokensComeBack(t *testing.T) {
	tokens := someTokens()
	for _, first := range tokens {
		for _, second := range tokens {
			for _, gap := range []string{" ", ",", "\n", "\r", "\t", "#\n", "#\"\r"} {
				a, b := impl.TokenText(first), impl.TokenText(second)
				wantTokens(t, a+gap+b, first, tok(second.Kind, second.Text, len(a+gap)))
			}
		}
	}
}

func TestEachTokenStandsWhereItIsTold(t *testing.T) {
	eachText([]string{"{", "...", "a", "-1", "1.5", `"é"`, `"""b"""`, " ", "#€\n", ","}, 5, func(s string) {
		tokens, fault := impl.TokensOf(s)
		if fault.Code != 0 {
			return
		}
		behind := 0
		for i, token := range tokens {
			if token.At < behind || !impl.TokenOk(token) {
				t.Errorf("TokensOf(%q): %v", s, tokens)
			}
			// What stands ahead of it has the tokens ahead of it alone, and it is the first one of the rest.
			ahead, _ := impl.TokensOf(s[:token.At])
			rest, _ := impl.TokensOf(s[token.At:])
			if !slices.Equal(ahead, tokens[:i]) || len(rest) != len(tokens)-i || rest[0] != tok(token.Kind, token.Text, 0) {
				t.Errorf("TokensOf(%q): %v stands elsewhere", s, token)
			}
			behind = token.At + 1
		}
	})
}

func TestEveryShortTextOfTokens(t *testing.T) {
	eachText([]string{"a", "1", "0", "-", "+", ".", "e", "_", " ", "{"}, 5, func(s string) { wantTokensAsOracle(t, s) })
	eachText([]string{`"`, `\`, "a", "\n", "#", " ", "é"}, 6, func(s string) { wantTokensAsOracle(t, s) })
	eachText([]string{`"""`, `\"""`, `"`, "\r", "#", ",", "n", "\xef\xbb\xbf", "\xef"}, 5, func(s string) { wantTokensAsOracle(t, s) })
	eachText([]string{"1", "e", "E", "-", "+", "."}, 6, func(s string) { wantTokensAsOracle(t, s) })
}

func TestTokensAreNewMemory(t *testing.T) {
	const s = `{a: "x"}`
	first, _ := impl.TokensOf(s)
	want := slices.Clone(first)
	for i := range first {
		first[i] = tok(9, "other", 99)
	}
	wantTokens(t, s, want...)
}
