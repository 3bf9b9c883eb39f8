package tests

import (
	"fmt"
	"regexp"
	"slices"
	"strings"
	"testing"

	"loop.example/g00964/impl"
)

func typ(name string, wraps string) impl.Type { return impl.Type{Name: name, Wraps: wraps} }

var rightWraps = regexp.MustCompile(`^!?(\]!?)*$`)

func typeOkOracle(t impl.Type) bool {
	return len(t.Name) <= 30 && nameForm.FindString(t.Name) == t.Name && t.Name != "" && len(t.Wraps) <= 8 && rightWraps.MatchString(t.Wraps) && !strings.Contains(t.Wraps, "\n")
}

// From the inside out, a wrap at a time.
func typeTextOracle(t impl.Type) string {
	if !typeOkOracle(t) {
		return ""
	}
	text := t.Name
	for _, wrap := range strings.Split(t.Wraps, "") {
		text = map[string]string{"]": "[" + text + "]", "!": text + "!"}[wrap]
	}
	return text
}

// A beginning of the text of a type, each of whose tokens is one sign: n is a name, x one that has no place in a type.
var begunType = regexp.MustCompile(`^(\[*)(n(!?(?:\]!?)*))?$`)

// begins tells whether signs are the beginning of a type of as many wraps and brackets as may be.
func begins(signs string, most int) bool {
	parts := begunType.FindStringSubmatch(signs)
	return parts != nil && len(parts[1]) <= most && len(parts[3]) <= most && strings.Count(parts[3], "]") <= len(parts[1])
}

func signsOf(tokens []impl.Token) string {
	signs := ""
	for _, token := range tokens {
		switch {
		case token.Kind == 2:
			signs += "n"
		case token.Kind == 1 && strings.Contains("[]!", token.Text):
			signs += token.Text
		default:
			signs += "x"
		}
	}
	return signs
}

// The chapter's words, written another way, to hold the program against: the fault is at the first token with which no type begins any more.
func readTypeOracle(s string) (impl.Type, impl.Fault) {
	tokens, fault := tokensOracle(s)
	if fault.Code != 0 {
		return impl.Type{}, fault
	}
	signs := signsOf(tokens)
	for at, token := range tokens {
		if begins(signs[:at+1], 8) {
			continue
		}
		if begins(signs[:at+1], len(signs)) {
			return impl.Type{}, impl.Fault{Code: 8, At: token.At}
		}
		return impl.Type{}, impl.Fault{Code: 7, At: token.At}
	}
	opened, wraps, named := strings.Cut(signs, "n")
	if !named || strings.Count(wraps, "]") < len(opened) {
		return impl.Type{}, impl.Fault{Code: 7, At: len(s)}
	}
	return typ(tokens[len(opened)].Text, wraps), impl.Fault{}
}

func wantType(t *testing.T, s string, want impl.Type) {
	t.Helper()
	if got, fault := impl.ReadType(s); got != want || fault != (impl.Fault{}) {
		t.Errorf("ReadType(%.300q): %q, %v, want %q", s, got, fault, want)
	}
}

func wantNoType(t *testing.T, s string, code int, at int) {
	t.Helper()
	if got, fault := impl.ReadType(s); got != (impl.Type{}) || fault != (impl.Fault{Code: code, At: at}) {
		t.Errorf("ReadType(%.300q): %q, %v, want nothing and {%d %d}", s, got, fault, code, at)
	}
}

func wantTypeAsOracle(t *testing.T, s string) {
	t.Helper()
	want, wrong := readTypeOracle(s)
	if got, fault := impl.ReadType(s); got != want || fault != wrong {
		t.Errorf("ReadType(%.300q): %q, %v, want %q, %v", s, got, fault, want, wrong)
	}
}

func wantTypeText(t *testing.T, x impl.Type, want string) {
	t.Helper()
	if !impl.TypeOk(x) {
		t.Errorf("TypeOk(%q) is false", x)
	}
	if got := impl.TypeText(x); got != want {
		t.Errorf("TypeText(%q): %q, want %q", x, got, want)
	}
}

func wantNotRight(t *testing.T, x impl.Type) {
	t.Helper()
	if impl.TypeOk(x) {
		t.Errorf("TypeOk(%.300q) is true", x)
	}
	if got := impl.TypeText(x); got != "" {
		t.Errorf("TypeText(%.300q): %q", x, got)
	}
}

// What is left of a type is told by its Wraps alone.
func wantLeft(t *testing.T, x impl.Type, needed bool, inner string, fewer string) {
	t.Helper()
	if got := impl.Needed(x); got != needed {
		t.Errorf("Needed(%.300q): %v", x, got)
	}
	if got := impl.Inner(x); got != typ(x.Name, inner) {
		t.Errorf("Inner(%.300q): %.300q, want Wraps %.300q", x, got, inner)
	}
	if got := impl.Fewer(x); got != typ(x.Name, fewer) {
		t.Errorf("Fewer(%.300q): %.300q, want Wraps %.300q", x, got, fewer)
	}
}

// Byte by byte, from the end.
func leftOracle(wraps string) (bool, string, string) {
	bytes := []byte(wraps)
	last := len(bytes) - 1
	needed := last >= 0 && bytes[last] == '!'
	fewer := wraps
	if needed {
		fewer = string(bytes[:last])
	}
	switch {
	case slices.Index(bytes, ']') < 0:
		return needed, "", fewer
	case needed && last > 0 && bytes[last-1] == ']':
		return needed, string(bytes[:last-1]), fewer
	}
	return needed, string(bytes[:last]), fewer
}

var typeNames = []string{"Int", "a", "_", "Z9_", "String", "true", "false", "null", "on", "type", "__Type", "n", "x", longestName}

// allRightWraps has each right order of wraps.
func allRightWraps() []string {
	all := []string{}
	eachText([]string{"]", "!"}, 8, func(wraps string) {
		if !strings.Contains(wraps, "!!") {
			all = append(all, wraps)
		}
	})
	return all
}

func manyTypes() []impl.Type {
	types := []impl.Type{}
	for i, wraps := range allRightWraps() {
		types = append(types, typ("a", wraps), typ(typeNames[i%len(typeNames)], wraps))
	}
	for _, name := range typeNames {
		for _, wraps := range []string{"", "!", "]", "]!", "!]", "!]!", "]]", "!]!]!", "]]]]]]]]", "!]!]!]!]", "]!]!]!]!"} {
			types = append(types, typ(name, wraps))
		}
	}
	return types
}

func typePieces(x impl.Type) []string {
	brackets := slices.Repeat([]string{"["}, strings.Count(x.Wraps, "]"))
	return slices.Concat(brackets, []string{x.Name}, strings.Split(x.Wraps, ""))
}

func TestTypeLimits(t *testing.T) {
	if impl.MaxWraps != 8 {
		t.Errorf("MaxWraps %d", impl.MaxWraps)
	}
}

func TestRightTypesComeBack(t *testing.T) {
	types := manyTypes()
	if len(types) != 2*142+14*11 {
		t.Fatalf("%d types", len(types))
	}
	for _, x := range types {
		wantTypeText(t, x, typeTextOracle(x))
		wantType(t, impl.TypeText(x), x)
		wantTypeAsOracle(t, impl.TypeText(x))
	}
}

func TestRightTypesComeBackWhateverIsBetween(t *testing.T) {
	for _, x := range manyTypes() {
		pieces := typePieces(x)
		for _, gap := range allGaps {
			wantType(t, strings.Join(pieces, gap), x)
			wantType(t, gap+strings.Join(pieces, gap)+gap, x)
			wantType(t, "\xef\xbb\xbf"+gap+strings.Join(pieces, " ")+gap+"#", x)
		}
	}
	for _, one := range allGaps {
		for _, other := range allGaps {
			wantType(t, one+"["+other+"["+one+"Int"+other+"!"+one+"]"+other+"!"+one+"]"+other+"!"+one, typ("Int", "!]!]!"))
		}
	}
}

func TestTypesOfNames(t *testing.T) {
	for _, name := range typeNames {
		wantTypeText(t, typ(name, ""), name)
		wantTypeText(t, typ(name, "!"), name+"!")
		wantTypeText(t, typ(name, "]"), "["+name+"]")
		wantType(t, name, typ(name, ""))
		wantType(t, name+"!", typ(name, "!"))
		wantType(t, "["+name+"]", typ(name, "]"))
		wantType(t, "["+name+"!]!", typ(name, "!]!"))
	}
	for _, wraps := range []string{"", "!", "]", "]!", "!]!", "]]]]]]]]"} {
		wantTypeText(t, typ(longestName, wraps), strings.Repeat("[", strings.Count(wraps, "]"))+longestName+wraps)
		wantNotRight(t, typ(tooLongName, wraps))
	}
	wantNoType(t, tooLongName, impl.FtSign, 0)
	wantNoType(t, "["+tooLongName+"]", impl.FtSign, 1)
}

func TestNamesOfTypesThatAreNone(t *testing.T) {
	names := slices.Concat([]string{"", " ", "a ", " a", "1", "1a", "-", "a-b", "a.b", "a!", "[a]", "[", "]", "!", "é", "aé", "a\n", "a\x00", "$a", "\"a\"", "a b", ",a", "\xff", "#a", "\xef\xbb\xbfa", tooLongName, strings.Repeat("a", 12001)}, wholeTexts, otherTexts, wrongTexts, allSigns, allGaps)
	for _, name := range names {
		for _, wraps := range []string{"", "!", "]", "]!", "!]", "!]!", "!!", "x", "]]]]]]]]", "]]]]]]]]]"} {
			wantNotRight(t, typ(name, wraps))
		}
	}
	for b := range 256 {
		for _, name := range []string{string([]byte{byte(b)}), string([]byte{'a', byte(b)}), string([]byte{byte(b), 'a'}), string([]byte{'a', byte(b), 'a'})} {
			for _, wraps := range []string{"", "!", "!]!"} {
				x := typ(name, wraps)
				if impl.TypeOk(x) != typeOkOracle(x) || impl.TypeText(x) != typeTextOracle(x) {
					t.Errorf("%q: %v, %q", x, impl.TypeOk(x), impl.TypeText(x))
				}
			}
		}
	}
}

func TestTheZeroValueIsNoType(t *testing.T) {
	wantNotRight(t, impl.Type{})
	wantLeft(t, impl.Type{}, false, "", "")
}

func TestEachOrderOfWraps(t *testing.T) {
	right := 0
	eachText([]string{"]", "!"}, 9, func(wraps string) {
		x := typ("a", wraps)
		if len(wraps) > 8 || strings.Contains(wraps, "!!") {
			wantNotRight(t, x)
			return
		}
		wantTypeText(t, x, strings.Repeat("[", strings.Count(wraps, "]"))+"a"+wraps)
		right++
	})
	if right != 142 {
		t.Errorf("%d right ones", right)
	}
	eachText([]string{"]", "!", "[", "a"}, 5, func(wraps string) {
		x := typ("a", wraps)
		if impl.TypeOk(x) != typeOkOracle(x) || impl.TypeText(x) != typeTextOracle(x) {
			t.Errorf("%q: %v, %q", x, impl.TypeOk(x), impl.TypeText(x))
		}
	})
}

func TestWrapsSideBySide(t *testing.T) {
	for _, wraps := range []string{"!!", "!!]", "]!!", "!!]]", "]!!]", "]]!!", "!!!", "!!!!!!!!", "!]!!]!", "!]!]!]!!", "!!]!]!]!", "]]]!!]]]", "]]]]]]!!", "!!]]]]]]", "!!]!!"} {
		wantNotRight(t, typ("a", wraps))
	}
	for _, wraps := range []string{"]]", "!]!", "]!]", "]!]!]!]!", "!]!]!]!]", "]]]]]]]]", "]]]]]]]!", "!]]]]]]]", "]]]!]]]!"} {
		wantTypeText(t, typ("a", wraps), strings.Repeat("[", strings.Count(wraps, "]"))+"a"+wraps)
	}
	for many := 9; many < 40; many++ {
		wantNotRight(t, typ("a", strings.Repeat("]", many)))
		wantNotRight(t, typ("a", strings.Repeat("]!", many)[:many]))
		wantNotRight(t, typ("a", strings.Repeat("!]", many)[:many]))
		wantNotRight(t, typ("a", strings.Repeat("!", many)))
	}
	for _, wraps := range []string{strings.Repeat("]", 1<<16), strings.Repeat("]!", 1<<16), strings.Repeat("]", 256), strings.Repeat("]", 264)} {
		wantNotRight(t, typ("a", wraps))
	}
}

func TestOtherBytesAmongWraps(t *testing.T) {
	for _, wraps := range []string{"", "!", "]", "]!", "!]", "!]!", "]]", "]]]]]]]", "!]!]!]!"} {
		for at := range len(wraps) + 1 {
			for b := range 256 {
				if b == '!' || b == ']' {
					continue
				}
				wantNotRight(t, typ("a", wraps[:at]+string([]byte{byte(b)})+wraps[at:]))
				if at < len(wraps) {
					wantNotRight(t, typ("a", wraps[:at]+string([]byte{byte(b)})+wraps[at+1:]))
				}
			}
			for _, other := range []string{"é", "😀", "[]", " ]", "\xef\xbb\xbf", "\x00\x00", "!\x00!", "] "} {
				wantNotRight(t, typ("a", wraps[:at]+other+wraps[at:]))
			}
		}
	}
}

func TestTypesAsTheyArePrinted(t *testing.T) {
	for wraps, text := range map[string]string{
		"": "Int", "]": "[Int]", "!": "Int!", "]!": "[Int]!", "!]": "[Int!]", "!]!": "[Int!]!", "]]": "[[Int]]", "]]!": "[[Int]]!", "]!]": "[[Int]!]", "!]]": "[[Int!]]", "]!]!": "[[Int]!]!", "!]!]": "[[Int!]!]", "!]]!": "[[Int!]]!", "!]!]!": "[[Int!]!]!",
		"]]]": "[[[Int]]]", "]]!]": "[[[Int]]!]", "]!]]": "[[[Int]!]]", "]]]]]]]]": "[[[[[[[[Int]]]]]]]]", "]]]]]]]!": "[[[[[[[Int]]]]]]]!", "!]]]]]]]": "[[[[[[[Int!]]]]]]]", "]!]!]!]!": "[[[[Int]!]!]!]!", "!]!]!]!]": "[[[[Int!]!]!]!]",
	} {
		wantTypeText(t, typ("Int", wraps), text)
		wantType(t, text, typ("Int", wraps))
	}
}

func TestTypesThatAreRead(t *testing.T) {
	for s, want := range map[string]impl.Type{
		"a": typ("a", ""), " a ": typ("a", ""), "a!": typ("a", "!"), "a !": typ("a", "!"), "a,!,": typ("a", "!"), "[a]": typ("a", "]"), "[ a ]": typ("a", "]"), "[a!]": typ("a", "!]"), "[a]!": typ("a", "]!"), "[a] !": typ("a", "]!"), "[a!]!": typ("a", "!]!"),
		"[[a]]": typ("a", "]]"), "[[a]!]": typ("a", "]!]"), "[[a!]]": typ("a", "!]]"), "[[a]]!": typ("a", "]]!"), "[[[a]]]": typ("a", "]]]"), "[true]": typ("true", "]"), "null!": typ("null", "!"), "on": typ("on", ""),
		"[[[[[[[[a]]]]]]]]": typ("a", "]]]]]]]]"), "[[[[[[[a]]]]]]]!": typ("a", "]]]]]]]!"), "[[[[[[[a!]]]]]]]": typ("a", "!]]]]]]]"), "[[[[a!]!]!]!]": typ("a", "!]!]!]!]"), "[[[[a]!]!]!]!": typ("a", "]!]!]!]!"),
		"# b\n[a#]\n]#!": typ("a", "]"), "\xef\xbb\xbfa!": typ("a", "!"), "a#!": typ("a", ""), "a#\n!": typ("a", "!"),
	} {
		wantType(t, s, want)
	}
}

func TestTypesThatCannotBe(t *testing.T) {
	for s, at := range map[string]int{
		"!": 0, "!a": 0, "! a": 0, "!!": 0, "a!!": 2, "a! !": 3, "a!!!": 2, "[a!!]": 3, "[a]!!": 4, "[a!!]!!": 3, "[!]": 1, "[!a]": 1, "![a]": 0, "[a!]!!": 5, "[[a]!!]": 5,
		"[]": 1, "[ ]": 2, "[[]]": 2, "[]a": 1, "[]!": 1, "[][]": 1, "[[[]]]": 3,
		"a b": 2, "a a": 2, "a,b": 2, "[a b]": 3, "[a] b": 4, "a! b": 3, "[a]b": 3, "[a!b]": 3, "a [b]": 2, "[a [b]]": 3, "[a][b]": 3, "[a]! [b]": 5, "[[a] b]": 5, "[[a] [b]]": 5, "a!a": 2,
		"[": 1, "[[": 2, "[a": 2, "[a!": 3, "[[a]": 4, "[[a": 3, "[[a]!": 5, "[ ": 2, "[a ": 3, "[a#]": 4, "[#a]": 4, "[a! ": 4, "[[a!]": 5, "[[[[[[[[": 8, "[[[[[[[[a]": 10,
		"]": 0, "]a": 0, "a]": 1, "a!]": 2, "[a]]": 3, "[a]!]": 4, "[[a]]]": 5, "]]": 0, "][": 0, "a ]": 2, "a][": 1, "[a]][": 3, "a]!": 1, "[a!]!]": 5,
		"a[": 1, "[a[": 2, "a![": 2, "[a][": 3, "[a]![": 4, "[[a][": 4, "a[]": 1, "[a[]]": 2,
	} {
		wantNoType(t, s, impl.FtSyntax, at)
		wantTypeAsOracle(t, s)
	}
	for _, s := range []string{"a", "a!", "[a]", "[a!]!", "[[a]!]", "[[[[[[[[a]]]]]]]]", "[[[[[[[a]]]]]]]!"} {
		for _, gap := range append([]string{" "}, allGaps...) {
			for _, other := range slices.Concat(allSigns, []string{"b", "1", "2.5", `"b"`, `"""b"""`, `""`, "a!", "[a]"}) {
				if other == "!" && !strings.HasSuffix(s, "!") {
					continue
				}
				wantNoType(t, s+gap+other, impl.FtSyntax, len(s+gap))
			}
		}
	}
}

func TestOtherTokensInTypes(t *testing.T) {
	others := []string{"$", "&", "(", ")", "...", ":", "=", "@", "{", "|", "}", `"a"`, `"""a"""`, `""`, `"é"`, "1", "-2", "1.5", "0"}
	for _, other := range others {
		for ahead, behind := range map[string]string{"": "", "[": "]", "[[": "]]", " ": "!", "[ ": " ]!", "[[[[[[[[": "]]]]]]]]"} {
			wantNoType(t, ahead+other+behind, impl.FtSyntax, len(ahead))
			wantNoType(t, ahead+other+" a"+behind, impl.FtSyntax, len(ahead))
			wantNoType(t, ahead+"a "+other+behind, impl.FtSyntax, len(ahead)+2)
			wantNoType(t, ahead+"a! "+other+behind, impl.FtSyntax, len(ahead)+3)
			wantTypeAsOracle(t, ahead+"[a] "+other+behind)
		}
	}
	for _, number := range slices.Concat(wholeTexts, otherTexts) {
		wantNoType(t, number, impl.FtSyntax, 0)
		wantNoType(t, "["+number+"]", impl.FtSyntax, 1)
		wantNoType(t, "a "+number, impl.FtSyntax, 2)
	}
	for _, s := range noNumbers {
		wantTypeAsOracle(t, s)
		wantTypeAsOracle(t, "["+s+"]")
	}
}

func TestNineBrackets(t *testing.T) {
	eight := []string{strings.Repeat("[", 8), strings.Repeat("[ ", 8), strings.Repeat(",[\n", 8), "\xef\xbb\xbf" + strings.Repeat("[", 8), "#[[[[[[[[[\n[[[[[[[[", strings.Repeat("[#é€😀[\n", 8)}
	behind := []string{
		"", " ", "#", "a", "a]", "!", "]", "[", "[[[[", "]]]]]]]]]", "a]]]]]]]]]", "a]]]]]]]]]!", "a!]]]]]]]]]", "a b", "1", `"a"`, "{", ") (", "...", "a!!", "!a", "[a]]]]]]]]]]", "$a", ": =", "[ a ! ] !",
	}
	for _, open := range eight {
		for _, rest := range behind {
			wantNoType(t, open+"["+rest, impl.FtDeep, len(open))
			wantNoType(t, open+"[ "+rest+" ", impl.FtDeep, len(open))
			wantNoType(t, open+" \n,#[\n["+rest, impl.FtDeep, len(open)+6)
		}
		wantType(t, open+"a]]]]]]]]", typ("a", "]]]]]]]]"))
		wantNoType(t, open, impl.FtSyntax, len(open))
		wantNoType(t, open+"]", impl.FtSyntax, len(open))
		wantNoType(t, open+"a [", impl.FtSyntax, len(open)+2)
		wantNoType(t, open+"! [", impl.FtSyntax, len(open))
		wantNoType(t, open+"1 [", impl.FtSyntax, len(open))
		wantNoType(t, open+"a]]]]]]]] [", impl.FtSyntax, len(open)+10)
	}
	for many := range 9 {
		wantType(t, strings.Repeat("[", many)+"a"+strings.Repeat("]", many), typ("a", strings.Repeat("]", many)))
	}
	for many := 9; many < 40; many++ {
		wantNoType(t, strings.Repeat("[", many)+"a"+strings.Repeat("]", many), impl.FtDeep, 8)
	}
	wantNoType(t, strings.Repeat("[", 2500), impl.FtDeep, 8)
	// What can't stand ahead of the ninth is told, not the ninth.
	for s, at := range map[string]int{"a [[[[[[[[[": 2, "! [[[[[[[[[": 0, "] [[[[[[[[[": 0, "[[[[ ] [[[[[[[[[": 5, "[[[[[[[[ ! [": 9, "[[[[[[[[ a [": 11, "[[[[[[[[ 1 [": 9, "[a] [[[[[[[[[": 4} {
		wantNoType(t, s, impl.FtSyntax, at)
	}
}

// Each way to have as many wraps as there may be is followed by one more.
func TestNineWraps(t *testing.T) {
	full := 0
	for _, wraps := range allRightWraps() {
		if len(wraps) != 8 {
			continue
		}
		full++
		lists := strings.Count(wraps, "]")
		for more := range 9 - lists {
			ahead := strings.Repeat("[", lists+more) + "a" + wraps
			if more == 0 {
				wantType(t, ahead, typ("a", wraps))
			} else {
				wantNoType(t, ahead, impl.FtSyntax, len(ahead))
			}
			needed, list := impl.FtDeep, impl.FtDeep
			if strings.HasSuffix(wraps, "!") {
				needed = impl.FtSyntax
			}
			if more == 0 {
				list = impl.FtSyntax
			}
			for _, behind := range []string{"", "!", "]", " ]]!", "a", " 1", "[", ")"} {
				wantNoType(t, ahead+"!"+behind, needed, len(ahead))
				wantNoType(t, ahead+"]"+behind, list, len(ahead))
				wantNoType(t, ahead+" #é\n!"+behind, needed, len(ahead)+5)
				wantNoType(t, ahead+" #é\n]"+behind, list, len(ahead)+5)
			}
			wantNoType(t, ahead+"[", impl.FtSyntax, len(ahead))
			wantNoType(t, ahead+" a", impl.FtSyntax, len(ahead)+1)
			wantNoType(t, ahead+"(", impl.FtSyntax, len(ahead))
		}
	}
	if full != 55 {
		t.Errorf("%d orders of eight", full)
	}
}

func TestNineWrapsWrittenOut(t *testing.T) {
	for s, fault := range map[string]impl.Fault{
		"[[[[[[[[a]]]]]]]]!":   {Code: impl.FtDeep, At: 17},
		"[[[[[[[[a!]]]]]]]]":   {Code: impl.FtDeep, At: 17},
		"[[[[[[[[a!]]]]]]]":    {Code: impl.FtSyntax, At: 17},
		"[[[[[[[[a]]]]]]]!]":   {Code: impl.FtDeep, At: 17},
		"[[[[[[[[a]]]]]]]!":    {Code: impl.FtSyntax, At: 17},
		"[[[[[[[[a]]]]]]]!!":   {Code: impl.FtSyntax, At: 17},
		"[[[[[[[a!]]]]]]]!":    {Code: impl.FtDeep, At: 16},
		"[[[[[[[a!]]]]]]]]":    {Code: impl.FtSyntax, At: 16},
		"[[[[[a!]!]!]!]!]":     {Code: impl.FtDeep, At: 14},
		"[[[[[a!]!]!]!":        {Code: impl.FtSyntax, At: 13},
		"[[[[[a!]!]!]!]":       {Code: impl.FtSyntax, At: 14},
		"[[[[a!]!]!]!]!":       {Code: impl.FtDeep, At: 13},
		"[[[[[a]!]!]!]!]":      {Code: impl.FtDeep, At: 14},
		"[[[[a]!]!]!]!]":       {Code: impl.FtSyntax, At: 13},
		"[[[[a]!]!]!]!!":       {Code: impl.FtSyntax, At: 13},
		"[[[[[[[[a]]]]]]]]]":   {Code: impl.FtSyntax, At: 17},
		"[[[[[[[[a!!]]]]]]]":   {Code: impl.FtSyntax, At: 10},
		"[[[[[[[[a!]!]!]!]!":   {Code: impl.FtDeep, At: 17},
		"[[[[[[[[ a ! ] ! ] !": {Code: impl.FtSyntax, At: 20},
	} {
		wantNoType(t, s, fault.Code, fault.At)
		wantTypeAsOracle(t, s)
	}
}

func TestFaultsOfTokensCountFirstInTypes(t *testing.T) {
	deep := strings.Repeat("[", 9)
	for broken, code := range brokenPieces {
		more := 0
		if code == impl.FtText {
			more = firstNoScalar(broken)
		}
		for _, ahead := range []string{
			"", " ", "[", "[[", "a ", "a! ", "[a ", "[a] ", "[a]! ",
			"!", "] ", "a b ", "a!! ", "[] ", "[a]] ", "1 ", `"é" `, ": ", "a]", "{ ",
			deep, deep + "a ", deep + "] ", "[[[[[[[[a]]]]]]]]! ", "[[[[[[[[a!]]]]]]]] ", "#é\n", "\xef\xbb\xbf",
		} {
			wantNoType(t, ahead+broken, code, len(ahead)+more)
			for _, behind := range []string{" ", "\n]", "\na b", "\n!", "\n%", "\n01", "\n" + deep, "\n\""} {
				wantTypeAsOracle(t, ahead+broken+behind)
			}
		}
	}
	wantNoType(t, "[a] %", impl.FtSign, 4)
	wantNoType(t, "!! %", impl.FtSign, 3)
	wantNoType(t, deep+"%", impl.FtSign, 9)
	wantNoType(t, "% !!", impl.FtSign, 0)
	wantNoType(t, "% "+deep, impl.FtSign, 0)
	wantNoType(t, "a!! 01", impl.FtNumber, 4)
	wantNoType(t, "a!! \"", impl.FtString, 4)
	wantNoType(t, "a!! 01 \xff", impl.FtText, 7)
	for _, wrong := range wrongTexts {
		at := firstNoScalar(wrong)
		for _, ahead := range []string{"", "a", "[a]", "a!!", deep, "%", "#", "é"} {
			wantNoType(t, ahead+wrong, impl.FtText, len(ahead)+at)
		}
	}
}

func TestPlacesOfFaultsInTypes(t *testing.T) {
	for s, at := range map[string]int{
		"#é€😀\na b": 13, "#é\n!": 4, "#€\n]": 5, "  a  !  !": 8, "\xef\xbb\xbf!": 3, "\xef\xbb\xbfa a": 5, "a #é\n\n b": 8, "[#😀\na#é\nb": 12, " ,\n\r\n!": 5, `"é" a`: 0, "#é\n\"é\"": 4, "a\"é\"": 1, "[\r\n]": 3, "a,,,,b": 5,
	} {
		wantNoType(t, s, impl.FtSyntax, at)
	}
	for _, s := range []string{"[", "[a", "[a!", "[[a]", "[ ", "[a ", "[a\n#é", "[#é", "[a!,,", "[[a]\r\n\t", "[[a]! #😀\n #€", "\xef\xbb\xbf[", "\xef\xbb\xbf[a #é", "[[[[[[[[a!]]]]]]] #é", "[[[[[[[[a]]]]]]]! "} {
		wantNoType(t, s, impl.FtSyntax, len(s))
	}
	for _, gap := range allGaps {
		wantNoType(t, "["+gap, impl.FtSyntax, 1+len(gap))
		wantNoType(t, gap+"[a"+gap, impl.FtSyntax, 2+2*len(gap))
		wantNoType(t, gap+"a"+gap+"!"+gap+"!", impl.FtSyntax, 2+3*len(gap))
		wantNoType(t, gap+"[[[[[[[["+gap+"[", impl.FtDeep, 8+2*len(gap))
		wantNoType(t, gap+"[[[[[[[[a]]]]]]]]"+gap+"!", impl.FtDeep, 17+2*len(gap))
		wantNoType(t, gap+"[[[[[[[[a!]]]]]]]"+gap+"]", impl.FtDeep, 17+2*len(gap))
	}
}

func TestTypesOfNothing(t *testing.T) {
	wantNoType(t, "", impl.FtSyntax, 0)
	for _, gap := range append(slices.Clone(allGaps), "#", "# a", "#[a]", "\xef\xbb\xbf", "\xef\xbb\xbf #😀", strings.Repeat(" ", 12000), "#"+strings.Repeat("a", 11999)) {
		wantNoType(t, gap, impl.FtSyntax, len(gap))
	}
	wantNoType(t, strings.Repeat(" ", 12001), impl.FtLong, 0)
}

func TestTypesInSourcesAtTheirLimits(t *testing.T) {
	for s, x := range map[string]impl.Type{"a": typ("a", ""), "[a!]!": typ("a", "!]!"), "[[[[[[[[a]]]]]]]]": typ("a", "]]]]]]]]")} {
		wantType(t, s+strings.Repeat(" ", 12000-len(s)), x)
		wantType(t, strings.Repeat("\n", 12000-len(s))+s, x)
		wantType(t, s+"#"+strings.Repeat("a", 11999-len(s)), x)
		wantNoType(t, s+strings.Repeat(" ", 12001-len(s)), impl.FtLong, 0)
		wantNoType(t, strings.Repeat("\n", 12001-len(s))+s, impl.FtLong, 0)
	}
	wantNoType(t, "["+strings.Repeat(" ", 11999), impl.FtSyntax, 12000)
	wantNoType(t, strings.Repeat(" ", 11999)+"!", impl.FtSyntax, 11999)
	wantNoType(t, strings.Repeat(" ", 11991)+strings.Repeat("[", 9), impl.FtDeep, 11999)
	wantNoType(t, strings.Repeat("[", 12001), impl.FtLong, 0)
	wantNoType(t, strings.Repeat("\xff", 12001), impl.FtLong, 0)
	wantNoType(t, strings.Repeat("\xff", 12000), impl.FtText, 0)
	wantNoType(t, strings.Repeat("[", 2501), impl.FtMany, 2500)
	wantNoType(t, strings.Repeat("!", 2500), impl.FtSyntax, 0)
	wantNoType(t, strings.Repeat("!", 2501), impl.FtMany, 2500)
	wantNoType(t, strings.Repeat("a ", 2500), impl.FtSyntax, 2)
	wantNoType(t, strings.Repeat("a ", 2501), impl.FtMany, 5000)
	wantNoType(t, "a"+strings.Repeat("]", 2500), impl.FtMany, 2500)
}

func TestEveryShortTextOfTypes(t *testing.T) {
	eachText([]string{"[", "]", "!", "a ", "b"}, 7, func(s string) { wantTypeAsOracle(t, s) })
	eachText([]string{"[", "]", "!", "a ", "1 ", `"a"`, "...", "(", ":", "{", "% ", "01 ", "#é\n"}, 4, func(s string) { wantTypeAsOracle(t, s) })
	for _, open := range []string{"[[[[[[", "[[[[[[[", "[[[[[[[[", "[[[[[[[[a]]]]]]", "[[[[[[[[a!]]]]]", "[[[[[[a]]]]]", "[[[[a!]!]!", "[[[[[a]!]!]", "[[[a!]!]!"} {
		eachText([]string{"[", "]", "!", "a "}, 6, func(s string) { wantTypeAsOracle(t, open+s) })
	}
}

func TestEachPieceOfATypeLeftOutChangedOrTwice(t *testing.T) {
	others := slices.Concat(allSigns, []string{"1", "2.5", `"z"`, `"""z"""`, "z", "true", "%", "01", `"`})
	for _, x := range []impl.Type{typ("Int", "!]!"), typ("a", "]!]"), typ("a", "]]]]]]]]"), typ("a", "!]!]!]!]"), typ("a", "]]]]]]]!"), typ("a", "!]]]]]]")} {
		pieces := typePieces(x)
		for at := range pieces {
			wantTypeAsOracle(t, strings.Join(slices.Delete(slices.Clone(pieces), at, at+1), " "))
			for _, other := range append([]string{pieces[at]}, others...) {
				changed := slices.Clone(pieces)
				changed[at] = other
				wantTypeAsOracle(t, strings.Join(changed, " "))
				wantTypeAsOracle(t, strings.Join(slices.Insert(slices.Clone(pieces), at, other), " "))
			}
		}
	}
}

func TestEveryByteInATextOfAType(t *testing.T) {
	for _, s := range []string{"[Int!]!", "[ a ]", "[[[[[[[[a]]]]]]]]", "a!"} {
		for at := range len(s) + 1 {
			for b := range 256 {
				wantTypeAsOracle(t, s[:at]+string([]byte{byte(b)})+s[at:])
				if at < len(s) {
					wantTypeAsOracle(t, s[:at]+string([]byte{byte(b)})+s[at+1:])
				}
			}
		}
	}
}

// Only the text of a type, or one with gaps in it, is read as the type.
func TestWhatIsReadIsRight(t *testing.T) {
	eachText([]string{"[", "]", "!", "a"}, 8, func(s string) {
		x, fault := impl.ReadType(s)
		if fault.Code == 0 && (!impl.TypeOk(x) || impl.TypeText(x) != s) {
			t.Errorf("ReadType(%q): %q, whose text is %q", s, x, impl.TypeText(x))
		}
	})
}

func TestWhatIsLeftOfTypes(t *testing.T) {
	for _, one := range []struct {
		wraps  string
		needed bool
		inner  string
		fewer  string
	}{
		{"", false, "", ""}, {"!", true, "", ""}, {"]", false, "", "]"}, {"]!", true, "", "]"}, {"!]", false, "!", "!]"}, {"!]!", true, "!", "!]"},
		{"]]", false, "]", "]]"}, {"]]!", true, "]", "]]"}, {"]!]", false, "]!", "]!]"}, {"]!]!", true, "]!", "]!]"}, {"!]]", false, "!]", "!]]"}, {"!]]!", true, "!]", "!]]"}, {"!]!]", false, "!]!", "!]!]"}, {"!]!]!", true, "!]!", "!]!]"},
		{"]]]]]]]]", false, "]]]]]]]", "]]]]]]]]"}, {"]]]]]]]!", true, "]]]]]]", "]]]]]]]"}, {"!]!]!]!]", false, "!]!]!]!", "!]!]!]!]"}, {"]!]!]!]!", true, "]!]!]!", "]!]!]!]"},
	} {
		for _, name := range append(slices.Clone(typeNames), "", "1a", "é", "\xff", "[a]!", "]", "!", tooLongName) {
			wantLeft(t, typ(name, one.wraps), one.needed, one.inner, one.fewer)
		}
	}
	for _, x := range manyTypes() {
		needed, inner, fewer := leftOracle(x.Wraps)
		wantLeft(t, x, needed, inner, fewer)
		for _, left := range []impl.Type{impl.Inner(x), impl.Fewer(x)} {
			if !impl.TypeOk(left) {
				t.Errorf("%q is left of %q", left, x)
			}
		}
	}
}

// A list of a type has the type in it, with and without `!` around it.
func TestInnerOfLists(t *testing.T) {
	for _, x := range manyTypes() {
		list := typ(x.Name, x.Wraps+"]")
		if impl.Inner(list) != x || impl.Inner(typ(x.Name, list.Wraps+"!")) != x || impl.Fewer(typ(x.Name, list.Wraps+"!")) != list {
			t.Errorf("of a list of %q: %q", x, impl.Inner(list))
		}
		if impl.Needed(impl.Fewer(x)) || impl.Fewer(impl.Fewer(x)) != impl.Fewer(x) {
			t.Errorf("%q may be missing no longer", impl.Fewer(x))
		}
	}
}

func TestWhatIsLeftOfTypesThatAreNotRight(t *testing.T) {
	for _, one := range []struct {
		wraps  string
		needed bool
		inner  string
		fewer  string
	}{
		{"!!", true, "", "!"}, {"!!!", true, "", "!!"}, {"]!!", true, "]!", "]!"}, {"!!]", false, "!!", "!!]"}, {"!!]!", true, "!!", "!!]"}, {"]!!!", true, "]!!", "]!!"}, {"!]!!", true, "!]!", "!]!"},
		{"x", false, "", "x"}, {"x!", true, "", "x"}, {"!x", false, "", "!x"}, {"]x", false, "]", "]x"}, {"]x!", true, "]x", "]x"}, {"x]", false, "x", "x]"}, {"x]!", true, "x", "x]"}, {"]!x", false, "]!", "]!x"}, {"!]x", false, "!]", "!]x"}, {"]]x", false, "]]", "]]x"},
		{"[", false, "", "["}, {"[!", true, "", "["}, {"[]", false, "[", "[]"}, {"][", false, "]", "]["}, {"[]!", true, "[", "[]"}, {"][!", true, "][", "]["}, {"] ", false, "]", "] "}, {"! ", false, "", "! "}, {" !", true, "", " "}, {"] !", true, "] ", "] "},
		{"]\x00", false, "]", "]\x00"}, {"]\xff", false, "]", "]\xff"}, {"\xff!", true, "", "\xff"}, {"]é", false, "]\xc3", "]é"}, {"é]!", true, "é", "é]"},
		{strings.Repeat("]", 9), false, strings.Repeat("]", 8), strings.Repeat("]", 9)}, {strings.Repeat("]", 9) + "!", true, strings.Repeat("]", 8), strings.Repeat("]", 9)}, {strings.Repeat("!", 9), true, "", strings.Repeat("!", 8)}, {strings.Repeat("!]", 20), false, strings.Repeat("!]", 19) + "!", strings.Repeat("!]", 20)}, {strings.Repeat("]!", 5000), true, strings.Repeat("]!", 4999), strings.Repeat("]!", 4999) + "]"},
	} {
		for _, name := range []string{"a", "Int", "", "1", "\xff", tooLongName} {
			wantLeft(t, typ(name, one.wraps), one.needed, one.inner, one.fewer)
		}
		wantNotRight(t, typ("a", one.wraps))
	}
	eachText([]string{"]", "!", "x"}, 7, func(wraps string) {
		needed, inner, fewer := leftOracle(wraps)
		wantLeft(t, typ("a", wraps), needed, inner, fewer)
	})
	for b := range 256 {
		for _, wraps := range []string{"%", "]%", "%]", "!%", "%!", "]%!", "%]!", "]!%", "!]%"} {
			wraps = strings.ReplaceAll(wraps, "%", string([]byte{byte(b)}))
			needed, inner, fewer := leftOracle(wraps)
			wantLeft(t, typ("a", wraps), needed, inner, fewer)
		}
	}
}

func TestTypesAreNotWrittenInto(t *testing.T) {
	for _, x := range append(manyTypes(), impl.Type{}, typ("", "]!"), typ("a", "!!"), typ("a", "]x")) {
		held := []impl.Type{x, typ("behind", "]")}
		ahead := fmt.Sprintf("%q", held)
		for range 2 {
			impl.TypeOk(held[0])
			impl.TypeText(held[0])
			impl.Needed(held[0])
			impl.Inner(held[0])
			impl.Fewer(held[0])
		}
		if got := fmt.Sprintf("%q", held); got != ahead {
			t.Errorf("%s has become %s", ahead, got)
		}
	}
}

func TestReadTypeKeepsNothing(t *testing.T) {
	for range 3 {
		wantNoType(t, "[[[[[[[[[", impl.FtDeep, 8)
		wantType(t, "[[[[[[[[a]]]]]]]]", typ("a", "]]]]]]]]"))
		wantNoType(t, "[a", impl.FtSyntax, 2)
		wantType(t, "a", typ("a", ""))
		wantNoType(t, "a!!", impl.FtSyntax, 2)
		wantType(t, "[ Int! ]!", typ("Int", "!]!"))
	}
}
