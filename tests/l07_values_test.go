package tests

import (
	"fmt"
	"math"
	"runtime/debug"
	"slices"
	"strings"
	"testing"

	"loop.example/g00964/impl"
)

func val(kind int, text string) impl.Value { return impl.Value{Kind: kind, Text: text} }

func listOf(items ...impl.Value) impl.Value { return impl.Value{Kind: impl.VlList, Items: items} }

// objectOf takes the names as one text, with a blank between them.
func objectOf(names string, items ...impl.Value) impl.Value {
	return impl.Value{Kind: impl.VlObject, Names: strings.Fields(names), Items: items}
}

// The chapter's words, written another way, to hold the program against: what is printed, how deep it is, whether it is right.
func valueOracle(v impl.Value) (string, int, bool) {
	name := nameForm.MatchString(v.Text) && len(v.Text) <= 30
	word := slices.Contains([]string{"true", "false", "null"}, v.Text)
	alone := len(v.Items) == 0 && len(v.Names) == 0
	switch v.Kind {
	case 1:
		return "$" + v.Text, 0, alone && name
	case 2, 3:
		return v.Text, 0, alone && numberOracle(v.Text) == v.Kind+1
	case 4:
		return escapedOracle(v.Text), 0, alone && escapedOracle(v.Text) != ""
	case 5:
		return v.Text, 0, alone && word
	case 6:
		return v.Text, 0, alone && name && !word
	case 7:
		text, deep, ok := itemsOracle(v.Items, slices.Repeat([]string{""}, len(v.Items)))
		return "[" + text + "]", deep + 1, ok && deep < 10 && v.Text == "" && len(v.Names) == 0
	case 8:
		if len(v.Names) != len(v.Items) {
			return "", 0, false
		}
		named, ahead := true, []string{}
		for _, n := range v.Names {
			named = named && nameForm.MatchString(n) && len(n) <= 30
			ahead = append(ahead, n+": ")
		}
		text, deep, ok := itemsOracle(v.Items, ahead)
		return "{" + text + "}", deep + 1, ok && deep < 10 && v.Text == "" && named
	}
	return "", 0, false
}

func itemsOracle(items []impl.Value, ahead []string) (string, int, bool) {
	texts, most, all := []string{}, 0, true
	for i, item := range items {
		text, deep, ok := valueOracle(item)
		texts = append(texts, ahead[i]+text)
		most = max(most, deep)
		all = all && ok
	}
	return strings.Join(texts, ", "), most, all
}

// Two values are the same where this is: nil and an empty list are written alike, and nothing else is.
func shownOracle(v impl.Value) string {
	items := ""
	for _, item := range v.Items {
		items += shownOracle(item)
	}
	return fmt.Sprintf("<%d %q %d %s %q>", v.Kind, v.Text, len(v.Items), items, v.Names)
}

func varsOracle(v impl.Value) []string {
	if v.Kind == 1 {
		return []string{v.Text}
	}
	names := []string{}
	for _, item := range v.Items {
		for _, name := range varsOracle(item) {
			if !slices.Contains(names, name) {
				names = append(names, name)
			}
		}
	}
	return names
}

// Great values are told by their beginning, so that a failure can be read.
func shown(v impl.Value) string { return fmt.Sprintf("%.300s", shownOracle(v)) }

func wantRight(t *testing.T, v impl.Value, text string) {
	t.Helper()
	if !impl.ValueOk(v) {
		t.Errorf("%s is not right", shown(v))
	}
	if got := impl.ValueText(v); got != text || text == "" {
		t.Errorf("ValueText of %s: %.300q, want %.300q", shown(v), got, text)
	}
}

func wantWrong(t *testing.T, v impl.Value) {
	t.Helper()
	if impl.ValueOk(v) {
		t.Errorf("%s is right", shown(v))
	}
	if got := impl.ValueText(v); got != "" {
		t.Errorf("ValueText of %s: %.300q", shown(v), got)
	}
}

func wantVars(t *testing.T, v impl.Value, want ...string) {
	t.Helper()
	if got := impl.VarsIn(v); !slices.Equal(got, want) {
		t.Errorf("VarsIn of %s: %.300q, want %.300q", shown(v), got, want)
	}
	if got := impl.IsConst(v); got != (len(want) == 0) {
		t.Errorf("IsConst of %s: %v", shown(v), got)
	}
}

func wantSame(t *testing.T, a impl.Value, b impl.Value, want bool) {
	t.Helper()
	if impl.SameValue(a, b) != want || impl.SameValue(b, a) != want {
		t.Errorf("SameValue of %s and %s is not %v", shown(a), shown(b), want)
	}
}

func wantValueAsOracle(t *testing.T, v impl.Value) {
	t.Helper()
	if text, _, ok := valueOracle(v); ok {
		wantRight(t, v, text)
	} else {
		wantWrong(t, v)
	}
	wantVars(t, v, varsOracle(v)...)
	wantSame(t, v, v, true)
}

// within wraps a value so many times, each wrap being made by one of the ways in turn.
func within(v impl.Value, times int, ways ...func(impl.Value) impl.Value) impl.Value {
	for i := range times {
		v = ways[i%len(ways)](v)
	}
	return v
}

func inList(v impl.Value) impl.Value { return listOf(v) }

func inObject(v impl.Value) impl.Value { return objectOf("a", v) }

var allWraps = map[string]func(impl.Value) impl.Value{
	"a list":          inList,
	"first in a list": func(v impl.Value) impl.Value { return listOf(v, val(impl.VlInt, "1"), listOf()) },
	"last in a list":  func(v impl.Value) impl.Value { return listOf(objectOf(""), val(impl.VlEnum, "A"), v) },
	"amid a list":     func(v impl.Value) impl.Value { return listOf(listOf(), v, listOf()) },
	"an object":       inObject,
	"first in an object": func(v impl.Value) impl.Value {
		return objectOf("a b c", v, val(impl.VlWord, "null"), objectOf(""))
	},
	"last in an object": func(v impl.Value) impl.Value {
		return objectOf("a b c", listOf(), val(impl.VlString, ""), v)
	},
	"amid an object": func(v impl.Value) impl.Value { return objectOf("a b c", listOf(), v, objectOf("")) },
}

var (
	longestName = strings.Repeat("n", 30)
	tooLongName = strings.Repeat("n", 31)
)

// rightTexts has texts for each kind that is a text alone.
var rightTexts = map[int][]string{
	impl.VlVar:    {"a", "_", "Z9_", "x1", "true", "false", "null", "on", "__typename", longestName},
	impl.VlInt:    wholeTexts,
	impl.VlFloat:  otherTexts,
	impl.VlString: {"", "a", "true", "1", "1.5", "$x", " ", "a b", `"`, `\`, "\n", "\x00", "\x7f", "é€😀", "\xef\xbb\xbf", "[]", "{}", strings.Repeat("a", 200), strings.Repeat("\x01", 200), strings.Repeat("é", 100)},
	impl.VlWord:   {"true", "false", "null"},
	impl.VlEnum:   {"a", "_", "RED", "Z9_", "True", "FALSE", "Null", "nul", "nulll", "true_", "_true", "falsetrue", "on", "__typename", longestName},
}

var someTexts = slices.Concat([]string{
	"", "a", "_", "Z9_", "RED", "true", "false", "null", "True", "nul", "nulls", "true ", " true", "on", "1", "-1", "0", "01", "1.5", "1e5", "1.", "$x", "$", "a b", " a", "a ", "a\n", "é", `"`, `""`, `"a"`, `\`, "[]", "{}", "[", "-", "9a", "a-b", "a.b", "a\x00",
	longestName, tooLongName, strings.Repeat("1", 40), strings.Repeat("1", 41), strings.Repeat("a", 200), strings.Repeat("a", 201), strings.Repeat("é", 100), strings.Repeat("é", 100) + "a", strings.Repeat("é", 101), "\xff", "a\x80", "\xed\xa0\x80",
})

var noKinds = []int{0, 9, 10, -1, -2, -7, -8, 16, 255, 256 + 1, 256 + 7, 1<<32 + 4, 1<<32 + 7, 1<<32 + 8, math.MinInt, math.MaxInt}

func TestValuesLimits(t *testing.T) {
	kinds := [...]int{impl.VlVar, impl.VlInt, impl.VlFloat, impl.VlString, impl.VlWord, impl.VlEnum, impl.VlList, impl.VlObject}
	if kinds != [...]int{1, 2, 3, 4, 5, 6, 7, 8} || impl.MaxDeep != 10 {
		t.Errorf("kinds %v, MaxDeep %d", kinds, impl.MaxDeep)
	}
}

func TestValuesOfEachKind(t *testing.T) {
	for kind, texts := range rightTexts {
		for _, text := range texts {
			printed := text
			if kind == impl.VlVar {
				printed = "$" + text
			}
			if kind == impl.VlString {
				printed = escapedOracle(text)
			}
			v := val(kind, text)
			wantRight(t, v, printed)
			wantRight(t, impl.Value{Kind: kind, Text: text, Items: []impl.Value{}, Names: []string{}}, printed)
			wantRight(t, listOf(v), "["+printed+"]")
			wantRight(t, listOf(v, v), "["+printed+", "+printed+"]")
			wantRight(t, objectOf("k", v), "{k: "+printed+"}")
			wantRight(t, objectOf("k l", v, v), "{k: "+printed+", l: "+printed+"}")
		}
	}
	wantRight(t, listOf(), "[]")
	wantRight(t, objectOf(""), "{}")
	wantRight(t, impl.Value{Kind: impl.VlList, Items: []impl.Value{}, Names: []string{}}, "[]")
	wantRight(t, impl.Value{Kind: impl.VlObject, Items: nil, Names: []string{}}, "{}")
	wantRight(t, impl.Value{Kind: impl.VlObject, Items: []impl.Value{}, Names: nil}, "{}")
}

func TestEveryKindWithEveryText(t *testing.T) {
	texts := slices.Concat(someTexts, wholeTexts, otherTexts, noNumbers, wrongTexts)
	for _, kind := range append([]int{1, 2, 3, 4, 5, 6, 7, 8}, noKinds...) {
		for _, text := range texts {
			wantValueAsOracle(t, val(kind, text))
			wantValueAsOracle(t, listOf(val(kind, text)))
			wantValueAsOracle(t, objectOf("a", val(kind, text)))
		}
	}
}

func TestTextsOfAnotherKind(t *testing.T) {
	for kind, texts := range map[int][]string{
		impl.VlVar:    {"", "1", "-1", "1.5", "$a", "a b", "a ", " a", "é", "9a", "a-", `"a"`, "[]", tooLongName},
		impl.VlInt:    {"", "a", "true", "1.5", "1e5", "01", "+1", "-", "1 ", " 1", "0x1", `"1"`, "1\n", strings.Repeat("9", 41)},
		impl.VlFloat:  {"", "a", "null", "1", "-0", "0", "1.", ".5", "1e", "01.5", "1.5 ", "NaN", `"1.5"`, "0." + strings.Repeat("0", 39)},
		impl.VlString: {"\xff", "a\xff", "\xed\xa0\x80", "\xc3", strings.Repeat("a", 201), strings.Repeat("é", 101), strings.Repeat("a", 200) + "\n"},
		impl.VlWord:   {"", "a", "True", "FALSE", "nul", "nulls", "true ", " false", "truefalse", "1", "0", "undefined", "on", `"true"`, "true\x00"},
		impl.VlEnum:   {"", "true", "false", "null", "1", "-1", "1.5", "$a", "a b", "a ", "é", "9a", `"a"`, tooLongName},
		impl.VlList:   {"a", "1", "true", "[]", " ", "[", "\x00", "\xff"},
		impl.VlObject: {"a", "1", "null", "{}", " ", "{", "\x00", "\xff"},
	} {
		for _, text := range texts {
			wantWrong(t, val(kind, text))
			for way, wrap := range allWraps {
				if v := wrap(val(kind, text)); impl.ValueOk(v) || impl.ValueText(v) != "" {
					t.Errorf("kind %d with %q is right in %s", kind, text, way)
				}
			}
		}
	}
}

func TestNamesAtTheirLimit(t *testing.T) {
	for _, kind := range []int{impl.VlVar, impl.VlEnum} {
		for many := range 40 {
			v := val(kind, strings.Repeat("n", many))
			if got := impl.ValueOk(v); got != (1 <= many && many <= 30) {
				t.Errorf("kind %d with a name of %d bytes: %v", kind, many, got)
			}
		}
	}
	for many := range 40 {
		v := impl.Value{Kind: impl.VlObject, Names: []string{strings.Repeat("n", many)}, Items: []impl.Value{val(impl.VlInt, "1")}}
		if got := impl.ValueOk(v); got != (1 <= many && many <= 30) {
			t.Errorf("an object with a name of %d bytes: %v", many, got)
		}
	}
	wantRight(t, val(impl.VlVar, longestName), "$"+longestName)
	wantRight(t, val(impl.VlEnum, longestName), longestName)
	wantRight(t, objectOf(longestName, val(impl.VlInt, "1")), "{"+longestName+": 1}")
	wantWrong(t, val(impl.VlVar, tooLongName))
	wantWrong(t, val(impl.VlEnum, tooLongName))
	wantWrong(t, objectOf(tooLongName, val(impl.VlInt, "1")))
}

func TestWordsThatAreNoNames(t *testing.T) {
	for _, word := range []string{"true", "false", "null"} {
		wantRight(t, val(impl.VlWord, word), word)
		wantWrong(t, val(impl.VlEnum, word))
		wantRight(t, val(impl.VlVar, word), "$"+word)
		wantRight(t, val(impl.VlString, word), `"`+word+`"`)
		wantRight(t, objectOf(word, val(impl.VlWord, word)), "{"+word+": "+word+"}")
		wantWrong(t, val(impl.VlInt, word))
		wantWrong(t, val(impl.VlFloat, word))
		wantWrong(t, val(impl.VlList, word))
		wantWrong(t, val(impl.VlObject, word))
		for _, other := range []string{word + "_", "_" + word, word[1:], word[:3], strings.ToUpper(word), strings.ToUpper(word[:1]) + word[1:], word + word} {
			wantWrong(t, val(impl.VlWord, other))
			wantRight(t, val(impl.VlEnum, other), other)
		}
	}
}

func TestTextsAtTheirLimit(t *testing.T) {
	wantRight(t, val(impl.VlString, ""), `""`)
	for _, sign := range []string{"a", "é", "€", "😀", `"`, "\x01", "\n"} {
		for many := 190 / len(sign); many*len(sign) < 210; many++ {
			text := strings.Repeat(sign, many)
			if got := impl.ValueOk(val(impl.VlString, text)); got != (len(text) <= 200) {
				t.Errorf("a text of %d bytes of %q: %v", len(text), sign, got)
			}
		}
	}
	for _, text := range wrongTexts {
		wantWrong(t, val(impl.VlString, text))
		wantWrong(t, val(impl.VlString, "a"+text))
		wantWrong(t, listOf(val(impl.VlString, text+"a")))
	}
}

func TestPartsThatAKindMayNotHave(t *testing.T) {
	one, two := val(impl.VlInt, "1"), val(impl.VlVar, "x")
	for kind, texts := range rightTexts {
		for _, text := range texts {
			for _, items := range [][]impl.Value{{one}, {one, two}, {listOf()}, {{}}, {val(kind, text)}} {
				wantWrong(t, impl.Value{Kind: kind, Text: text, Items: items})
				wantWrong(t, impl.Value{Kind: kind, Text: text, Items: items, Names: slices.Repeat([]string{"a"}, len(items))})
			}
			for _, names := range [][]string{{"a"}, {"a", "b"}, {""}, {text}} {
				wantWrong(t, impl.Value{Kind: kind, Text: text, Names: names})
			}
		}
	}
	for _, items := range [][]impl.Value{nil, {}, {one}, {one, two}} {
		for _, names := range [][]string{{"a"}, {"a", "b"}, {""}} {
			wantWrong(t, impl.Value{Kind: impl.VlList, Items: items, Names: names})
		}
		for _, text := range []string{"a", " ", "true", "1", "\x00", "[]"} {
			wantWrong(t, impl.Value{Kind: impl.VlList, Text: text, Items: items})
			wantWrong(t, impl.Value{Kind: impl.VlObject, Text: text, Items: items, Names: []string{"a", "b"}[:len(items)]})
		}
	}
}

func TestEveryMixOfParts(t *testing.T) {
	one, bad := val(impl.VlInt, "1"), val(impl.VlEnum, "null")
	for _, kind := range append([]int{1, 2, 3, 4, 5, 6, 7, 8}, noKinds...) {
		for _, text := range []string{"", "a", "true", "1", "1.5", "$x", "\xff", tooLongName} {
			for _, items := range [][]impl.Value{nil, {}, {one}, {bad}, {one, one}, {one, bad}, {bad, one}, {val(impl.VlVar, "x")}, {listOf(), objectOf("")}, {{}}} {
				for _, names := range [][]string{nil, {}, {"a"}, {"a", "a"}, {"a", "b"}, {"a", "b", "c"}, {""}, {"1"}, {"a", ""}, {"é", "a"}, {"true", "null"}, {tooLongName}} {
					v := impl.Value{Kind: kind, Text: text, Items: items, Names: names}
					wantValueAsOracle(t, v)
					wantValueAsOracle(t, listOf(one, v))
					wantValueAsOracle(t, objectOf("a b", v, one))
				}
			}
		}
	}
}

func TestObjects(t *testing.T) {
	one, two, three := val(impl.VlInt, "1"), val(impl.VlFloat, "2.5"), val(impl.VlString, "a\"b")
	wantRight(t, objectOf("a", one), "{a: 1}")
	wantRight(t, objectOf("a b", one, two), "{a: 1, b: 2.5}")
	wantRight(t, objectOf("b a", one, two), "{b: 1, a: 2.5}")
	wantRight(t, objectOf("a b c", one, two, three), `{a: 1, b: 2.5, c: "a\"b"}`)
	wantRight(t, objectOf("a a", one, two), "{a: 1, a: 2.5}")
	wantRight(t, objectOf("a b a", one, one, one), "{a: 1, b: 1, a: 1}")
	wantRight(t, objectOf("true null on", one, two, three), `{true: 1, null: 2.5, on: "a\"b"}`)
	for _, v := range []impl.Value{
		objectOf("", one), objectOf("a", one, two), objectOf("a b", one, two, three),
		objectOf("a"), objectOf("a b", one), objectOf("a b c", one), objectOf("a b c", one, two), objectOf("a b c"),
	} {
		wantWrong(t, v)
	}
	for _, name := range []string{"", "1", "-", "1a", "a b", "a ", " a", "a\n", "é", "$a", `"a"`, "a:", "a.b", "\x00", "\xff", tooLongName} {
		for _, names := range [][]string{{name, "b", "c"}, {"a", name, "c"}, {"a", "b", name}} {
			v := impl.Value{Kind: impl.VlObject, Names: names, Items: []impl.Value{one, two, three}}
			for _, wrap := range allWraps {
				wantWrong(t, wrap(v))
			}
			wantWrong(t, v)
		}
	}
}

func TestLists(t *testing.T) {
	one, two, three := val(impl.VlInt, "-1"), val(impl.VlVar, "x"), val(impl.VlWord, "null")
	wantRight(t, listOf(one), "[-1]")
	wantRight(t, listOf(one, two), "[-1, $x]")
	wantRight(t, listOf(three, two, one), "[null, $x, -1]")
	wantRight(t, listOf(one, one, one), "[-1, -1, -1]")
	wantRight(t, listOf(listOf(), listOf(one), objectOf("")), "[[], [-1], {}]")
	wantRight(t, listOf(slices.Repeat([]impl.Value{one}, 5000)...), "["+strings.Repeat("-1, ", 4999)+"-1]")
	wantRight(t, objectOf(strings.Repeat("a ", 5000), slices.Repeat([]impl.Value{three}, 5000)...), "{"+strings.Repeat("a: null, ", 4999)+"a: null}")
}

func TestValuesWithinValues(t *testing.T) {
	v := objectOf("a b c", listOf(val(impl.VlInt, "1"), listOf(), objectOf("d", val(impl.VlVar, "x"))), objectOf(""), val(impl.VlString, "\n, ]"))
	wantRight(t, v, `{a: [1, [], {d: $x}], b: {}, c: "\n, ]"}`)
	wantRight(t, listOf(v, v), `[{a: [1, [], {d: $x}], b: {}, c: "\n, ]"}, {a: [1, [], {d: $x}], b: {}, c: "\n, ]"}]`)
	wantRight(t, listOf(objectOf("a", listOf(objectOf("b", listOf(val(impl.VlEnum, "RED")))))), "[{a: [{b: [RED]}]}]")
	wantRight(t, objectOf("a", listOf(objectOf("a", listOf(), val(impl.VlWord, "true")).Items...)), "{a: [[], true]}")
}

func TestWrongItems(t *testing.T) {
	right := val(impl.VlInt, "1")
	wrong := []impl.Value{
		{}, val(9, ""), val(-1, ""), val(impl.VlVar, ""), val(impl.VlInt, "01"), val(impl.VlFloat, "1"), val(impl.VlString, "\xff"), val(impl.VlWord, "a"), val(impl.VlEnum, "true"),
		{Kind: impl.VlList, Text: "a"}, {Kind: impl.VlList, Names: []string{"a"}}, {Kind: impl.VlObject, Text: "a"}, objectOf("a"), objectOf("", right), objectOf("1", right),
		{Kind: impl.VlInt, Text: "1", Items: []impl.Value{right}}, {Kind: impl.VlInt, Text: "1", Names: []string{"a"}},
	}
	for _, v := range wrong {
		wantWrong(t, v)
		for many := 1; many <= 5; many++ {
			for at := range many {
				items := slices.Repeat([]impl.Value{right}, many)
				items[at] = v
				wantWrong(t, listOf(items...))
				wantWrong(t, objectOf(strings.Repeat("a ", many), items...))
			}
		}
		for way, wrap := range allWraps {
			for deep := 1; deep <= 10; deep++ {
				if got := within(v, deep, wrap); impl.ValueOk(got) || impl.ValueText(got) != "" {
					t.Errorf("%s is right %d deep, %s", shown(v), deep, way)
				}
			}
		}
	}
}

func wantDepth(t *testing.T, v impl.Value, right bool) {
	t.Helper()
	if impl.ValueOk(v) != right || (impl.ValueText(v) != "") != right {
		t.Errorf("%s: right is %v", shown(v), !right)
	}
}

func TestDepth(t *testing.T) {
	for _, inner := range []impl.Value{listOf(), objectOf(""), listOf(val(impl.VlInt, "1")), objectOf("a", val(impl.VlVar, "x"))} {
		for times := range 20 {
			for _, wrap := range allWraps {
				wantDepth(t, within(inner, times, wrap), times < 10)
				wantValueAsOracle(t, within(inner, times, wrap))
				for _, second := range allWraps {
					wantDepth(t, within(inner, times, wrap, second), times < 10)
				}
			}
		}
	}
	for kind, texts := range rightTexts {
		for times := range 20 {
			wantDepth(t, within(val(kind, texts[0]), times, inList), times <= 10)
			wantDepth(t, within(val(kind, texts[0]), times, inObject), times <= 10)
			wantDepth(t, within(val(kind, texts[0]), times, inList, inObject), times <= 10)
			wantDepth(t, within(val(kind, texts[0]), times, inObject, inList), times <= 10)
		}
	}
	wantRight(t, within(listOf(), 9, inList), strings.Repeat("[", 10)+strings.Repeat("]", 10))
	wantRight(t, within(objectOf(""), 9, inObject), strings.Repeat("{a: ", 9)+"{}"+strings.Repeat("}", 9))
	wantRight(t, within(listOf(), 9, inObject, inList), "{a: [{a: [{a: [{a: [{a: []}]}]}]}]}")
	wantRight(t, within(val(impl.VlInt, "1"), 10, inList), strings.Repeat("[", 10)+"1"+strings.Repeat("]", 10))
	wantWrong(t, within(listOf(), 10, inList))
	wantWrong(t, within(objectOf(""), 10, inObject))
	wantWrong(t, within(listOf(), 10, inObject, inList))
	wantWrong(t, within(val(impl.VlInt, "1"), 11, inList))
}

func TestDepthIsThatOfTheDeepest(t *testing.T) {
	ten, eleven := within(listOf(), 9, inList, inObject), within(listOf(), 10, inList, inObject)
	nine := within(listOf(), 8, inList, inObject)
	for many := 1; many <= 4; many++ {
		for at := range many {
			for _, beside := range []impl.Value{listOf(), objectOf(""), val(impl.VlInt, "1"), nine} {
				items := slices.Repeat([]impl.Value{beside}, many)
				for deepest, right := range map[*impl.Value]bool{&nine: true, &ten: false, &eleven: false} {
					items[at] = *deepest
					if got := impl.ValueOk(listOf(items...)); got != right {
						t.Errorf("a list of %d with the deepest at %d: %v", many, at, got)
					}
					if got := impl.ValueOk(objectOf(strings.Repeat("a ", many), items...)); got != right {
						t.Errorf("an object of %d with the deepest at %d: %v", many, at, got)
					}
				}
			}
		}
	}
	// Those that stand side by side are not one within the other.
	wantRight(t, listOf(slices.Repeat([]impl.Value{listOf()}, 50)...), "["+strings.Repeat("[], ", 49)+"[]]")
	wantRight(t, ten, impl.ValueText(ten))
	wantWrong(t, eleven)
}

func TestKindsThatAreNone(t *testing.T) {
	wantWrong(t, impl.Value{})
	wantVars(t, impl.Value{})
	wantSame(t, impl.Value{}, impl.Value{}, true)
	for _, kind := range noKinds {
		for _, text := range someTexts {
			wantWrong(t, val(kind, text))
			wantVars(t, val(kind, text))
		}
		wantWrong(t, impl.Value{Kind: kind, Items: []impl.Value{val(impl.VlInt, "1")}})
		wantWrong(t, impl.Value{Kind: kind, Items: []impl.Value{val(impl.VlInt, "1")}, Names: []string{"a"}})
		wantSame(t, val(kind, ""), val(kind, ""), true)
		for _, other := range []int{1, 2, 3, 4, 5, 6, 7, 8} {
			wantSame(t, val(kind, ""), val(other, ""), false)
		}
	}
}

func TestValuesThatAreOtherwise(t *testing.T) {
	one, two := val(impl.VlInt, "1"), val(impl.VlInt, "2")
	same := [][2]impl.Value{
		{{}, {Items: []impl.Value{}, Names: []string{}}},
		{listOf(), {Kind: impl.VlList}},
		{listOf(), {Kind: impl.VlList, Items: []impl.Value{}, Names: []string{}}},
		{{Kind: impl.VlObject}, {Kind: impl.VlObject, Items: []impl.Value{}, Names: []string{}}},
		{val(impl.VlInt, "1"), {Kind: impl.VlInt, Text: "1", Items: []impl.Value{}, Names: []string{}}},
		{listOf(one, two), listOf(one, two)},
		{objectOf("a b", one, two), objectOf("a b", one, two)},
		{listOf(one, two), {Kind: impl.VlList, Items: []impl.Value{one, two, two}[:2:2]}},
		{val(9, "a"), val(9, "a")}, {val(impl.VlEnum, "true"), val(impl.VlEnum, "true")}, {objectOf("a"), objectOf("a")}, {objectOf("", one), objectOf("", one)},
	}
	other := [][2]impl.Value{
		{val(impl.VlVar, "a"), val(impl.VlEnum, "a")}, {val(impl.VlWord, "true"), val(impl.VlEnum, "true")}, {val(impl.VlInt, "1"), val(impl.VlFloat, "1")}, {val(impl.VlString, "1"), val(impl.VlInt, "1")},
		{listOf(), objectOf("")}, {{}, listOf()}, {{}, objectOf("")}, {val(impl.VlString, ""), {}}, {val(0, ""), val(9, "")}, {val(1, ""), val(-1, "")}, {val(math.MinInt, ""), val(0, "")},
		{val(impl.VlInt, "1"), val(impl.VlInt, "2")}, {val(impl.VlInt, "0"), val(impl.VlInt, "-0")}, {val(impl.VlFloat, "1.5"), val(impl.VlFloat, "1.50")}, {val(impl.VlFloat, "1e5"), val(impl.VlFloat, "1E5")},
		{val(impl.VlEnum, "a"), val(impl.VlEnum, "A")}, {val(impl.VlVar, "a"), val(impl.VlVar, "ab")}, {val(impl.VlString, ""), val(impl.VlString, "\x00")}, {val(impl.VlString, "\xff"), val(impl.VlString, "\xef\xbf\xbd")},
		{listOf(one), listOf(two)}, {listOf(one), listOf()}, {listOf(one, one), listOf(one)}, {listOf(one, two), listOf(two, one)}, {listOf(one, one), listOf(one, two)}, {listOf(one, one), listOf(two, one)}, {listOf(one), one},
		{listOf(listOf(one), two), listOf(listOf(one, two))}, {listOf(listOf(), listOf(one)), listOf(listOf(one), listOf())},
		{objectOf("a", one), objectOf("b", one)}, {objectOf("a", one), objectOf("a", two)}, {objectOf("a", one), objectOf("A", one)}, {objectOf("a b", one, two), objectOf("b a", one, two)}, {objectOf("a b", one, two), objectOf("b a", two, one)}, {objectOf("a b", one, two), objectOf("a b", two, one)},
		{objectOf("a b", one, two), objectOf("a", one)}, {objectOf("a a", one, one), objectOf("a", one)}, {objectOf("a b", one, two), objectOf("a c", one, two)}, {objectOf("a b", one, two), objectOf("c b", one, two)},
		{objectOf("a"), objectOf("")}, {objectOf("a"), objectOf("b")}, {objectOf("a b"), objectOf("a")}, {objectOf("a b"), objectOf("b a")}, {objectOf("", one), objectOf("")}, {objectOf("a", one), objectOf("", one)}, {objectOf("a", one), objectOf("a")},
		{objectOf("a", one), listOf(one)}, {{Kind: impl.VlList, Text: "a"}, listOf()}, {{Kind: impl.VlObject, Text: "a"}, objectOf("")}, {{Kind: impl.VlList, Names: []string{"a"}}, listOf()}, {{Kind: impl.VlList, Names: []string{""}}, listOf()},
		{{Kind: impl.VlInt, Text: "1", Items: []impl.Value{one}}, one}, {{Kind: impl.VlInt, Text: "1", Names: []string{"a"}}, one}, {{Kind: impl.VlVar, Text: "x", Items: []impl.Value{one}}, {Kind: impl.VlVar, Text: "x", Items: []impl.Value{two}}},
		{{Names: []string{"ab", "c"}}, {Names: []string{"a", "bc"}}}, {{Names: []string{"a", ""}}, {Names: []string{"", "a"}}}, {{Text: "a"}, {Names: []string{"a"}}},
	}
	for _, pair := range same {
		wantSameAnywhere(t, pair[0], pair[1], true)
	}
	for _, pair := range other {
		wantSameAnywhere(t, pair[0], pair[1], false)
	}
}

func wantSameAnywhere(t *testing.T, a impl.Value, b impl.Value, want bool) {
	t.Helper()
	wantSame(t, a, b, want)
	for _, wrap := range allWraps {
		for _, deep := range []int{1, 2, 9, 15} {
			wantSame(t, within(a, deep, wrap), within(b, deep, wrap), want)
			wantSame(t, within(a, deep, wrap, inList, inObject), within(b, deep, wrap, inList, inObject), want)
		}
	}
	// The items of any kind are looked at, also where it may have none.
	for kind := range 11 {
		wantSame(t, impl.Value{Kind: kind - 1, Text: "x", Items: []impl.Value{a, a}}, impl.Value{Kind: kind - 1, Text: "x", Items: []impl.Value{a, b}}, want)
		wantSame(t, impl.Value{Kind: kind - 1, Items: []impl.Value{b, b}}, impl.Value{Kind: kind - 1, Items: []impl.Value{a, b}}, want)
	}
}

// someValues has right values and others, each by itself and within others.
func someValues() []impl.Value {
	values := []impl.Value{{}, listOf(), objectOf(""), objectOf("a"), {Kind: impl.VlList, Names: []string{"a"}}, {Names: []string{"a"}}}
	for _, kind := range []int{-1, 0, 1, 2, 3, 4, 5, 6, 7, 8, 9} {
		for _, text := range []string{"", "a", "true", "1", "1.5"} {
			values = append(values, val(kind, text))
		}
	}
	for _, v := range slices.Clone(values) {
		values = append(values, listOf(v), listOf(v, v), objectOf("a", v), objectOf("b", v), objectOf("a", listOf(v)), impl.Value{Kind: impl.VlVar, Text: "a", Items: []impl.Value{v}}, listOf(listOf(), v), objectOf("a b", v, listOf(v)))
	}
	return values
}

func TestEveryPairOfValues(t *testing.T) {
	values := someValues()
	forms := []string{}
	for _, v := range values {
		wantValueAsOracle(t, v)
		forms = append(forms, shownOracle(v))
	}
	for i, a := range values {
		for j, b := range values {
			if got := impl.SameValue(a, b); got != (forms[i] == forms[j]) {
				t.Errorf("SameValue of %s and %s: %v", forms[i], forms[j], got)
			}
		}
	}
}

func TestRightValuesWithOneTextAreOne(t *testing.T) {
	texts := map[string]impl.Value{}
	for _, v := range someValues() {
		text := impl.ValueText(v)
		if text == "" {
			continue
		}
		if first, ok := texts[text]; ok && !impl.SameValue(first, v) {
			t.Errorf("%s and %s are both printed as %q", shown(first), shown(v), text)
		}
		texts[text] = v
	}
}

func TestVariables(t *testing.T) {
	x, y, z, one := val(impl.VlVar, "x"), val(impl.VlVar, "y"), val(impl.VlVar, "z"), val(impl.VlInt, "1")
	for kind, texts := range rightTexts {
		for _, text := range texts {
			if kind == impl.VlVar {
				wantVars(t, val(kind, text), text)
			} else {
				wantVars(t, val(kind, text))
			}
		}
	}
	for _, v := range []impl.Value{listOf(), objectOf(""), listOf(one), objectOf("x", one), listOf(val(impl.VlString, "$x")), objectOf("x y", listOf(), objectOf("z", one)), val(impl.VlEnum, "x"), val(impl.VlString, "x")} {
		wantVars(t, v)
	}
	wantVars(t, x, "x")
	wantVars(t, listOf(x), "x")
	wantVars(t, objectOf("a", x), "x")
	wantVars(t, listOf(x, y, z), "x", "y", "z")
	wantVars(t, listOf(z, y, x), "z", "y", "x")
	wantVars(t, listOf(one, x, one, y), "x", "y")
	wantVars(t, objectOf("c b a", z, x, y), "z", "x", "y")
	wantVars(t, listOf(x, x), "x")
	wantVars(t, listOf(x, y, x, y, z, x), "x", "y", "z")
	wantVars(t, objectOf("a b a", y, y, x), "y", "x")
	wantVars(t, listOf(listOf(x), y), "x", "y")
	wantVars(t, listOf(y, listOf(x)), "y", "x")
	wantVars(t, listOf(listOf(x, listOf(z)), y, objectOf("a b", y, x)), "x", "z", "y")
	wantVars(t, objectOf("a b c", listOf(objectOf("d", z)), x, listOf(listOf(z), y)), "z", "x", "y")
	wantVars(t, listOf(val(impl.VlVar, "x"), val(impl.VlVar, "X"), val(impl.VlVar, "xx")), "x", "X", "xx")
	for way, wrap := range allWraps {
		for deep := range 30 {
			v := within(x, deep, wrap)
			if got := impl.VarsIn(v); !slices.Equal(got, []string{"x"}) || impl.IsConst(v) {
				t.Errorf("VarsIn of $x %d times in %s: %q", deep, way, got)
			}
			wantVars(t, within(one, deep, wrap))
			wantVars(t, listOf(y, within(listOf(x, y), deep, wrap), z), "y", "x", "z")
		}
	}
}

func TestVariablesOfWhatIsNotRight(t *testing.T) {
	x, y, z := val(impl.VlVar, "x"), val(impl.VlVar, "y"), val(impl.VlVar, "z")
	// Of a variable nothing but its own name is told.
	wantVars(t, impl.Value{Kind: impl.VlVar, Text: "x", Items: []impl.Value{y, z}}, "x")
	wantVars(t, impl.Value{Kind: impl.VlVar, Text: "x", Items: []impl.Value{y}, Names: []string{"z"}}, "x")
	wantVars(t, impl.Value{Kind: impl.VlVar, Items: []impl.Value{y}}, "")
	wantVars(t, listOf(impl.Value{Kind: impl.VlVar, Text: "x", Items: []impl.Value{y}}, z), "x", "z")
	wantVars(t, listOf(impl.Value{Kind: impl.VlVar, Text: "x", Items: []impl.Value{y}}, y, x), "x", "y")
	// Of any other kind the items are looked at, whether it may have some or not.
	for _, kind := range append([]int{2, 3, 4, 5, 6, 7, 8}, noKinds...) {
		for _, text := range []string{"", "1", "1.5", "true", "w", "x"} {
			for _, names := range [][]string{nil, {"v"}, {"a", "b"}, {"a", "b", "c"}} {
				wantVars(t, impl.Value{Kind: kind, Text: text, Names: names, Items: []impl.Value{x}}, "x")
				wantVars(t, impl.Value{Kind: kind, Text: text, Names: names, Items: []impl.Value{y, {Kind: kind, Items: []impl.Value{z, y}}, x}}, "y", "z", "x")
				wantVars(t, impl.Value{Kind: kind, Text: text, Names: names})
				wantVars(t, impl.Value{Kind: kind, Text: text, Names: names, Items: []impl.Value{{Kind: kind, Text: "x"}}})
			}
		}
	}
	for _, text := range someTexts {
		wantVars(t, val(impl.VlVar, text), text)
		wantVars(t, listOf(val(impl.VlVar, text), x, val(impl.VlVar, text)), slices.Compact([]string{text, "x"})...)
	}
	wantVars(t, listOf(val(impl.VlVar, ""), val(impl.VlVar, ""), x), "", "x")
	wantVars(t, objectOf("x", impl.Value{}, y), "y")
	wantVars(t, objectOf("x y z", z), "z")
}

func TestManyVariables(t *testing.T) {
	items, names := []impl.Value{}, []string{}
	for i := range 20000 {
		names = append(names, fmt.Sprintf("v%d", (i*7919)%20000))
		items = append(items, val(impl.VlVar, names[i]))
	}
	wantVars(t, listOf(items...), names...)
	wantVars(t, listOf(append(items, items...)...), names...)
	wantVars(t, listOf(listOf(items[:7000]...), objectOf("a", items[7000:]...), listOf(items...)), names...)
}

// A stack of calls that went as deep as these values would be refused, and with it all tests.
func TestValuesDeeperThanCallsCanGo(t *testing.T) {
	defer debug.SetMaxStack(debug.SetMaxStack(4 << 20))
	const deep = 200000
	x, y := val(impl.VlVar, "x"), val(impl.VlVar, "y")
	one, two := within(x, deep, inList, inObject), within(x, deep, inList, inObject)
	other, plain := within(y, deep, inList, inObject), within(listOf(), deep, inList, inObject)
	if !impl.SameValue(one, two) || impl.SameValue(one, other) || impl.SameValue(one, plain) || impl.SameValue(one, listOf(one)) {
		t.Error("SameValue of what is very deep")
	}
	if got := impl.VarsIn(listOf(one, other)); !slices.Equal(got, []string{"x", "y"}) || impl.IsConst(one) || !impl.IsConst(plain) {
		t.Errorf("VarsIn of what is very deep: %q", got)
	}
	if impl.ValueOk(one) || impl.ValueOk(plain) || impl.ValueText(one) != "" || impl.ValueText(plain) != "" {
		t.Error("what is very deep is right")
	}
}

// withRoom is the same value, with room behind each of its lists in which something stands already.
func withRoom(v impl.Value) impl.Value {
	items := []impl.Value{}
	for _, item := range v.Items {
		items = append(items, withRoom(item))
	}
	items = append(items, val(77, "room"), val(78, "room"))
	names := append(slices.Clone(v.Names), "room1", "room2")
	return impl.Value{Kind: v.Kind, Text: v.Text, Items: items[:len(items)-2], Names: names[:len(names)-2]}
}

// wholeOf tells all of a value, and what stands in the room behind its lists.
func wholeOf(v impl.Value) string {
	items := ""
	for _, item := range v.Items[:cap(v.Items)] {
		items += wholeOf(item)
	}
	return fmt.Sprintf("<%d %q %d %d %s %q>", v.Kind, v.Text, len(v.Items), len(v.Names), items, v.Names[:cap(v.Names)])
}

func TestNothingIsWrittenIntoValues(t *testing.T) {
	for _, v := range append(someValues(), listOf(objectOf("a b", listOf(val(impl.VlVar, "x"), val(impl.VlInt, "1")), val(impl.VlVar, "y")), val(impl.VlVar, "x"))) {
		a, b := withRoom(v), withRoom(v)
		ahead := wholeOf(a)
		wantValueAsOracle(t, a)
		wantSame(t, a, b, true)
		wantSame(t, a, listOf(a), false)
		names := impl.VarsIn(a)
		for i := range names {
			names[i] = "other"
		}
		_ = append(names, "more", "more", "more")
		if got := wholeOf(a); got != ahead || wholeOf(b) != ahead {
			t.Errorf("%s has become %s", ahead, got)
		}
		wantVars(t, a, varsOracle(v)...)
	}
}

func TestVarsInAnswersNewMemory(t *testing.T) {
	v := objectOf("x y", val(impl.VlVar, "x"), val(impl.VlVar, "y"))
	first, second := impl.VarsIn(v), impl.VarsIn(v)
	first[0], first[1] = "other", "other"
	_ = append(first[:0], "a", "b", "c", "d")
	if !slices.Equal(second, []string{"x", "y"}) || !slices.Equal(v.Names, []string{"x", "y"}) {
		t.Errorf("%q, %q", second, v.Names)
	}
	wantVars(t, v, "x", "y")
}
