package tests

import (
	"fmt"
	"maps"
	"runtime/debug"
	"slices"
	"strings"
	"testing"

	"loop.example/g00964/impl"
)

// A value that is being put together: what is open, from the outside in, and what has to come next.
type readState struct {
	open     []impl.Value
	want     string
	constant bool
}

// The first one of what is open stands for the text itself, which has room for one value.
func (r *readState) put(v impl.Value) {
	last := len(r.open) - 1
	r.open[last].Items = append(r.open[last].Items, v)
	r.want = map[int]string{0: "nothing", 7: "item", 8: "name"}[r.open[last].Kind]
}

func (r *readState) shut() int {
	last := len(r.open) - 1
	v := r.open[last]
	r.open = r.open[:last]
	r.put(v)
	return 0
}

func (r *readState) see(token impl.Token) int {
	last := len(r.open) - 1
	form := []string{"", token.Text, "a name", "a number", "a number", "a text"}[token.Kind]
	switch r.want + " " + form {
	case "value a number", "item a number", "value a text", "item a text":
		r.put(val(token.Kind-1, token.Text))
	case "value a name", "item a name":
		if slices.Contains([]string{"true", "false", "null"}, token.Text) {
			r.put(val(5, token.Text))
		} else {
			r.put(val(6, token.Text))
		}
	case "value $", "item $":
		if r.constant {
			return 7
		}
		r.want = "variable"
	case "variable a name":
		r.put(val(1, token.Text))
	case "value [", "item [", "value {", "item {":
		if last == 10 {
			return 8
		}
		kind := map[string]int{"[": 7, "{": 8}[form]
		r.open = append(r.open, val(kind, ""))
		r.want = map[int]string{7: "item", 8: "name"}[kind]
	case "name a name":
		r.open[last].Names = append(r.open[last].Names, token.Text)
		r.want = "colon"
	case "colon :":
		r.want = "value"
	case "item ]", "name }":
		return r.shut()
	default:
		return 7
	}
	return 0
}

// The chapter's words, written another way, to hold the program against: token by token, without calls within calls.
func readOracle(s string, constant bool) (impl.Value, impl.Fault) {
	tokens, fault := tokensOracle(s)
	if fault.Code != 0 {
		return impl.Value{}, fault
	}
	r := readState{open: []impl.Value{{}}, want: "value", constant: constant}
	for _, token := range tokens {
		if code := r.see(token); code != 0 {
			return impl.Value{}, impl.Fault{Code: code, At: token.At}
		}
	}
	if r.want != "nothing" {
		return impl.Value{}, impl.Fault{Code: 7, At: len(s)}
	}
	return r.open[0].Items[0], impl.Fault{}
}

func wantReadAs(t *testing.T, s string, constant bool, v impl.Value, wrong impl.Fault) {
	t.Helper()
	if got, fault := impl.ReadValue(s, constant); fault != wrong || shownOracle(got) != shownOracle(v) {
		t.Errorf("ReadValue(%.300q, %v): %s, %v, want %s, %v", s, constant, shown(got), fault, shown(v), wrong)
	}
}

func wantReadAsOracle(t *testing.T, s string) {
	t.Helper()
	for _, constant := range []bool{false, true} {
		v, fault := readOracle(s, constant)
		wantReadAs(t, s, constant, v, fault)
		if as := impl.ReadsAs(s, v); !constant && as != (fault.Code == 0) {
			t.Errorf("ReadsAs(%.300q, %s): %v", s, shown(v), as)
		}
	}
}

// wantRead is for texts that are a value; one with variables is none where constant is true.
func wantRead(t *testing.T, s string, v impl.Value) {
	t.Helper()
	wantReadAs(t, s, false, v, impl.Fault{})
	if !impl.ReadsAs(s, v) {
		t.Errorf("ReadsAs(%.300q, %s) is false", s, shown(v))
	}
	if len(varsOracle(v)) == 0 {
		wantReadAs(t, s, true, v, impl.Fault{})
	}
}

// wantUnread is for texts that are no value; a `$` in them may be the fault where constant is true.
func wantUnread(t *testing.T, s string, code int, at int) {
	t.Helper()
	wantReadAs(t, s, false, impl.Value{}, impl.Fault{Code: code, At: at})
	if !strings.Contains(s, "$") {
		wantReadAs(t, s, true, impl.Value{}, impl.Fault{Code: code, At: at})
	}
	if impl.ReadsAs(s, impl.Value{}) {
		t.Errorf("ReadsAs(%.300q, nothing) is true", s)
	}
}

func wantNotConstant(t *testing.T, s string, at int) {
	t.Helper()
	wantReadAs(t, s, true, impl.Value{}, impl.Fault{Code: impl.FtSyntax, At: at})
}

// manyRight has right values of each kind, by themselves and in each place within others, as deep as may be; always in the same order.
func manyRight() []impl.Value {
	values := []impl.Value{listOf(), objectOf("")}
	for _, kind := range slices.Sorted(maps.Keys(rightTexts)) {
		for _, text := range rightTexts[kind] {
			values = append(values, val(kind, text))
		}
	}
	plain := slices.Clone(values)
	for _, way := range slices.Sorted(maps.Keys(allWraps)) {
		wrap := allWraps[way]
		for _, v := range plain {
			values = append(values, wrap(v), wrap(wrap(v)))
		}
		for _, v := range []impl.Value{val(impl.VlVar, "x"), val(impl.VlString, "a"), listOf(), objectOf("")} {
			for times := range 11 {
				values = append(values, within(v, times, wrap), within(v, times, wrap, inList), within(v, times, inObject, wrap))
			}
		}
	}
	return slices.DeleteFunc(append(values, someValues()...), func(v impl.Value) bool {
		_, _, ok := valueOracle(v)
		return !ok
	})
}

// piecesOf has the text of each token of a right value.
func piecesOf(v impl.Value) []string {
	tokens, _ := tokensOracle(impl.ValueText(v))
	pieces := []string{}
	for _, token := range tokens {
		if token.Kind == impl.TkString {
			token.Text = escapedOracle(token.Text)
		}
		pieces = append(pieces, token.Text)
	}
	return pieces
}

func TestReadLimits(t *testing.T) {
	if impl.FtSyntax != 7 || impl.FtDeep != 8 {
		t.Errorf("FtSyntax %d, FtDeep %d", impl.FtSyntax, impl.FtDeep)
	}
}

func TestRightValuesComeBack(t *testing.T) {
	values := manyRight()
	if len(values) < 2000 {
		t.Fatalf("%d values", len(values))
	}
	for _, v := range values {
		wantRead(t, impl.ValueText(v), v)
		wantReadAsOracle(t, impl.ValueText(v))
	}
}

func TestRightValuesComeBackWhateverIsBetween(t *testing.T) {
	for i, v := range manyRight() {
		pieces := piecesOf(v)
		for _, gap := range []string{" ", ",", allGaps[i%len(allGaps)], allGaps[(i/7)%len(allGaps)] + "\n"} {
			wantRead(t, strings.Join(pieces, gap), v)
			wantRead(t, gap+strings.Join(pieces, gap)+gap, v)
		}
		if !impl.ReadsAs("\xef\xbb\xbf"+strings.Join(pieces, "\r\n")+"#", v) {
			t.Errorf("%s does not come back with a mark ahead and a remark behind", shown(v))
		}
	}
	v := objectOf("a b", listOf(val(impl.VlInt, "1"), val(impl.VlVar, "x")), objectOf("c", val(impl.VlString, "#,")))
	for _, one := range allGaps {
		for _, other := range allGaps {
			text := ""
			for i, piece := range piecesOf(v) {
				text += piece + []string{one, other, one + other}[i%3]
			}
			wantRead(t, one+text, v)
		}
	}
}

func TestValuesWithNothingBetween(t *testing.T) {
	x, yes := val(impl.VlVar, "x"), val(impl.VlWord, "true")
	wantRead(t, `{a:"x"b:[true$x]c:{}d:[]}`, objectOf("a b c d", val(impl.VlString, "x"), listOf(yes, x), objectOf(""), listOf()))
	wantRead(t, `[[][]{}{}]`, listOf(listOf(), listOf(), objectOf(""), objectOf("")))
	wantRead(t, `["a""b""""c"""true]`, listOf(val(impl.VlString, "a"), val(impl.VlString, "b"), val(impl.VlString, "c"), yes))
	wantRead(t, `[1-2-3.5]`, listOf(val(impl.VlInt, "1"), val(impl.VlInt, "-2"), val(impl.VlFloat, "-3.5")))
	wantRead(t, `[$x$x a]`, listOf(x, x, val(impl.VlEnum, "a")))
	wantRead(t, `{a:$x x:x}`, objectOf("a x", x, val(impl.VlEnum, "x")))
	wantRead(t, `[a[b]{c:d}e]`, listOf(val(impl.VlEnum, "a"), listOf(val(impl.VlEnum, "b")), objectOf("c", val(impl.VlEnum, "d")), val(impl.VlEnum, "e")))
	wantRead(t, "{a:1,,,b,:,2,}", objectOf("a b", val(impl.VlInt, "1"), val(impl.VlInt, "2")))
	wantRead(t, ",,1,,", val(impl.VlInt, "1"))
	wantRead(t, "[,1,,2,]", listOf(val(impl.VlInt, "1"), val(impl.VlInt, "2")))
}

func TestNumbersThatAreRead(t *testing.T) {
	for kind, numbers := range map[int][]string{impl.VlInt: wholeTexts, impl.VlFloat: otherTexts} {
		for _, number := range numbers {
			v := val(kind, number)
			wantRead(t, number, v)
			wantRead(t, " \n"+number+"#", v)
			wantRead(t, "["+number+" "+number+"]", listOf(v, v))
			wantRead(t, "{a:"+number+"}", objectOf("a", v))
			wantRead(t, `"`+number+`"`, val(impl.VlString, number))
			wantUnread(t, "$"+number, impl.FtSyntax, 1)
			wantUnread(t, "{"+number+": 1}", impl.FtSyntax, 1)
			wantUnread(t, number+" "+number, impl.FtSyntax, len(number)+1)
		}
	}
	for _, s := range noNumbers {
		wantReadAsOracle(t, s)
		wantReadAsOracle(t, "["+s+"]")
	}
}

func TestTextsThatAreRead(t *testing.T) {
	for s, text := range map[string]string{
		`""`: "", `"a"`: "a", `" "`: " ", `"true"`: "true", `"$x"`: "$x", `"[1]"`: "[1]", `"#,"`: "#,", `"\""`: `"`, `"\\\n\t"`: "\\\n\t", `"\u0041"`: "A", `"\u{41}"`: "A", `"\ud83d\ude00"`: "😀", `"é€😀"`: "é€😀",
		`""""""`: "", `"""a"""`: "a", `"""a\"""b"""`: `a"""b`, `"""\n"""`: `\n`, "\"\"\"\n    a\n      b\n  \"\"\"": "a\n  b", "\"\"\"a\r\n  b\r\n  \"\"\"": "a\nb", `""""]"""`: `"]`,
		`"` + strings.Repeat("a", 200) + `"`: strings.Repeat("a", 200), `"""` + strings.Repeat("a", 200) + `"""`: strings.Repeat("a", 200),
	} {
		v := val(impl.VlString, text)
		wantRead(t, s, v)
		wantRead(t, "#\""+"\n"+s+" ,#\"", v)
		wantRead(t, "["+s+" "+s+"]", listOf(v, v))
		wantRead(t, "{a:"+s+"b:"+s+"}", objectOf("a b", v, v))
		wantUnread(t, "$"+s, impl.FtSyntax, 1)
		wantUnread(t, "{"+s+": 1}", impl.FtSyntax, 1)
		wantUnread(t, s+" "+s, impl.FtSyntax, len(s)+1)
	}
}

func TestWordsAndNamesThatAreRead(t *testing.T) {
	for kind, names := range map[int][]string{impl.VlWord: {"true", "false", "null"}, impl.VlEnum: rightTexts[impl.VlEnum]} {
		for _, name := range names {
			v := val(kind, name)
			wantRead(t, name, v)
			wantRead(t, "["+name+"]", listOf(v))
			wantRead(t, "["+name+","+name+"]", listOf(v, v))
			wantRead(t, "{"+name+":"+name+"}", objectOf(name, v))
			wantRead(t, "$"+name, val(impl.VlVar, name))
			wantRead(t, "{"+name+":$"+name+"}", objectOf(name, val(impl.VlVar, name)))
			wantRead(t, `"`+name+`"`, val(impl.VlString, name))
			wantUnread(t, name+" "+name, impl.FtSyntax, len(name)+1)
			wantUnread(t, name+":1", impl.FtSyntax, len(name))
		}
	}
	wantUnread(t, tooLongName, impl.FtSign, 0)
	wantUnread(t, "{"+tooLongName+": 1}", impl.FtSign, 1)
	wantUnread(t, "$"+tooLongName, impl.FtSign, 1)
}

func TestVariablesThatAreRead(t *testing.T) {
	for _, name := range rightTexts[impl.VlVar] {
		x := val(impl.VlVar, name)
		for _, gap := range append([]string{""}, allGaps...) {
			s := "$" + gap + name
			wantRead(t, s, x)
			wantNotConstant(t, s, 0)
			wantNotConstant(t, gap+s, len(gap))
		}
		wantRead(t, "[$"+name+"]", listOf(x))
		wantNotConstant(t, "[$"+name+"]", 1)
		wantRead(t, "[1 $"+name+" 2]", listOf(val(impl.VlInt, "1"), x, val(impl.VlInt, "2")))
		wantNotConstant(t, "[1 $"+name+" 2]", 3)
		wantRead(t, "{a: $"+name+"}", objectOf("a", x))
		wantNotConstant(t, "{a: $"+name+"}", 4)
		wantRead(t, "{a: 1, b: [$"+name+" $"+name+"]}", objectOf("a b", val(impl.VlInt, "1"), listOf(x, x)))
		wantNotConstant(t, "{a: 1, b: [$"+name+" $"+name+"]}", 11)
		wantUnread(t, "{$"+name+": 1}", impl.FtSyntax, 1)
		wantUnread(t, "$"+name+" "+name, impl.FtSyntax, len(name)+2)
	}
	for times := range 11 {
		x := val(impl.VlVar, "x")
		wantRead(t, strings.Repeat("[", times)+"$x"+strings.Repeat("]", times), within(x, times, inList))
		wantNotConstant(t, strings.Repeat("[", times)+"$x"+strings.Repeat("]", times), times)
		wantRead(t, strings.Repeat("{a:", times)+"$x"+strings.Repeat("}", times), within(x, times, inObject))
		wantNotConstant(t, strings.Repeat("{a:", times)+"$x"+strings.Repeat("}", times), 3*times)
	}
}

func TestVariablesWithoutNames(t *testing.T) {
	others := slices.Concat(allSigns, []string{"1", "-2.5", `"x"`, `"""x"""`, `""`})
	for _, gap := range append([]string{""}, allGaps...) {
		wantUnread(t, "$"+gap, impl.FtSyntax, 1+len(gap))
		wantUnread(t, "[$"+gap, impl.FtSyntax, 2+len(gap))
		wantUnread(t, "{a:$"+gap, impl.FtSyntax, 4+len(gap))
		wantNotConstant(t, "$"+gap, 0)
		wantNotConstant(t, "{a:$"+gap, 3)
		for _, other := range others {
			wantUnread(t, "$"+gap+other, impl.FtSyntax, 1+len(gap))
			wantUnread(t, "$"+gap+other+" x", impl.FtSyntax, 1+len(gap))
			wantUnread(t, "[$"+gap+other+" x]", impl.FtSyntax, 2+len(gap))
			wantUnread(t, "{a:$"+gap+other+"}", impl.FtSyntax, 4+len(gap))
			wantNotConstant(t, "$"+gap+other, 0)
			wantNotConstant(t, "[$"+gap+other+"]", 1)
		}
	}
	wantUnread(t, "[1 $]", impl.FtSyntax, 4)
	wantUnread(t, "[$ $x]", impl.FtSyntax, 3)
	wantUnread(t, "$$x", impl.FtSyntax, 1)
	wantUnread(t, "x$", impl.FtSyntax, 1)
	wantUnread(t, "$x$y", impl.FtSyntax, 2)
}

func TestListsThatAreRead(t *testing.T) {
	one, a := val(impl.VlInt, "1"), val(impl.VlEnum, "a")
	wantRead(t, "[]", listOf())
	wantRead(t, " [ , ] ", listOf())
	wantRead(t, "[1]", listOf(one))
	wantRead(t, "[1 a 1]", listOf(one, a, one))
	wantRead(t, "[a, 1,]", listOf(a, one))
	wantRead(t, "[[]]", listOf(listOf()))
	wantRead(t, "[[] []]", listOf(listOf(), listOf()))
	wantRead(t, "[[1] a [[a]]]", listOf(listOf(one), a, listOf(listOf(a))))
	wantRead(t, "[{} [] {a: []}]", listOf(objectOf(""), listOf(), objectOf("a", listOf())))
	for many := range 30 {
		wantRead(t, "["+strings.Repeat("1 ", many)+"]", listOf(slices.Repeat([]impl.Value{one}, many)...))
		wantRead(t, "["+strings.Repeat("[1]", many)+"]", listOf(slices.Repeat([]impl.Value{listOf(one)}, many)...))
		wantRead(t, "{"+strings.Repeat("a:[]", many)+"}", objectOf(strings.Repeat("a ", many), slices.Repeat([]impl.Value{listOf()}, many)...))
	}
	for s, at := range map[string]int{"[": 1, "[1": 2, "[1 ": 3, "[[]": 3, "[[1]": 4, "[}": 1, "[1}": 2, "[:": 1, "[a:": 2, "[a: 1]": 2, "[)": 1, "(]": 0, "[!]": 1, "[1 | 2]": 3, "[...]": 1, "[1 ... 2]": 3, "[]]": 2, "[][]": 2, "[] 1": 3, "[1]]": 3, "[[}]": 2, "[{]": 2, "[{]}": 2, "[1 = 2]": 3, "[&]": 1, "[@a]": 1, "[1, 2, ]]": 8} {
		wantUnread(t, s, impl.FtSyntax, at)
	}
}

func TestObjectsThatAreRead(t *testing.T) {
	one, a := val(impl.VlInt, "1"), val(impl.VlEnum, "a")
	wantRead(t, "{}", objectOf(""))
	wantRead(t, ",{\n}#", objectOf(""))
	wantRead(t, "{a: 1}", objectOf("a", one))
	wantRead(t, "{ a : a b : 1 }", objectOf("a b", a, one))
	wantRead(t, "{b: a, a: 1, c: a}", objectOf("b a c", a, one, a))
	wantRead(t, "{a: 1, a: a}", objectOf("a a", one, a))
	wantRead(t, "{a: 1, b: a, a: 1}", objectOf("a b a", one, a, one))
	wantRead(t, "{a: a, a: a}", objectOf("a a", a, a))
	wantRead(t, "{true: true, null: 1, false: a}", objectOf("true null false", val(impl.VlWord, "true"), one, a))
	wantRead(t, "{on: 1, __typename: 1, _: 1}", objectOf("on __typename _", one, one, one))
	wantRead(t, "{"+longestName+":1}", objectOf(longestName, one))
	wantRead(t, "{a: {}}", objectOf("a", objectOf("")))
	wantRead(t, "{a: {b: 1} c: {}}", objectOf("a c", objectOf("b", one), objectOf("")))
	wantRead(t, "{a: {a: {a: a}}}", objectOf("a", objectOf("a", objectOf("a", a))))
	wantRead(t, "{a: [{b: [1 {c: a}]}] d: []}", objectOf("a d", listOf(objectOf("b", listOf(one, objectOf("c", a)))), listOf()))
}

func TestObjectsThatAreWrong(t *testing.T) {
	for s, at := range map[string]int{
		"{": 1, "{ ": 2, "{]": 1, "{a": 2, "{a ": 3, "{a}": 2, "{a 1}": 3, "{a b}": 3, "{a b: 1}": 3, "{a,b: 1}": 3, "{a]": 2, "{a=1}": 2, "{a: ": 4, "{a:": 3, "{a:}": 3, "{a: }": 4, "{a:]": 3, "{a:)": 3, "{a::1}": 3, "{a: :1}": 4, "{a: b: 1}": 5, "{a: 1": 5, "{a: 1 ": 6, "{a: 1]": 5, "{a: 1 1}": 6, "{a: 1 b}": 7, "{a: 1 b:}": 8, "{a: 1 :}": 6, "{a: 1 2: 3}": 6, "{a: 1 \"b\": 3}": 6, "{a: 1 [}": 6, "{a: 1 {}}": 6, "{a: 1 $b: 1}": 6,
		"{1}": 1, "{1: 1}": 1, "{1.5: 1}": 1, `{"a": 1}`: 1, `{"""a""": 1}`: 1, "{:1}": 1, "{: 1}": 1, "{[]}": 1, "{{}}": 1, "{{": 1, "{[": 1, "{$a: 1}": 1, "{$": 1, "{!}": 1, "{...}": 1, "{a...}": 2, "{a(b: 1)}": 2, "{a: {b}}": 6, "{a: {b: }}": 8, "{a: {}": 6, "{}}": 2, "{}{}": 2, "{} a": 3, "{}:": 2, "{a: [}": 5, "{a: [1 }]": 7, "{a: {]}": 5, "{a: b}}": 6, "}{": 0, ":{}": 0,
	} {
		wantUnread(t, s, impl.FtSyntax, at)
	}
}

func TestTenWithinEachOther(t *testing.T) {
	one := val(impl.VlInt, "1")
	for times := range 11 {
		wantRead(t, strings.Repeat("[", times)+"1"+strings.Repeat("]", times), within(one, times, inList))
		wantRead(t, strings.Repeat("{a:", times)+"1"+strings.Repeat("}", times), within(one, times, inObject))
		wantReadAsOracle(t, strings.Repeat("[{a:", times)+"1"+strings.Repeat("}]", times))
	}
	wantRead(t, "[[[[[[[[[[]]]]]]]]]]", within(listOf(), 9, inList))
	wantRead(t, "{a:{a:{a:{a:{a:{a:{a:{a:{a:{}}}}}}}}}}", within(objectOf(""), 9, inObject))
	wantRead(t, "[{a:[{a:[{a:[{a:[{a:1}]}]}]}]}]", within(one, 10, inObject, inList))
	wantRead(t, "{a:[{a:[{a:[{a:[{a:[]}]}]}]}]}", within(listOf(), 9, inObject, inList))
	// Those that were shut are not around what comes behind them.
	nine := strings.Repeat("[", 9) + strings.Repeat("]", 9)
	deep := within(listOf(), 8, inList)
	wantRead(t, "["+nine+nine+nine+"]", listOf(deep, deep, deep))
	wantRead(t, "{a:"+nine+"b:"+nine+"}", objectOf("a b", deep, deep))
	wantRead(t, "["+strings.Repeat("[]", 50)+"]", listOf(slices.Repeat([]impl.Value{listOf()}, 50)...))
	wantRead(t, strings.Repeat("[", 9)+strings.Repeat("{}[]", 20)+strings.Repeat("]", 9), within(listOf(slices.Repeat([]impl.Value{objectOf(""), listOf()}, 20)...), 8, inList))
}

// Ten that are open, in several ways, each with room for a value behind it.
var tenOpen = []string{
	strings.Repeat("[", 10), strings.Repeat("{a:", 10), strings.Repeat("[{a:", 5), strings.Repeat("{a:[", 5), "[[[[[{a:{a:{a:{a:{a:", "{a:{a:{a:{a:{a:[[[[[", strings.Repeat("[", 9) + "{a:", strings.Repeat("{a:", 9) + "[",
	strings.Repeat("[ ", 10), strings.Repeat("{a: \n", 10), strings.Repeat("[1 ", 10), strings.Repeat("[[] {}", 9) + "[", strings.Repeat("{b: 1, a: ", 10), strings.Repeat("{b: [{}] a:", 8) + "[[", strings.Repeat("[#é\n", 10), strings.Repeat(`["€"`, 10), strings.Repeat("[[[]]", 8) + "{a:[", "\xef\xbb\xbf" + strings.Repeat("[", 10), " ,#[[[\n" + strings.Repeat("[", 10),
}

func TestElevenWithinEachOther(t *testing.T) {
	behind := []string{
		"", " ", "#", "]", "}", "1", "a", "a:", "a:1", "]]]]]]]]]]]", "}}}}}}}}}}}", "[", "{", "[[[[[", "{{{", ":", "$", "$x", "$ 1", `"a"`, "!", "...", ") ( |", "a b c", "1]]]]]]]]]]] 1", "a: 1}}}}}}}}}}}", "@", "=", "&",
	}
	for _, open := range tenOpen {
		for _, sign := range []string{"[", "{"} {
			for _, rest := range behind {
				wantUnread(t, open+sign+rest, impl.FtDeep, len(open))
				wantUnread(t, open+" \n,#[\n"+sign+rest, impl.FtDeep, len(open)+6)
				wantReadAs(t, open+sign+rest, true, impl.Value{}, impl.Fault{Code: impl.FtDeep, At: len(open)})
			}
		}
		wantReadAsOracle(t, open+"1")
		wantReadAsOracle(t, open+"1]")
		wantReadAsOracle(t, open+"[]")
		wantUnread(t, open, impl.FtSyntax, len(open))
		wantUnread(t, open+":[", impl.FtSyntax, len(open))
		wantUnread(t, open+")[", impl.FtSyntax, len(open))
		wantUnread(t, open+"$[", impl.FtSyntax, len(open)+1)
		wantNotConstant(t, open+"$[", len(open))
		wantNotConstant(t, open+"$x [", len(open))
	}
	wantUnread(t, strings.Repeat("[", 2000), impl.FtDeep, 10)
	wantUnread(t, strings.Repeat("{a:", 800), impl.FtDeep, 30)
	wantUnread(t, strings.Repeat("[", 11)+strings.Repeat("]", 11), impl.FtDeep, 10)
	wantUnread(t, strings.Repeat("[", 12)+strings.Repeat("]", 12), impl.FtDeep, 10)
}

func TestTheEleventhBehindSomething(t *testing.T) {
	nine, ten := strings.Repeat("[", 9), strings.Repeat("[", 10)
	for s, at := range map[string]int{
		ten + "1 [": 12, ten + "1, 2, [": 16, ten + "$x [": 13, ten + `"é" [`: 15, ten + "a {": 12, ten + "null{a: 1}": 14,
		ten + "]][[[": 14, ten + "] [] [] [[": 19, nine + "[] [] [[": 16, nine + "[] {a: [": 16, nine + "[1] {a: 1, b: {": 23,
		"[[[[[" + "[[[[[]]]]] [[[[[[": 21, strings.Repeat("{a:", 9) + "{b: 1, c: [": 37,
	} {
		wantUnread(t, s, impl.FtDeep, at)
	}
	for _, s := range []string{ten + "][", ten + "]][[", ten + "]]{a:{b:1}c:[]", nine + "[] [] [] {}"} {
		wantUnread(t, s, impl.FtSyntax, len(s))
	}
}

func TestSignsThatCannotStandWhereTheEleventhDoes(t *testing.T) {
	nine := strings.Repeat("[", 9)
	// Where a name, a colon or nothing has to come, no list and no object can stand, however deep that is.
	for s, at := range map[string]int{
		nine + "{[": 10, nine + "{{": 10, nine + "{a[": 11, nine + "{a{": 11, nine + "{a:1[": 13, nine + "{a:1{": 13, nine + "[$[": 11, nine + "[$ {": 12, nine + "[]" + "]]]]]]]]][": 20, nine + "[]]]]]]]]]] {": 21,
	} {
		wantUnread(t, s, impl.FtSyntax, at)
	}
	// What can't stand ahead of the eleventh is told, not the eleventh.
	for s, at := range map[string]int{
		"} " + nine + "[[": 0, ": " + nine + "[[": 0, "[[[ ) [[[[[[[[[[": 4, "[[[ } [[[[[[[[[[": 4, "[[[[[[[[[ : [[": 10, "[[[[[[[[[[ : [": 11, "{a {a:{a:{a:{a:{a:{a:{a:{a:{a:{a:{a:": 3, "1 " + nine + "[[[": 2, "[] " + nine + "[[[": 3, "$ " + nine + "[[[": 2,
	} {
		wantUnread(t, s, impl.FtSyntax, at)
	}
}

// Texts that are no tokens, with the code that TokensOf tells.
var brokenPieces = map[string]int{
	"%": impl.FtSign, ".": impl.FtSign, "..": impl.FtSign, "é": impl.FtSign, "+": impl.FtSign, "'": impl.FtSign, ";": impl.FtSign, "\x00": impl.FtSign, "\\": impl.FtSign, tooLongName: impl.FtSign,
	"01": impl.FtNumber, "-": impl.FtNumber, "1a": impl.FtNumber, "1.": impl.FtNumber, "1e": impl.FtNumber, "-x": impl.FtNumber, strings.Repeat("9", 41): impl.FtNumber,
	`"`: impl.FtString, `"a`: impl.FtString, `"\x"`: impl.FtString, "\"\n\"": impl.FtString, `"""`: impl.FtString, `"""a""`: impl.FtString, `"` + strings.Repeat("a", 201) + `"`: impl.FtString, `"\ud800"`: impl.FtString,
	"\xff": impl.FtText, "a\xff": impl.FtText, "\xed\xa0\x80": impl.FtText, "#\xc3": impl.FtText,
}

func TestFaultsOfTokensCountFirst(t *testing.T) {
	deep := strings.Repeat("[", 11)
	for broken, code := range brokenPieces {
		more := 0
		if code == impl.FtText {
			more = firstNoScalar(broken)
		}
		for _, ahead := range []string{
			"", " ", "1 ", "[", "[1 ", "{", "{a:", "{a: 1 ", "$", "$x ", "[1] ", "{} ",
			"]", "}", ":", "1 2 ", "{1 ", "{a b ", "[) ", "[}", "! ", "[1]] ", "a: b ", "$1 ", "$$ ",
			deep, deep + "] ", deep + "1 ", strings.Repeat("{a:", 11), strings.Repeat("[", 10), "#é\n", `"€" `, `"""😀""" `, "\xef\xbb\xbf",
		} {
			wantUnread(t, ahead+broken, code, len(ahead)+more)
			wantReadAs(t, ahead+broken, true, impl.Value{}, impl.Fault{Code: code, At: len(ahead) + more})
			for _, behind := range []string{" ", "\n]", "\n1 2", "\n}", "\n%", "\n01", "\n" + deep, "\n\""} {
				wantReadAsOracle(t, ahead+broken+behind)
			}
		}
	}
	wantUnread(t, "% "+"\xff", impl.FtText, 2)
	wantUnread(t, "] \" %", impl.FtString, 2)
	wantUnread(t, "[[[[[[[[[[[ 01 %", impl.FtNumber, 12)
}

func TestTextsThatAreCutShort(t *testing.T) {
	for _, v := range []impl.Value{
		val(impl.VlVar, "x"), listOf(), objectOf(""), listOf(val(impl.VlInt, "1")), objectOf("a", val(impl.VlInt, "1")),
		listOf(val(impl.VlInt, "1"), val(impl.VlVar, "x"), listOf(val(impl.VlString, "é"), objectOf("a b", listOf(), val(impl.VlWord, "null"))), objectOf("")),
		objectOf("a b c", listOf(val(impl.VlFloat, "1.5"), listOf()), val(impl.VlVar, "y"), objectOf("d e", objectOf(""), val(impl.VlEnum, "RED"))),
		within(val(impl.VlInt, "1"), 10, inList, inObject), within(listOf(), 9, inObject),
	} {
		pieces := piecesOf(v)
		for many := range pieces {
			for _, gap := range append(allGaps, "#", "# a", " #é€", "#\n#]") {
				s := strings.Join(pieces[:many], " ") + gap
				wantUnread(t, s, impl.FtSyntax, len(s))
			}
		}
		wantRead(t, strings.Join(pieces, " "), v)
	}
}

func TestOneMoreTokenBehindAValue(t *testing.T) {
	more := slices.Concat(allSigns, []string{"a", "true", "null", "1", "-1", "1.5", `"a"`, `""`, `"""a"""`, "$x", "[]", "{}", "[1", "{a"})
	for _, s := range []string{"1", "-2.5", `"a"`, `"""a"""`, "true", "null", "RED", "$x", "[]", "{}", "[1 2]", "{a: 1}", "[[]]", "{a: {b: [$x]}}", strings.Repeat("[", 10) + strings.Repeat("]", 10), strings.Repeat("{a:", 10) + "1" + strings.Repeat("}", 10)} {
		for _, gap := range allGaps {
			for _, other := range more {
				wantUnread(t, s+gap+other, impl.FtSyntax, len(s+gap))
				wantUnread(t, s+gap+other+gap+other, impl.FtSyntax, len(s+gap))
			}
		}
	}
}

func TestSignsThatBeginNoValue(t *testing.T) {
	for _, sign := range []string{"!", "&", "(", ")", "...", ":", "=", "@", "]", "|", "}"} {
		for _, behind := range []string{"", " ", "1", "[", "]", "{", "}", "a", "$x", "[]", "{}", ":", `"a"`, "...", ")", "1]", "a: 1}", "#"} {
			for _, gap := range append([]string{""}, allGaps...) {
				wantUnread(t, gap+sign+behind, impl.FtSyntax, len(gap))
			}
			wantUnread(t, "{a:"+sign+behind, impl.FtSyntax, 3)
			if sign != "]" {
				wantUnread(t, "["+sign+behind, impl.FtSyntax, 1)
				wantUnread(t, "[[] "+sign+behind, impl.FtSyntax, 4)
			}
			if sign != "}" {
				wantUnread(t, "{"+sign+behind, impl.FtSyntax, 1)
				wantUnread(t, "{a: 1 "+sign+behind, impl.FtSyntax, 6)
			}
			if sign != ":" {
				wantUnread(t, "{a"+sign+behind, impl.FtSyntax, 2)
			}
		}
	}
}

func TestPlacesAreThoseOfBytes(t *testing.T) {
	for s, at := range map[string]int{
		`["é" :]`: 6, `["€" :]`: 7, `["😀" :]`: 8, `["""é€😀""" )]`: 17, "#é€😀\n]": 11, "#é€😀\r\n\t,]": 14, "\xef\xbb\xbf]": 3, "\xef\xbb\xbf\n [}": 6, "\"é\"\n\n1": 6, `["\u00e9" }`: 10, "{a: \"\"\"\n é\n \"\"\" :}": 17,
	} {
		wantUnread(t, s, impl.FtSyntax, at)
	}
	for s, code := range map[string]int{"[\"é€😀\" [[[[[[[[[[": impl.FtDeep, "#é\n[[[[[[[[[[[": impl.FtDeep} {
		wantUnread(t, s, code, len(s)-1)
	}
	for _, s := range []string{`["é"`, `["😀" `, "[#é€😀", "{a#é\n", "{a:\t\t\n", "$ \r\n#é", "\xef\xbb\xbf", "\xef\xbb\xbf[", "\xef\xbb\xbf #😀"} {
		wantUnread(t, s, impl.FtSyntax, len(s))
	}
}

func TestTextsOfNothing(t *testing.T) {
	wantUnread(t, "", impl.FtSyntax, 0)
	for _, gap := range append(allGaps, "#", "# a", "#[1]", "\xef\xbb\xbf", strings.Repeat(" ", 12000), strings.Repeat(",", 11999), "#"+strings.Repeat("a", 11999)) {
		wantUnread(t, gap, impl.FtSyntax, len(gap))
	}
	wantUnread(t, strings.Repeat(" ", 12001), impl.FtLong, 0)
}

func TestSourcesAtTheirGreatestLength(t *testing.T) {
	for _, s := range []string{"[]", "{a: 1}", "$x", "null", `"a"`, "[[[[[[[[[[]]]]]]]]]]"} {
		v, _ := readOracle(s, false)
		wantRead(t, s+strings.Repeat(" ", 12000-len(s)), v)
		wantRead(t, strings.Repeat("\n", 12000-len(s))+s, v)
		wantRead(t, s+"#"+strings.Repeat("a", 11999-len(s)), v)
		wantUnread(t, s+strings.Repeat(" ", 12001-len(s)), impl.FtLong, 0)
		wantUnread(t, strings.Repeat("\n", 12001-len(s))+s, impl.FtLong, 0)
	}
	wantUnread(t, "["+strings.Repeat(" ", 11999), impl.FtSyntax, 12000)
	wantUnread(t, strings.Repeat(" ", 11999)+"]", impl.FtSyntax, 11999)
	wantUnread(t, strings.Repeat(" ", 11989)+strings.Repeat("[", 11), impl.FtDeep, 11999)
	wantUnread(t, strings.Repeat("[", 12001), impl.FtLong, 0)
	wantUnread(t, strings.Repeat("]", 12001), impl.FtLong, 0)
	wantUnread(t, strings.Repeat("\xff", 12001), impl.FtLong, 0)
	wantUnread(t, strings.Repeat("\xff", 12000), impl.FtText, 0)
}

func TestAsManyTokensAsThereMayBe(t *testing.T) {
	one := val(impl.VlInt, "1")
	full := listOf(slices.Repeat([]impl.Value{one}, 2498)...)
	wantRead(t, "["+strings.Repeat("1 ", 2498)+"]", full)
	wantRead(t, impl.ValueText(full), full)
	wantUnread(t, "["+strings.Repeat("1 ", 2499)+"]", impl.FtMany, 1+2*2499)
	wantUnread(t, "["+strings.Repeat("1 ", 2499), impl.FtSyntax, 1+2*2499)
	wantUnread(t, "["+strings.Repeat("1 ", 2500), impl.FtMany, 1+2*2499)
	wantRead(t, "{"+strings.Repeat("a:1 ", 832)+"}", objectOf(strings.Repeat("a ", 832), slices.Repeat([]impl.Value{one}, 832)...))
	wantUnread(t, "{"+strings.Repeat("a:1 ", 833)+"}", impl.FtMany, 1+4*833)
	wantUnread(t, strings.Repeat("[", 2500), impl.FtDeep, 10)
	wantUnread(t, strings.Repeat("[", 2501), impl.FtMany, 2500)
	wantUnread(t, strings.Repeat("]", 2500), impl.FtSyntax, 0)
	wantUnread(t, strings.Repeat("]", 2501), impl.FtMany, 2500)
	wantUnread(t, strings.Repeat("1 ", 2501), impl.FtMany, 5000)
	// A right value whose text is longer than a source may be does not come back.
	long := listOf(slices.Repeat([]impl.Value{val(impl.VlString, strings.Repeat("a", 200))}, 60)...)
	wantUnread(t, impl.ValueText(long), impl.FtLong, 0)
	if impl.ReadsAs(impl.ValueText(long), long) {
		t.Error("a text that is too long reads as its value")
	}
}

func TestEveryShortTextThatIsRead(t *testing.T) {
	eachText([]string{"1 ", "a ", "true ", "$", "[", "]", "{", "}", ":"}, 5, func(s string) { wantReadAsOracle(t, s) })
	eachText([]string{"1.5 ", `"a"`, "b ", "null ", "$", "[", "]", "{", "}", ":", "!", "(", "|", "...", "% ", "01 "}, 3, func(s string) { wantReadAsOracle(t, s) })
	eachText([]string{"a ", "$", "[", "]", "{", "}", "a:"}, 6, func(s string) { wantReadAsOracle(t, s) })
}

func TestEveryShortTextThatIsReadWithinOthers(t *testing.T) {
	for _, open := range []string{"[", "{a:", "[{a:", "{a:[", "[[[[[[[[", "{a:{a:{a:{a:{a:{a:{a:{a:{a:", "[[[[[[[[[", "[[[[[[[[[[", "[{a:[{a:[{a:[{a:[", "[{a:[{a:[{a:[{a:[{a:"} {
		shut := strings.NewReplacer("[", "]", "{a:", "}").Replace(open)
		reversed := []byte(shut)
		slices.Reverse(reversed)
		eachText([]string{"1 ", "a ", "$", "[", "]", "{", "}", ":"}, 3, func(s string) {
			wantReadAsOracle(t, open+s)
			wantReadAsOracle(t, open+s+string(reversed))
		})
	}
}

func TestEachTokenLeftOutChangedOrTwice(t *testing.T) {
	others := slices.Concat(allSigns, []string{"1", "2.5", `"z"`, `"""z"""`, "z", "true", "%", "01", `"`})
	for _, v := range []impl.Value{
		listOf(val(impl.VlInt, "1"), objectOf("a b", val(impl.VlVar, "x"), listOf(val(impl.VlString, "s"))), val(impl.VlWord, "null")),
		objectOf("a true c", listOf(), val(impl.VlEnum, "RED"), objectOf("d", val(impl.VlFloat, "1.5"))),
		within(val(impl.VlVar, "x"), 10, inObject, inList),
	} {
		pieces := piecesOf(v)
		for at := range pieces {
			wantReadAsOracle(t, strings.Join(slices.Delete(slices.Clone(pieces), at, at+1), " "))
			for _, other := range append([]string{pieces[at]}, others...) {
				changed := slices.Clone(pieces)
				changed[at] = other
				wantReadAsOracle(t, strings.Join(changed, " "))
				wantReadAsOracle(t, strings.Join(slices.Insert(slices.Clone(pieces), at, other), " "))
			}
		}
	}
}

func TestEveryByteInATextOfAValue(t *testing.T) {
	for _, s := range []string{`{a: [1 $x], b: "c"}`, "[true -2.5 {}]", "$y"} {
		for at := range len(s) + 1 {
			for b := range 256 {
				wantReadAsOracle(t, s[:at]+string([]byte{byte(b)})+s[at:])
				if at < len(s) {
					wantReadAsOracle(t, s[:at]+string([]byte{byte(b)})+s[at+1:])
				}
			}
		}
	}
}

func TestReadsAsIsNotConstant(t *testing.T) {
	x := val(impl.VlVar, "x")
	for s, v := range map[string]impl.Value{"$x": x, "[$x]": listOf(x), "{a: $x, b: [1 {c: $x}]}": objectOf("a b", x, listOf(val(impl.VlInt, "1"), objectOf("c", x)))} {
		if !impl.ReadsAs(s, v) {
			t.Errorf("ReadsAs(%q, %s) is false", s, shown(v))
		}
	}
}

func TestReadsAsOfTextsWithAFault(t *testing.T) {
	values := append(someValues(), within(listOf(), 10, inList), within(val(impl.VlInt, "1"), 11, inList))
	for _, s := range []string{"", " ", "#", "]", "[", "{", "{a", "{a:", "$", "[1", "1 2", "1 1", "a a", "[] []", "%", "01", `"`, "\xff", strings.Repeat("[", 11) + strings.Repeat("]", 11), strings.Repeat("[", 11) + "1" + strings.Repeat("]", 11), strings.Repeat(" ", 12001), strings.Repeat("1 ", 2501), ":", "a:1", "[a:1]", "{1}"} {
		for _, v := range values {
			if impl.ReadsAs(s, v) {
				t.Errorf("ReadsAs(%.300q, %s) is true", s, shown(v))
			}
		}
	}
}

// otherInOnePart has the values that are this one but for one of its parts.
func otherInOnePart(v impl.Value) []impl.Value {
	others := []impl.Value{{}, listOf(v), objectOf("a", v)}
	for kind := range 11 {
		others = append(others, impl.Value{Kind: kind - 1, Text: v.Text, Items: v.Items, Names: v.Names})
	}
	for _, text := range []string{"", "a", "x", "1", "true", v.Text + "a", v.Text + "\x00", " " + v.Text, strings.ToUpper(v.Text)} {
		others = append(others, impl.Value{Kind: v.Kind, Text: text, Items: v.Items, Names: v.Names})
	}
	for at, name := range v.Names {
		for _, other := range []string{"", "z", name + "a", strings.ToUpper(name)} {
			names := slices.Clone(v.Names)
			names[at] = other
			others = append(others, impl.Value{Kind: v.Kind, Text: v.Text, Items: v.Items, Names: names})
		}
		others = append(others, impl.Value{Kind: v.Kind, Text: v.Text, Items: v.Items, Names: slices.Delete(slices.Clone(v.Names), at, at+1)})
	}
	others = append(others, impl.Value{Kind: v.Kind, Text: v.Text, Items: v.Items, Names: append(slices.Clone(v.Names), "z")})
	for at, item := range v.Items {
		for _, other := range otherInOnePart(item) {
			items := slices.Clone(v.Items)
			items[at] = other
			others = append(others, impl.Value{Kind: v.Kind, Text: v.Text, Items: items, Names: v.Names})
		}
		others = append(others, impl.Value{Kind: v.Kind, Text: v.Text, Items: slices.Delete(slices.Clone(v.Items), at, at+1), Names: v.Names})
		others = append(others, impl.Value{Kind: v.Kind, Text: v.Text, Items: slices.Insert(slices.Clone(v.Items), at, item), Names: v.Names})
	}
	return append(others, impl.Value{Kind: v.Kind, Text: v.Text, Items: append(slices.Clone(v.Items), impl.Value{}), Names: v.Names})
}

func TestReadsAsOfValuesThatAreOtherwise(t *testing.T) {
	one, x := val(impl.VlInt, "1"), val(impl.VlVar, "x")
	for _, v := range []impl.Value{
		one, x, val(impl.VlFloat, "1.5"), val(impl.VlString, "x"), val(impl.VlString, ""), val(impl.VlWord, "true"), val(impl.VlEnum, "x"), listOf(), objectOf(""),
		listOf(one), objectOf("a", one), listOf(one, x), listOf(x, one), objectOf("a b", one, x), objectOf("b a", one, x), objectOf("a a", x, one),
		listOf(one, listOf(x, objectOf("a", val(impl.VlString, "x"))), val(impl.VlWord, "null")), objectOf("a b c", listOf(one, one), objectOf("x", x), listOf()),
	} {
		text := impl.ValueText(v)
		for _, other := range otherInOnePart(v) {
			same := shownOracle(other) == shownOracle(v)
			if got := impl.ReadsAs(text, other); got != same {
				t.Errorf("ReadsAs(%q, %s): %v", text, shown(other), got)
			}
		}
	}
	swapped := objectOf("b a", one, x)
	if impl.ReadsAs("{a: 1, b: $x}", swapped) || impl.ReadsAs("[1 $x]", listOf(x, one)) || impl.ReadsAs("{a: 1}", listOf(one)) || impl.ReadsAs(`"1"`, one) || impl.ReadsAs("1", val(impl.VlFloat, "1")) || impl.ReadsAs("-0", val(impl.VlInt, "0")) || impl.ReadsAs("1.50", val(impl.VlFloat, "1.5")) || impl.ReadsAs("true", val(impl.VlEnum, "true")) || impl.ReadsAs("$x", val(impl.VlVar, "$x")) {
		t.Error("a text reads as what is otherwise")
	}
}

func TestReadsAsOfEveryTextAndValue(t *testing.T) {
	texts := []string{"a", "true", "1", "1.5", `"a"`, "$a", `""`, "[]", "{}", "[a]", "[a a]", "{a: a}", "{b: a}", "{a: [a]}", "[[] a]", "{a: 1, b: [1]}", "[true]", "[1]", "{a: $a}"}
	for _, s := range texts {
		read, _ := readOracle(s, false)
		found := 0
		for _, v := range someValues() {
			same := shownOracle(read) == shownOracle(v)
			if got := impl.ReadsAs(s, v); got != same {
				t.Errorf("ReadsAs(%q, %s): %v", s, shown(v), got)
			}
			if same {
				found++
			}
		}
		if found == 0 {
			t.Errorf("no value is %q", s)
		}
	}
}

func TestReadsAsOfValuesThatAreNotRight(t *testing.T) {
	for _, v := range someValues() {
		_, _, right := valueOracle(v)
		for _, s := range []string{v.Text, impl.ValueText(v), "$" + v.Text, "[]", "{}", "[" + v.Text + "]"} {
			if !right && impl.ReadsAs(s, v) {
				t.Errorf("ReadsAs(%q, %s) is true", s, shown(v))
			}
		}
	}
	empty := impl.Value{Kind: impl.VlList, Items: []impl.Value{}, Names: []string{}}
	if !impl.ReadsAs("[]", empty) || !impl.ReadsAs("[]", impl.Value{Kind: impl.VlList}) || !impl.ReadsAs("{}", impl.Value{Kind: impl.VlObject, Names: []string{}}) {
		t.Error("an empty list and nil are not the same")
	}
}

// What is held against a text may be deeper than calls can go, or hold itself: the text has an end.
func TestReadsAsOfValuesWithoutEnd(t *testing.T) {
	defer debug.SetMaxStack(debug.SetMaxStack(4 << 20))
	ring := []impl.Value{{Kind: impl.VlList}}
	ring[0].Items = ring
	for times := 1; times <= 11; times++ {
		if impl.ReadsAs(strings.Repeat("[", times)+strings.Repeat("]", times), ring[0]) {
			t.Errorf("%d lists read as a list that holds itself", times)
		}
	}
	deep := within(val(impl.VlInt, "1"), 200000, inList)
	if impl.ReadsAs("[[[[[[[[[[1]]]]]]]]]]", deep) || impl.ReadsAs("1", deep) || impl.ReadsAs("", deep) {
		t.Error("a text reads as what is very deep")
	}
}

func TestReadsAsWritesNothing(t *testing.T) {
	for _, v := range someValues() {
		held := withRoom(v)
		ahead := wholeOf(held)
		for _, s := range []string{impl.ValueText(v), "[1 [a]]", "{a: a}", ""} {
			impl.ReadsAs(s, held)
		}
		if got := wholeOf(held); got != ahead {
			t.Errorf("%s has become %s", ahead, got)
		}
	}
}

// overwritten fills all lists of a value, and the room behind them, with something else, one list at a time.
func overwritten(v impl.Value, see func(what string)) {
	names := v.Names[:cap(v.Names)]
	for i := range names {
		names[i] = "other"
	}
	see("names")
	for _, item := range v.Items {
		overwritten(item, see)
	}
	items := v.Items[:cap(v.Items)]
	for i := range items {
		items[i] = val(77, "other")
	}
	see("items")
}

func TestReadValueAnswersNewMemory(t *testing.T) {
	for _, s := range []string{"[]", "{}", "[1]", "{a: 1}", "[[] [] []]", "[[1 2 3] [1 2] [1] [$x]]", "{a: {b: 1, c: [2]}, d: {e: 1}, f: {}}", "[{a: 1, b: 2, c: 3}, {a: [1 2 3 4 5], b: {c: [1]}}, [[[[1]]]]]", "[[[[[[[[[[]]]]]]]]]]"} {
		first, _ := impl.ReadValue(s, false)
		second, _ := impl.ReadValue(s, false)
		want := shownOracle(second)
		overwritten(first, func(what string) {
			if got := shownOracle(second); got != want {
				t.Fatalf("%q: another answer became %s when %s were overwritten", s, got, what)
			}
		})
		wantReadAsOracle(t, s)
	}
}

// Each list of an answer is overwritten alone: all others have to stay as they are.
func TestNoTwoListsOfAnAnswerShareMemory(t *testing.T) {
	for _, s := range []string{"[[1 2 3] [1 2] [1] [] [5]]", "[{a: 1, b: 2, c: 3} {a: 1} {} {d: 4, e: 5}]", "{a: [1 2], b: {c: [3], d: {e: 6}}, f: [[7] [8 9]]}"} {
		whole, _ := readOracle(s, false)
		for at := range listsIn(whole) {
			v, _ := impl.ReadValue(s, false)
			want, _ := readOracle(s, false)
			changeList(&v, at)
			changeList(&want, at)
			if shownOracle(v) != shownOracle(want) {
				t.Errorf("%q: with list %d overwritten it is %s", s, at, shownOracle(v))
			}
		}
	}
}

func listsIn(v impl.Value) int {
	many := 2
	for _, item := range v.Items {
		many += listsIn(item)
	}
	return many
}

// changeList overwrites the names or the items (and the room behind them) of the value that is counted as this one; it tells what is left to count.
func changeList(v *impl.Value, at int) int {
	if at == 0 {
		names := v.Names[:cap(v.Names)]
		for i := range names {
			names[i] = "other"
		}
	}
	if at == 1 {
		items := v.Items[:cap(v.Items)]
		for i := range items {
			items[i] = val(77, fmt.Sprint("other", i))
		}
	}
	at -= 2
	for i := range v.Items {
		if at < 0 {
			break
		}
		at = changeList(&v.Items[i], at)
	}
	return at
}

func TestReadValueKeepsNothing(t *testing.T) {
	for range 3 {
		wantUnread(t, "[[[[[[[[[[[", impl.FtDeep, 10)
		wantRead(t, "[[[[[[[[[[]]]]]]]]]]", within(listOf(), 9, inList))
		wantUnread(t, "{a: [1", impl.FtSyntax, 6)
		wantRead(t, "1", val(impl.VlInt, "1"))
		wantNotConstant(t, "$x", 0)
		wantRead(t, "$x", val(impl.VlVar, "x"))
	}
}
